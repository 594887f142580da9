/- The walk of RestrictSpaces, over what the calls have to return. -/
import Derived.Test.YtbjhleajhkofeaaDoorD6
import Derived.Laws.BitsAllLaws
namespace Go.Proofs.YtbjhleajhkofeaaDoor
open Go.RowKit
set_option linter.unusedVariables false
set_option linter.unusedSimpArgs false
attribute [local go_sem ↓] Go.wp_at_zero Go.wp_at_succ

set_option maxRecDepth 100000 in
set_option maxHeartbeats 16000000 in
theorem restrictSpaces_walk {G : World → Prop} (HC : RestrictC G) (v : ByteArray) (w : World) (hG : G w) : Calls Tryd.prog 5 #[.string v] w fun e w' => e = .returned (.bool true) ∧ Below w.heap.size w w' := by
  have HON := Lib.hid (fun (w w' : World) => HC.on (w := w) (w' := w'))
  have HG := Lib.hid hG
  have HAW := Lib.hid (fun (W : World) (g : G W) => awake18_any HC W g)
  by_cases h1 : (300 : Int) < v.size
  · clear HC hG
    go_enter Tryd.func5, Tryd.ntmps5
    go_wp2_with (first
  | (go_at_call 9
     ((with_reducible refine (HAW.out w (HON.out _ _ HG.out (Below.refl _ _))).mono ?_); rintro e v9 ⟨rfl, b9⟩)
     have BZ := Lib.hid (thn16 (Below.refl _ _) b9)
     clear b9))
    go_ret
    exact ⟨rfl, BZ.out⟩
  have hv4 : v.size ≤ 400 := by omega
  have ht4 : (til18 v).size ≤ 400 := by rw [til_size18]; omega
  have HWD := Lib.hid (fun (X : World) (g : G X) => HC.words v X g (by omega))
  obtain ⟨nw, hnw⟩ : ∃ n, n = (wdL v.data.toList).length := ⟨_, rfl⟩
  rw [← hnw] at HWD
  by_cases h2 : nw = 0
  · subst h2
    clear HC hG
    go_enter Tryd.func5, Tryd.ntmps5
    go_wp2_with (first
  | (go_at_call 14
     ((with_reducible refine (HWD.out w HG.out).mono ?_); rintro e v1 ⟨qw, cw, rfl, b1⟩)
     have BW := Lib.hid b1
     clear b1)
  | (go_at_call 9
     ((with_reducible refine (HAW.out v1 (HON.out _ _ HG.out BW.out)).mono ?_); rintro e v9 ⟨rfl, b9⟩)
     have BZ := Lib.hid (thn16 BW.out b9)
     clear b9))
    go_ret
    exact ⟨rfl, BZ.out⟩
  have hwn : (wdL v.data.toList) ≠ [] := fun e => h2 (by rw [hnw, e]; rfl)
  have HBO := Lib.hid (fun (X : World) (g : G X) => HC.bool v X g (by omega))
  have HTU := Lib.hid (fun (X : World) (g : G X) => HC.turned v X g (by omega))
  have HA1 := Lib.hid (fun (X : World) (g : G (World.alloc X (.cells #[.string v] 9))) => (show Calls Tryd.prog 17 #[.string ⟨#[82, 101, 115, 116, 114, 105, 99, 116, 78, 97, 109, 101, 115, 112, 97, 99, 101, 115]⟩, .slice (some ⟨X.heap.size, 0, none⟩) 1 1] (World.alloc X (.cells #[.string v] 9)) fun e w' => ∃ p, e = .returned (.tuple #[plV p ({ PZ18 with sp := (spaF 0 (v)).1 } : Pol), .int .i64 ((spaF 0 (v)).2.length : Nat)]) ∧ OwnP (World.alloc X (.cells #[.string v] 9)).heap.size w' p { PZ18 with sp := (spaF 0 (v)).1 } ∧ Below (World.alloc X (.cells #[.string v] 9)).heap.size (World.alloc X (.cells #[.string v] 9)) w' from by
    have := after_c HC kSpa (.slice (some ⟨X.heap.size, 0, none⟩) 1 1) [v] _ g (by decide) (strs_lit18 X [v]) (by show 1 ≤ 4; decide) (fun x hx => by rw [List.mem_singleton.1 hx]; first | exact hv4 | exact ht4)
    rw [show ([v] : List ByteArray).length = 1 from rfl, runA_spa] at this
    exact this))
  have HA2 := Lib.hid (fun (X : World) (g : G (World.alloc X (.cells #[.string (til18 v)] 9))) => (show Calls Tryd.prog 17 #[.string ⟨#[82, 101, 115, 116, 114, 105, 99, 116, 78, 97, 109, 101, 115, 112, 97, 99, 101, 115]⟩, .slice (some ⟨X.heap.size, 0, none⟩) 1 1] (World.alloc X (.cells #[.string (til18 v)] 9)) fun e w' => ∃ p, e = .returned (.tuple #[plV p ({ PZ18 with sp := (spaF 0 (til18 v)).1 } : Pol), .int .i64 ((spaF 0 (til18 v)).2.length : Nat)]) ∧ OwnP (World.alloc X (.cells #[.string (til18 v)] 9)).heap.size w' p { PZ18 with sp := (spaF 0 (til18 v)).1 } ∧ Below (World.alloc X (.cells #[.string (til18 v)] 9)).heap.size (World.alloc X (.cells #[.string (til18 v)] 9)) w' from by
    have := after_c HC kSpa (.slice (some ⟨X.heap.size, 0, none⟩) 1 1) [til18 v] _ g (by decide) (strs_lit18 X [til18 v]) (by show 1 ≤ 4; decide) (fun x hx => by rw [List.mem_singleton.1 hx]; first | exact hv4 | exact ht4)
    rw [show ([til18 v] : List ByteArray).length = 1 from rfl, runA_spa] at this
    exact this))
  have HSP := Lib.hid (fun (X : World) (g : G X) => HC.spaces X g)
  have HSY := Lib.hid (fun (X : World) (g : G X) => spaces_c HC ⟨#[121, 101, 115]⟩ X g (by decide))
  rw [show (runA18 kSpa [⟨#[121, 101, 115]⟩] 1).1.sp = allN by kernel_rfl] at HSY
  have key := spa_two18 v hwn
  have lt1 := spa_lt18 v
  have lt2 := spa_lt18 (til18 v)
  obtain ⟨x1, hx1⟩ : ∃ x, x = (spaF 0 v).1 := ⟨_, rfl⟩
  obtain ⟨x2, hx2⟩ : ∃ x, x = (spaF 0 (til18 v)).1 := ⟨_, rfl⟩
  obtain ⟨n1, hn1⟩ : ∃ x, x = (spaF 0 v).2.length := ⟨_, rfl⟩
  obtain ⟨n2, hn2⟩ : ∃ x, x = (spaF 0 (til18 v)).2.length := ⟨_, rfl⟩
  rw [← hx1, ← hn1] at HA1
  rw [← hx2, ← hn2] at HA2
  rw [← hx1, ← hx2, ← hn1, ← hn2] at key
  rw [← hx1] at lt1
  rw [← hx2] at lt2
  obtain ⟨Q1, hQ1⟩ : ∃ P : Pol, P = { PZ18 with sp := x1 } := ⟨_, rfl⟩
  rw [← hQ1] at HA1
  obtain ⟨Q2, hQ2⟩ : ∃ P : Pol, P = { PZ18 with sp := x2 } := ⟨_, rfl⟩
  rw [← hQ2] at HA2
  have HQ1 := Lib.hid hQ1
  have HQ2 := Lib.hid hQ2
  obtain ⟨bv, hbv⟩ : ∃ b, b = boolR v := ⟨_, rfl⟩
  obtain ⟨tr, htr⟩ : ∃ b, b = (turnR v).2 := ⟨_, rfl⟩
  obtain ⟨be, hbe⟩ : ∃ b, b = boolE v := ⟨_, rfl⟩
  have hbe2 : be = if bv.isSome = true then 0 else 150 := by rw [hbe, hbv]; rfl
  rw [← hbv, ← hbe] at HBO
  rw [← htr] at HTU
  rw [← hbv, ← htr] at key
  clear HC hG hx1 hx2 hn1 hn2 hQ1 hQ2 hbv htr hbe hwn hnw hv4 ht4
  by_cases h3 : be = 0
  · subst h3
    clear hbe2 key
    go_enter Tryd.func5, Tryd.ntmps5
    go_wp2_with (first
      | (go_at_call 14
         ((with_reducible refine (HWD.out w HG.out).mono ?_); rintro e v1 ⟨qw, cw, rfl, b1⟩)
         have BW := Lib.hid b1
         clear b1)
      | (go_at_call 15
         ((with_reducible refine (HBO.out v1 (HON.out _ _ HG.out BW.out)).mono ?_); rintro e v2 ⟨rfl, b2⟩)
         have BB := Lib.hid (thn16 BW.out b2)
         clear b2)
      | (go_at_call 16
         ((with_reducible refine (HTU.out v2 (HON.out _ _ HG.out BB.out)).mono ?_); rintro e v3 ⟨rfl, b3⟩)
         have BT := Lib.hid (thn16 BB.out b3)
         clear b3)
      | (go_at_call 17
         skip
         ((with_reducible refine (HA1.out v3 (HON.out _ _ HG.out (thn16 BT.out (below16 v3 _)))).mono ?_); rintro e v4 ⟨p1, rfl, o1, b1⟩)
         have B1 := Lib.hid (thn16 (below16 v3 (.cells #[.string v] 9)) b1)
         clear o1 b1)
      | ((with_reducible show wpList _ _ _ (⟨none, .store 32 (.tmp 7) (.tmp 35), _, _, _, _⟩ :: _) _ _)
         refine wpList_store_mid rfl 32 (.tmp 7) (.tmp 35) rfl v4.heap.size 0 (plC p1 Q1).toArray (by rfl) (by rfl) (there_row17 (heap_alloc_new v4 (.cells #[.slice none 0 0, .int .u8 0, .slice none 0 0, .int .u32 0, .int .u8 0, .slice none 0 0, .slice none 0 0, .int .u8 0, .int .u64 0, .bool false, .bool false, .bool false, .bool false] 32)) (show 0 + 13 ≤ 13 by decide)) pl_info (plC_one _ _) ?_
         show wpList _ _ _ _ _ ((World.alloc v4 (.cells #[.slice none 0 0, .int .u8 0, .slice none 0 0, .int .u32 0, .int .u8 0, .slice none 0 0, .slice none 0 0, .int .u8 0, .int .u64 0, .bool false, .bool false, .bool false, .bool false] 32)).setCells v4.heap.size 0 (plC p1 Q1))
         have BS := Lib.hid (show Below v3.heap.size v3 _ from below_setCells16 B1.out.size (plC p1 Q1) 0 _ (B1.out.alloc B1.out.size (.cells #[.slice none 0 0, .int .u8 0, .slice none 0 0, .int .u32 0, .int .u8 0, .slice none 0 0, .slice none 0 0, .int .u8 0, .int .u64 0, .bool false, .bool false, .bool false, .bool false] 32)))
         have BX1 := Lib.hid (thn16 BT.out BS.out)
         have HB1 := Lib.hid (set_fresh17 (p := p1) (P := Q1) (heap_alloc_new v4 (.cells #[.slice none 0 0, .int .u8 0, .slice none 0 0, .int .u32 0, .int .u8 0, .slice none 0 0, .slice none 0 0, .int .u8 0, .int .u64 0, .bool false, .bool false, .bool false, .bool false] 32)) rfl)
         obtain ⟨g1, hg1⟩ : ∃ g, g = v4.heap.size := ⟨_, rfl⟩
         rw [← hg1] at BS BX1 HB1 ⊢
         have c1 := (cell_of_row _ g1 8 _ _ (0, 0) HB1.out).trans (show _ = some (Value.int .u64 (x1 : Nat)) from by rw [HQ1.out]; rfl)

         generalize (World.alloc v4 (.cells #[.slice none 0 0, .int .u8 0, .slice none 0 0, .int .u32 0, .int .u8 0, .slice none 0 0, .slice none 0 0, .int .u8 0, .int .u64 0, .bool false, .bool false, .bool false, .bool false] 32)).setCells g1 0 (plC p1 Q1) = X1 at BS BX1 HB1 c1 ⊢
         clear BS B1 hg1)
      | (go_at_call 17
         rw [show (({ data := #[126] } : ByteArray) ++ v) = til18 v from rfl]
         ((with_reducible refine (HA2.out X1 (HON.out _ _ HG.out (thn16 BX1.out (below16 X1 _)))).mono ?_); rintro e v5 ⟨p2, rfl, o2, b2⟩)
         have B2 := Lib.hid (thn16 (below16 X1 (.cells #[.string (til18 v)] 9)) b2)
         clear o2 b2)
      | ((with_reducible show wpList _ _ _ (⟨none, .store 32 (.tmp 9) (.tmp 42), _, _, _, _⟩ :: _) _ _)
         refine wpList_store_mid rfl 32 (.tmp 9) (.tmp 42) rfl v5.heap.size 0 (plC p2 Q2).toArray (by rfl) (by rfl) (there_row17 (heap_alloc_new v5 (.cells #[.slice none 0 0, .int .u8 0, .slice none 0 0, .int .u32 0, .int .u8 0, .slice none 0 0, .slice none 0 0, .int .u8 0, .int .u64 0, .bool false, .bool false, .bool false, .bool false] 32)) (show 0 + 13 ≤ 13 by decide)) pl_info (plC_one _ _) ?_
         show wpList _ _ _ _ _ ((World.alloc v5 (.cells #[.slice none 0 0, .int .u8 0, .slice none 0 0, .int .u32 0, .int .u8 0, .slice none 0 0, .slice none 0 0, .int .u8 0, .int .u64 0, .bool false, .bool false, .bool false, .bool false] 32)).setCells v5.heap.size 0 (plC p2 Q2))
         have BS := Lib.hid (show Below X1.heap.size X1 _ from below_setCells16 B2.out.size (plC p2 Q2) 0 _ (B2.out.alloc B2.out.size (.cells #[.slice none 0 0, .int .u8 0, .slice none 0 0, .int .u32 0, .int .u8 0, .slice none 0 0, .slice none 0 0, .int .u8 0, .int .u64 0, .bool false, .bool false, .bool false, .bool false] 32)))
         have BX2 := Lib.hid (thn16 BX1.out BS.out)
         have HB2 := Lib.hid (set_fresh17 (p := p2) (P := Q2) (heap_alloc_new v5 (.cells #[.slice none 0 0, .int .u8 0, .slice none 0 0, .int .u32 0, .int .u8 0, .slice none 0 0, .slice none 0 0, .int .u8 0, .int .u64 0, .bool false, .bool false, .bool false, .bool false] 32)) rfl)
         have HB1 := Lib.hid (blk_on HB1.out BS.out)
         clear c1
         obtain ⟨g2, hg2⟩ : ∃ g, g = v5.heap.size := ⟨_, rfl⟩
         rw [← hg2] at BS BX2 HB2 HB1 ⊢
         have c2 := (cell_of_row _ g2 8 _ _ (0, 0) HB2.out).trans (show _ = some (Value.int .u64 (x2 : Nat)) from by rw [HQ2.out]; rfl)
         have c1 := (cell_of_row _ g1 8 _ _ (0, 0) HB1.out).trans (show _ = some (Value.int .u64 (x1 : Nat)) from by rw [HQ1.out]; rfl)
         generalize (World.alloc v5 (.cells #[.slice none 0 0, .int .u8 0, .slice none 0 0, .int .u32 0, .int .u8 0, .slice none 0 0, .slice none 0 0, .int .u8 0, .int .u64 0, .bool false, .bool false, .bool false, .bool false] 32)).setCells g2 0 (plC p2 Q2) = X2 at BS BX2 HB2 c2 HB1 c1 ⊢
         clear BS B2 hg2)
      | (go_at_call 9
         ((with_reducible refine (HAW.out X2 (HON.out _ _ HG.out BX2.out)).mono ?_); rintro e v9 ⟨rfl, b9⟩)
         have BZ := Lib.hid (thn16 BX2.out b9)
         clear b9))
    go_ret
    exact ⟨rfl, BZ.out⟩
  have hbn : bv = none := by
    cases bv with
    | none => rfl
    | some x => exact absurd hbe2 h3
  subst hbn
  have key := key rfl
  by_cases h4 : tr = true
  · subst h4
    clear hbe2 key
    go_enter Tryd.func5, Tryd.ntmps5
    go_wp2_with (first
      | (go_at_call 14
         ((with_reducible refine (HWD.out w HG.out).mono ?_); rintro e v1 ⟨qw, cw, rfl, b1⟩)
         have BW := Lib.hid b1
         clear b1)
      | (go_at_call 15
         ((with_reducible refine (HBO.out v1 (HON.out _ _ HG.out BW.out)).mono ?_); rintro e v2 ⟨rfl, b2⟩)
         have BB := Lib.hid (thn16 BW.out b2)
         clear b2)
      | (go_at_call 16
         ((with_reducible refine (HTU.out v2 (HON.out _ _ HG.out BB.out)).mono ?_); rintro e v3 ⟨rfl, b3⟩)
         have BT := Lib.hid (thn16 BB.out b3)
         clear b3)
      | (go_at_call 17
         skip
         ((with_reducible refine (HA1.out v3 (HON.out _ _ HG.out (thn16 BT.out (below16 v3 _)))).mono ?_); rintro e v4 ⟨p1, rfl, o1, b1⟩)
         have B1 := Lib.hid (thn16 (below16 v3 (.cells #[.string v] 9)) b1)
         clear o1 b1)
      | ((with_reducible show wpList _ _ _ (⟨none, .store 32 (.tmp 7) (.tmp 35), _, _, _, _⟩ :: _) _ _)
         refine wpList_store_mid rfl 32 (.tmp 7) (.tmp 35) rfl v4.heap.size 0 (plC p1 Q1).toArray (by rfl) (by rfl) (there_row17 (heap_alloc_new v4 (.cells #[.slice none 0 0, .int .u8 0, .slice none 0 0, .int .u32 0, .int .u8 0, .slice none 0 0, .slice none 0 0, .int .u8 0, .int .u64 0, .bool false, .bool false, .bool false, .bool false] 32)) (show 0 + 13 ≤ 13 by decide)) pl_info (plC_one _ _) ?_
         show wpList _ _ _ _ _ ((World.alloc v4 (.cells #[.slice none 0 0, .int .u8 0, .slice none 0 0, .int .u32 0, .int .u8 0, .slice none 0 0, .slice none 0 0, .int .u8 0, .int .u64 0, .bool false, .bool false, .bool false, .bool false] 32)).setCells v4.heap.size 0 (plC p1 Q1))
         have BS := Lib.hid (show Below v3.heap.size v3 _ from below_setCells16 B1.out.size (plC p1 Q1) 0 _ (B1.out.alloc B1.out.size (.cells #[.slice none 0 0, .int .u8 0, .slice none 0 0, .int .u32 0, .int .u8 0, .slice none 0 0, .slice none 0 0, .int .u8 0, .int .u64 0, .bool false, .bool false, .bool false, .bool false] 32)))
         have BX1 := Lib.hid (thn16 BT.out BS.out)
         have HB1 := Lib.hid (set_fresh17 (p := p1) (P := Q1) (heap_alloc_new v4 (.cells #[.slice none 0 0, .int .u8 0, .slice none 0 0, .int .u32 0, .int .u8 0, .slice none 0 0, .slice none 0 0, .int .u8 0, .int .u64 0, .bool false, .bool false, .bool false, .bool false] 32)) rfl)
         obtain ⟨g1, hg1⟩ : ∃ g, g = v4.heap.size := ⟨_, rfl⟩
         rw [← hg1] at BS BX1 HB1 ⊢
         have c1 := (cell_of_row _ g1 8 _ _ (0, 0) HB1.out).trans (show _ = some (Value.int .u64 (x1 : Nat)) from by rw [HQ1.out]; rfl)

         generalize (World.alloc v4 (.cells #[.slice none 0 0, .int .u8 0, .slice none 0 0, .int .u32 0, .int .u8 0, .slice none 0 0, .slice none 0 0, .int .u8 0, .int .u64 0, .bool false, .bool false, .bool false, .bool false] 32)).setCells g1 0 (plC p1 Q1) = X1 at BS BX1 HB1 c1 ⊢
         clear BS B1 hg1)
      | (go_at_call 17
         rw [show (({ data := #[126] } : ByteArray) ++ v) = til18 v from rfl]
         ((with_reducible refine (HA2.out X1 (HON.out _ _ HG.out (thn16 BX1.out (below16 X1 _)))).mono ?_); rintro e v5 ⟨p2, rfl, o2, b2⟩)
         have B2 := Lib.hid (thn16 (below16 X1 (.cells #[.string (til18 v)] 9)) b2)
         clear o2 b2)
      | ((with_reducible show wpList _ _ _ (⟨none, .store 32 (.tmp 9) (.tmp 42), _, _, _, _⟩ :: _) _ _)
         refine wpList_store_mid rfl 32 (.tmp 9) (.tmp 42) rfl v5.heap.size 0 (plC p2 Q2).toArray (by rfl) (by rfl) (there_row17 (heap_alloc_new v5 (.cells #[.slice none 0 0, .int .u8 0, .slice none 0 0, .int .u32 0, .int .u8 0, .slice none 0 0, .slice none 0 0, .int .u8 0, .int .u64 0, .bool false, .bool false, .bool false, .bool false] 32)) (show 0 + 13 ≤ 13 by decide)) pl_info (plC_one _ _) ?_
         show wpList _ _ _ _ _ ((World.alloc v5 (.cells #[.slice none 0 0, .int .u8 0, .slice none 0 0, .int .u32 0, .int .u8 0, .slice none 0 0, .slice none 0 0, .int .u8 0, .int .u64 0, .bool false, .bool false, .bool false, .bool false] 32)).setCells v5.heap.size 0 (plC p2 Q2))
         have BS := Lib.hid (show Below X1.heap.size X1 _ from below_setCells16 B2.out.size (plC p2 Q2) 0 _ (B2.out.alloc B2.out.size (.cells #[.slice none 0 0, .int .u8 0, .slice none 0 0, .int .u32 0, .int .u8 0, .slice none 0 0, .slice none 0 0, .int .u8 0, .int .u64 0, .bool false, .bool false, .bool false, .bool false] 32)))
         have BX2 := Lib.hid (thn16 BX1.out BS.out)
         have HB2 := Lib.hid (set_fresh17 (p := p2) (P := Q2) (heap_alloc_new v5 (.cells #[.slice none 0 0, .int .u8 0, .slice none 0 0, .int .u32 0, .int .u8 0, .slice none 0 0, .slice none 0 0, .int .u8 0, .int .u64 0, .bool false, .bool false, .bool false, .bool false] 32)) rfl)
         have HB1 := Lib.hid (blk_on HB1.out BS.out)
         clear c1
         obtain ⟨g2, hg2⟩ : ∃ g, g = v5.heap.size := ⟨_, rfl⟩
         rw [← hg2] at BS BX2 HB2 HB1 ⊢
         have c2 := (cell_of_row _ g2 8 _ _ (0, 0) HB2.out).trans (show _ = some (Value.int .u64 (x2 : Nat)) from by rw [HQ2.out]; rfl)
         have c1 := (cell_of_row _ g1 8 _ _ (0, 0) HB1.out).trans (show _ = some (Value.int .u64 (x1 : Nat)) from by rw [HQ1.out]; rfl)
         generalize (World.alloc v5 (.cells #[.slice none 0 0, .int .u8 0, .slice none 0 0, .int .u32 0, .int .u8 0, .slice none 0 0, .slice none 0 0, .int .u8 0, .int .u64 0, .bool false, .bool false, .bool false, .bool false] 32)).setCells g2 0 (plC p2 Q2) = X2 at BS BX2 HB2 c2 HB1 c1 ⊢
         clear BS B2 hg2)
      | (go_at_call 9
         ((with_reducible refine (HAW.out X2 (HON.out _ _ HG.out BX2.out)).mono ?_); rintro e v9 ⟨rfl, b9⟩)
         have BZ := Lib.hid (thn16 BX2.out b9)
         clear b9))
    go_ret
    exact ⟨rfl, BZ.out⟩
  have h4 : tr = false := by simpa using h4
  subst h4
  obtain ⟨k0, k1, k2⟩ := key rfl
  clear key hbe2
  subst k0
  by_cases h5 : 0 < n1
  · obtain ⟨z1, z2⟩ := k1 h5
    have h6 : (0 : Int) < (n1 : Int) := by omega
    have z3 : (x1 : Int) = 0 := by omega
    have z4 : (x2 : Int) = 0 := by omega
    clear z1 z2
    clear k1 k2 lt1 lt2
    go_enter Tryd.func5, Tryd.ntmps5
    go_wp2_with (first
      | (go_at_call 14
         ((with_reducible refine (HWD.out w HG.out).mono ?_); rintro e v1 ⟨qw, cw, rfl, b1⟩)
         have BW := Lib.hid b1
         clear b1)
      | (go_at_call 15
         ((with_reducible refine (HBO.out v1 (HON.out _ _ HG.out BW.out)).mono ?_); rintro e v2 ⟨rfl, b2⟩)
         have BB := Lib.hid (thn16 BW.out b2)
         clear b2)
      | (go_at_call 16
         ((with_reducible refine (HTU.out v2 (HON.out _ _ HG.out BB.out)).mono ?_); rintro e v3 ⟨rfl, b3⟩)
         have BT := Lib.hid (thn16 BB.out b3)
         clear b3)
      | (go_at_call 17
         skip
         ((with_reducible refine (HA1.out v3 (HON.out _ _ HG.out (thn16 BT.out (below16 v3 _)))).mono ?_); rintro e v4 ⟨p1, rfl, o1, b1⟩)
         have B1 := Lib.hid (thn16 (below16 v3 (.cells #[.string v] 9)) b1)
         clear o1 b1)
      | ((with_reducible show wpList _ _ _ (⟨none, .store 32 (.tmp 7) (.tmp 35), _, _, _, _⟩ :: _) _ _)
         refine wpList_store_mid rfl 32 (.tmp 7) (.tmp 35) rfl v4.heap.size 0 (plC p1 Q1).toArray (by rfl) (by rfl) (there_row17 (heap_alloc_new v4 (.cells #[.slice none 0 0, .int .u8 0, .slice none 0 0, .int .u32 0, .int .u8 0, .slice none 0 0, .slice none 0 0, .int .u8 0, .int .u64 0, .bool false, .bool false, .bool false, .bool false] 32)) (show 0 + 13 ≤ 13 by decide)) pl_info (plC_one _ _) ?_
         show wpList _ _ _ _ _ ((World.alloc v4 (.cells #[.slice none 0 0, .int .u8 0, .slice none 0 0, .int .u32 0, .int .u8 0, .slice none 0 0, .slice none 0 0, .int .u8 0, .int .u64 0, .bool false, .bool false, .bool false, .bool false] 32)).setCells v4.heap.size 0 (plC p1 Q1))
         have BS := Lib.hid (show Below v3.heap.size v3 _ from below_setCells16 B1.out.size (plC p1 Q1) 0 _ (B1.out.alloc B1.out.size (.cells #[.slice none 0 0, .int .u8 0, .slice none 0 0, .int .u32 0, .int .u8 0, .slice none 0 0, .slice none 0 0, .int .u8 0, .int .u64 0, .bool false, .bool false, .bool false, .bool false] 32)))
         have BX1 := Lib.hid (thn16 BT.out BS.out)
         have HB1 := Lib.hid (set_fresh17 (p := p1) (P := Q1) (heap_alloc_new v4 (.cells #[.slice none 0 0, .int .u8 0, .slice none 0 0, .int .u32 0, .int .u8 0, .slice none 0 0, .slice none 0 0, .int .u8 0, .int .u64 0, .bool false, .bool false, .bool false, .bool false] 32)) rfl)
         obtain ⟨g1, hg1⟩ : ∃ g, g = v4.heap.size := ⟨_, rfl⟩
         rw [← hg1] at BS BX1 HB1 ⊢
         have c1 := (cell_of_row _ g1 8 _ _ (0, 0) HB1.out).trans (show _ = some (Value.int .u64 (x1 : Nat)) from by rw [HQ1.out]; rfl)

         generalize (World.alloc v4 (.cells #[.slice none 0 0, .int .u8 0, .slice none 0 0, .int .u32 0, .int .u8 0, .slice none 0 0, .slice none 0 0, .int .u8 0, .int .u64 0, .bool false, .bool false, .bool false, .bool false] 32)).setCells g1 0 (plC p1 Q1) = X1 at BS BX1 HB1 c1 ⊢
         clear BS B1 hg1)
      | (go_at_call 17
         rw [show (({ data := #[126] } : ByteArray) ++ v) = til18 v from rfl]
         ((with_reducible refine (HA2.out X1 (HON.out _ _ HG.out (thn16 BX1.out (below16 X1 _)))).mono ?_); rintro e v5 ⟨p2, rfl, o2, b2⟩)
         have B2 := Lib.hid (thn16 (below16 X1 (.cells #[.string (til18 v)] 9)) b2)
         clear o2 b2)
      | ((with_reducible show wpList _ _ _ (⟨none, .store 32 (.tmp 9) (.tmp 42), _, _, _, _⟩ :: _) _ _)
         refine wpList_store_mid rfl 32 (.tmp 9) (.tmp 42) rfl v5.heap.size 0 (plC p2 Q2).toArray (by rfl) (by rfl) (there_row17 (heap_alloc_new v5 (.cells #[.slice none 0 0, .int .u8 0, .slice none 0 0, .int .u32 0, .int .u8 0, .slice none 0 0, .slice none 0 0, .int .u8 0, .int .u64 0, .bool false, .bool false, .bool false, .bool false] 32)) (show 0 + 13 ≤ 13 by decide)) pl_info (plC_one _ _) ?_
         show wpList _ _ _ _ _ ((World.alloc v5 (.cells #[.slice none 0 0, .int .u8 0, .slice none 0 0, .int .u32 0, .int .u8 0, .slice none 0 0, .slice none 0 0, .int .u8 0, .int .u64 0, .bool false, .bool false, .bool false, .bool false] 32)).setCells v5.heap.size 0 (plC p2 Q2))
         have BS := Lib.hid (show Below X1.heap.size X1 _ from below_setCells16 B2.out.size (plC p2 Q2) 0 _ (B2.out.alloc B2.out.size (.cells #[.slice none 0 0, .int .u8 0, .slice none 0 0, .int .u32 0, .int .u8 0, .slice none 0 0, .slice none 0 0, .int .u8 0, .int .u64 0, .bool false, .bool false, .bool false, .bool false] 32)))
         have BX2 := Lib.hid (thn16 BX1.out BS.out)
         have HB2 := Lib.hid (set_fresh17 (p := p2) (P := Q2) (heap_alloc_new v5 (.cells #[.slice none 0 0, .int .u8 0, .slice none 0 0, .int .u32 0, .int .u8 0, .slice none 0 0, .slice none 0 0, .int .u8 0, .int .u64 0, .bool false, .bool false, .bool false, .bool false] 32)) rfl)
         have HB1 := Lib.hid (blk_on HB1.out BS.out)
         clear c1
         obtain ⟨g2, hg2⟩ : ∃ g, g = v5.heap.size := ⟨_, rfl⟩
         rw [← hg2] at BS BX2 HB2 HB1 ⊢
         have c2 := (cell_of_row _ g2 8 _ _ (0, 0) HB2.out).trans (show _ = some (Value.int .u64 (x2 : Nat)) from by rw [HQ2.out]; rfl)
         have c1 := (cell_of_row _ g1 8 _ _ (0, 0) HB1.out).trans (show _ = some (Value.int .u64 (x1 : Nat)) from by rw [HQ1.out]; rfl)
         generalize (World.alloc v5 (.cells #[.slice none 0 0, .int .u8 0, .slice none 0 0, .int .u32 0, .int .u8 0, .slice none 0 0, .slice none 0 0, .int .u8 0, .int .u64 0, .bool false, .bool false, .bool false, .bool false] 32)).setCells g2 0 (plC p2 Q2) = X2 at BS BX2 HB2 c2 HB1 c1 ⊢
         clear BS B2 hg2)
      | (go_at_call 9
         ((with_reducible refine (HAW.out X2 (HON.out _ _ HG.out BX2.out)).mono ?_); rintro e v9 ⟨rfl, b9⟩)
         have BZ := Lib.hid (thn16 BX2.out b9)
         clear b9))
    go_ret
    exact ⟨rfl, BZ.out⟩
  obtain ⟨m1, m2⟩ := k2 h5
  have hor : bits .or .u64 (x1 : Int) (x2 : Int) = (allN : Nat) := by rw [u64_or_nat _ _ (by omega) (by omega), m1]
  have hand : bits .and .u64 (x1 : Int) (x2 : Int) = 0 := by rw [u64_and_nat _ _ (by omega) (by omega), m2]; rfl
  obtain rfl : n1 = 0 := by omega
  clear k1 k2 h5 m1 m2 lt1 lt2
  have heq : ((allN : Nat) : Int) = (allN : Nat) := rfl
  obtain ⟨ax, hax⟩ : ∃ x : Int, x = (allN : Nat) := ⟨_, rfl⟩
  rw [← hax] at hor HSP HSY
  clear heq hax
  go_enter Tryd.func5, Tryd.ntmps5
  go_wp2_with (first
    | (go_at_call 14
       ((with_reducible refine (HWD.out w HG.out).mono ?_); rintro e v1 ⟨qw, cw, rfl, b1⟩)
       have BW := Lib.hid b1
       clear b1)
    | (go_at_call 15
       ((with_reducible refine (HBO.out v1 (HON.out _ _ HG.out BW.out)).mono ?_); rintro e v2 ⟨rfl, b2⟩)
       have BB := Lib.hid (thn16 BW.out b2)
       clear b2)
    | (go_at_call 16
       ((with_reducible refine (HTU.out v2 (HON.out _ _ HG.out BB.out)).mono ?_); rintro e v3 ⟨rfl, b3⟩)
       have BT := Lib.hid (thn16 BB.out b3)
       clear b3)
    | (go_at_call 17
       skip
       ((with_reducible refine (HA1.out v3 (HON.out _ _ HG.out (thn16 BT.out (below16 v3 _)))).mono ?_); rintro e v4 ⟨p1, rfl, o1, b1⟩)
       have B1 := Lib.hid (thn16 (below16 v3 (.cells #[.string v] 9)) b1)
       clear o1 b1)
    | ((with_reducible show wpList _ _ _ (⟨none, .store 32 (.tmp 7) (.tmp 35), _, _, _, _⟩ :: _) _ _)
       refine wpList_store_mid rfl 32 (.tmp 7) (.tmp 35) rfl v4.heap.size 0 (plC p1 Q1).toArray (by rfl) (by rfl) (there_row17 (heap_alloc_new v4 (.cells #[.slice none 0 0, .int .u8 0, .slice none 0 0, .int .u32 0, .int .u8 0, .slice none 0 0, .slice none 0 0, .int .u8 0, .int .u64 0, .bool false, .bool false, .bool false, .bool false] 32)) (show 0 + 13 ≤ 13 by decide)) pl_info (plC_one _ _) ?_
       show wpList _ _ _ _ _ ((World.alloc v4 (.cells #[.slice none 0 0, .int .u8 0, .slice none 0 0, .int .u32 0, .int .u8 0, .slice none 0 0, .slice none 0 0, .int .u8 0, .int .u64 0, .bool false, .bool false, .bool false, .bool false] 32)).setCells v4.heap.size 0 (plC p1 Q1))
       have BS := Lib.hid (show Below v3.heap.size v3 _ from below_setCells16 B1.out.size (plC p1 Q1) 0 _ (B1.out.alloc B1.out.size (.cells #[.slice none 0 0, .int .u8 0, .slice none 0 0, .int .u32 0, .int .u8 0, .slice none 0 0, .slice none 0 0, .int .u8 0, .int .u64 0, .bool false, .bool false, .bool false, .bool false] 32)))
       have BX1 := Lib.hid (thn16 BT.out BS.out)
       have HB1 := Lib.hid (set_fresh17 (p := p1) (P := Q1) (heap_alloc_new v4 (.cells #[.slice none 0 0, .int .u8 0, .slice none 0 0, .int .u32 0, .int .u8 0, .slice none 0 0, .slice none 0 0, .int .u8 0, .int .u64 0, .bool false, .bool false, .bool false, .bool false] 32)) rfl)
       obtain ⟨g1, hg1⟩ : ∃ g, g = v4.heap.size := ⟨_, rfl⟩
       rw [← hg1] at BS BX1 HB1 ⊢
       have c1 := (cell_of_row _ g1 8 _ _ (0, 0) HB1.out).trans (show _ = some (Value.int .u64 (x1 : Nat)) from by rw [HQ1.out]; rfl)

       generalize (World.alloc v4 (.cells #[.slice none 0 0, .int .u8 0, .slice none 0 0, .int .u32 0, .int .u8 0, .slice none 0 0, .slice none 0 0, .int .u8 0, .int .u64 0, .bool false, .bool false, .bool false, .bool false] 32)).setCells g1 0 (plC p1 Q1) = X1 at BS BX1 HB1 c1 ⊢
       clear BS B1 hg1)
    | (go_at_call 17
       rw [show (({ data := #[126] } : ByteArray) ++ v) = til18 v from rfl]
       ((with_reducible refine (HA2.out X1 (HON.out _ _ HG.out (thn16 BX1.out (below16 X1 _)))).mono ?_); rintro e v5 ⟨p2, rfl, o2, b2⟩)
       have B2 := Lib.hid (thn16 (below16 X1 (.cells #[.string (til18 v)] 9)) b2)
       clear o2 b2)
    | ((with_reducible show wpList _ _ _ (⟨none, .store 32 (.tmp 9) (.tmp 42), _, _, _, _⟩ :: _) _ _)
       refine wpList_store_mid rfl 32 (.tmp 9) (.tmp 42) rfl v5.heap.size 0 (plC p2 Q2).toArray (by rfl) (by rfl) (there_row17 (heap_alloc_new v5 (.cells #[.slice none 0 0, .int .u8 0, .slice none 0 0, .int .u32 0, .int .u8 0, .slice none 0 0, .slice none 0 0, .int .u8 0, .int .u64 0, .bool false, .bool false, .bool false, .bool false] 32)) (show 0 + 13 ≤ 13 by decide)) pl_info (plC_one _ _) ?_
       show wpList _ _ _ _ _ ((World.alloc v5 (.cells #[.slice none 0 0, .int .u8 0, .slice none 0 0, .int .u32 0, .int .u8 0, .slice none 0 0, .slice none 0 0, .int .u8 0, .int .u64 0, .bool false, .bool false, .bool false, .bool false] 32)).setCells v5.heap.size 0 (plC p2 Q2))
       have BS := Lib.hid (show Below X1.heap.size X1 _ from below_setCells16 B2.out.size (plC p2 Q2) 0 _ (B2.out.alloc B2.out.size (.cells #[.slice none 0 0, .int .u8 0, .slice none 0 0, .int .u32 0, .int .u8 0, .slice none 0 0, .slice none 0 0, .int .u8 0, .int .u64 0, .bool false, .bool false, .bool false, .bool false] 32)))
       have BX2 := Lib.hid (thn16 BX1.out BS.out)
       have HB2 := Lib.hid (set_fresh17 (p := p2) (P := Q2) (heap_alloc_new v5 (.cells #[.slice none 0 0, .int .u8 0, .slice none 0 0, .int .u32 0, .int .u8 0, .slice none 0 0, .slice none 0 0, .int .u8 0, .int .u64 0, .bool false, .bool false, .bool false, .bool false] 32)) rfl)
       have HB1 := Lib.hid (blk_on HB1.out BS.out)
       clear c1
       obtain ⟨g2, hg2⟩ : ∃ g, g = v5.heap.size := ⟨_, rfl⟩
       rw [← hg2] at BS BX2 HB2 HB1 ⊢
       have c2 := (cell_of_row _ g2 8 _ _ (0, 0) HB2.out).trans (show _ = some (Value.int .u64 (x2 : Nat)) from by rw [HQ2.out]; rfl)
       have c1 := (cell_of_row _ g1 8 _ _ (0, 0) HB1.out).trans (show _ = some (Value.int .u64 (x1 : Nat)) from by rw [HQ1.out]; rfl)
       generalize (World.alloc v5 (.cells #[.slice none 0 0, .int .u8 0, .slice none 0 0, .int .u32 0, .int .u8 0, .slice none 0 0, .slice none 0 0, .int .u8 0, .int .u64 0, .bool false, .bool false, .bool false, .bool false] 32)).setCells g2 0 (plC p2 Q2) = X2 at BS BX2 HB2 c2 HB1 c1 ⊢
       clear BS B2 hg2)
    | (go_at_call 9
       ((with_reducible refine (HAW.out X2 (HON.out _ _ HG.out BX2.out)).mono ?_); rintro e v9 ⟨rfl, b9⟩)
       have BZ := Lib.hid (thn16 BX2.out b9)
       clear b9))
  have keep := Lib.hid (show ∀ (W W' : World), (W.cell? ⟨g1, 8, none⟩ = some (.int .u64 (x1 : Nat)) ∧ W.cell? ⟨g2, 8, none⟩ = some (.int .u64 (x2 : Nat)) ∧ Below w.heap.size w W) → Below W.heap.size W W' → (W'.cell? ⟨g1, 8, none⟩ = some (.int .u64 (x1 : Nat)) ∧ W'.cell? ⟨g2, 8, none⟩ = some (.int .u64 (x2 : Nat)) ∧ Below w.heap.size w W') from fun W W' h b => ⟨(b.cell (World.block_lt_of_cell? _ _ h.1)).trans h.1, (b.cell (World.block_lt_of_cell? _ _ h.2.1)).trans h.2.1, thn16 h.2.2 b⟩)
  have Q := Lib.hid (show X2.cell? ⟨g1, 8, none⟩ = some (.int .u64 (x1 : Nat)) ∧ X2.cell? ⟨g2, 8, none⟩ = some (.int .u64 (x2 : Nat)) ∧ Below w.heap.size w X2 from ⟨c1, c2, BX2.out⟩)
  have Q2 := Lib.hid (keep.out _ _ Q.out (show Below X2.heap.size X2 X2.drew from (Below.refl _ _).drew))
  clear c1 c2 HB1 HB2 HQ1 HQ2 HA1 HA2 BX1 BX2 BW BB BT HWD HBO HTU
  go_region_held3 (fun W => W.cell? ⟨g1, 8, none⟩ = some (.int .u64 (x1 : Nat)) ∧ W.cell? ⟨g2, 8, none⟩ = some (.int .u64 (x2 : Nat)) ∧ Below w.heap.size w W) (first | assumption | exact Q2.out | exact Q.out | exact keep.out _ _ (by assumption) (by assumption)) (first
    | (go_at_call 18; (with_reducible refine (HSP.out _ (HON.out _ _ HG.out (by assumption : _ ∧ _ ∧ Below _ _ _).2.2)).mono ?_); rintro e w4 ⟨rfl, b4⟩)
    | (go_at_call 19; (with_reducible refine (HSY.out _ (HON.out _ _ HG.out (by assumption : _ ∧ _ ∧ Below _ _ _).2.2)).mono ?_); rintro e w5 ⟨rfl, b5⟩)
    | (go_at_call 9; (with_reducible refine (HAW.out _ (HON.out _ _ HG.out (by assumption : _ ∧ _ ∧ Below _ _ _).2.2)).mono ?_); rintro e w6 ⟨rfl, b6⟩))
  all_goals
    go_wp2
    go_ret
    exact ⟨by first | rfl | simp, (by assumption : _ ∧ _ ∧ Below _ _ _).2.2⟩
end Go.Proofs.YtbjhleajhkofeaaDoor
