/- The walk of RestrictFamilies, over what the calls have to return. -/
import Derived.Test.YtbjhleajhkofeaaDoorD8
namespace Go.Proofs.YtbjhleajhkofeaaDoor
open Go.RowKit
set_option linter.unusedVariables false
set_option linter.unusedSimpArgs false
attribute [local go_sem ↓] Go.wp_at_zero Go.wp_at_succ

theorem fnl_cell18 (w : World) {m f : Nat} (h : fnl18[m]? = some f) : (w.alloc (.cells #[.int .u32 1, .int .u32 2, .int .u32 10, .int .u32 16, .int .u32 17, .int .u32 31, .int .u32 38, .int .u32 40] 28)).cell? ⟨w.heap.size, m, none⟩ = some (.int .u32 (f : Nat)) := by
  rw [cell_of_row _ w.heap.size m _ _ (0, 0) (heap_alloc_new w _)]
  show ((fnl18.map fun (x : Nat) => Value.int .u32 (x : Nat)).toArray)[m]? = _
  simp [h]
set_option maxRecDepth 100000 in
set_option maxHeartbeats 32000000 in
theorem restrictFamilies_walk {G : World → Prop} (HC : RestrictC G) (n : Nat) (t : Bool) (w : World) (hG : G w) (hn : n < 4294967296) : Calls Tryd.prog 6 #[.int .u32 n, .bool t] w fun e w' => e = .returned (.bool true) ∧ Below w.heap.size w w' := by
  have HON := Lib.hid (fun (w w' : World) => HC.on (w := w) (w' := w'))
  have HG := Lib.hid hG
  have HAW := Lib.hid (fun (W : World) (g : G W) => awake18_any HC W g)
  obtain ⟨m, hm⟩ : ∃ m, m = n % 8 := ⟨_, rfl⟩
  have hm8 : m < 8 := by omega
  obtain ⟨f, wd, HF⟩ := fam18_all m hm8
  have HFN := Lib.hid (fun (X : World) (g : G X) => HC.fname f X g HF.lt)
  rw [HF.nm] at HFN
  have hs1 : wd.size ≤ 400 := Nat.le_trans HF.sz (by decide)
  have hs2 : (til18 wd).size ≤ 400 := by rw [til_size18]; have := HF.sz; omega
  have hne := HF.ne
  have hz1 : ¬ 9223372036854775807 < 1 + wd.size := by omega
  have hz2 : ¬ 9223372036854775807 < wd.size + 1 := by omega
  have hz3 : ¬ (300 : Int) < wd.size := by have := HF.sz; omega
  have c0 := fnl_cell18 w HF.at_
  have k0 : (0 : Int) ≤ m := by omega
  have k8 : (m : Int) < 8 := by omega
  have hmod : (n : Int).tmod 8 = m := by rw [Int.tmod_eq_emod_of_nonneg (by omega)]; omega
  have hmod2 : (n : Int) % 8 = m := by omega
  have tw : (f == f) = true := by simp
  clear hG hm hm8 hn
  cases t with
  | false =>
    have HA1 := Lib.hid (fun (X : World) (g : G (X.alloc (.cells #[.string wd] 9))) => (show Calls Tryd.prog 17 #[.string ⟨#[82, 101, 115, 116, 114, 105, 99, 116, 65, 100, 100, 114, 101, 115, 115, 70, 97, 109, 105, 108, 105, 101, 115]⟩, .slice (some ⟨X.heap.size, 0, none⟩) 1 1] (X.alloc (.cells #[.string wd] 9)) fun e w' => ∃ p, e = .returned (.tuple #[plV p ({ PZ18 with fa := [f], fm := 1 } : Pol), .int .i64 0]) ∧ OwnP (X.alloc (.cells #[.string wd] 9)).heap.size w' p { PZ18 with fa := [f], fm := 1 } ∧ Below (X.alloc (.cells #[.string wd] 9)).heap.size (X.alloc (.cells #[.string wd] 9)) w' from by
      have := after_c HC kFam (.slice (some ⟨X.heap.size, 0, none⟩) 1 1) [wd] _ g (by decide) (strs_lit18 X [wd]) (by show 1 ≤ 4; decide) (fun x hx => by
        have hx : x = wd := by simpa using hx
        subst hx
        all_goals first | exact hs1 | exact hs2 | decide)
      rw [show ([wd] : List ByteArray).length = 1 from rfl, HF.rn.1] at this
      exact this))
    have HA2 := Lib.hid (fun (X : World) (g : G (X.alloc (.cells #[.string wd, .string (til18 wd)] 9))) => (show Calls Tryd.prog 17 #[.string ⟨#[82, 101, 115, 116, 114, 105, 99, 116, 65, 100, 100, 114, 101, 115, 115, 70, 97, 109, 105, 108, 105, 101, 115]⟩, .slice (some ⟨X.heap.size, 0, none⟩) 2 2] (X.alloc (.cells #[.string wd, .string (til18 wd)] 9)) fun e w' => ∃ p, e = .returned (.tuple #[plV p ({ PZ18 with fm := 1 } : Pol), .int .i64 0]) ∧ OwnP (X.alloc (.cells #[.string wd, .string (til18 wd)] 9)).heap.size w' p { PZ18 with fm := 1 } ∧ Below (X.alloc (.cells #[.string wd, .string (til18 wd)] 9)).heap.size (X.alloc (.cells #[.string wd, .string (til18 wd)] 9)) w' from by
      have := after_c HC kFam (.slice (some ⟨X.heap.size, 0, none⟩) 2 2) [wd, (til18 wd)] _ g (by decide) (strs_lit18 X [wd, (til18 wd)]) (by show 2 ≤ 4; decide) (fun x hx => by
        have hx : x = wd ∨ x = (til18 wd) := by simpa using hx
        rcases hx with rfl | rfl
        all_goals first | exact hs1 | exact hs2 | decide)
      rw [show ([wd, (til18 wd)] : List ByteArray).length = 2 from rfl, HF.rn.2.1] at this
      exact this))
    have HA3 := Lib.hid (fun (X : World) (g : G (X.alloc (.cells #[.string wd, .string (til18 wd), .string wd] 9))) => (show Calls Tryd.prog 17 #[.string ⟨#[82, 101, 115, 116, 114, 105, 99, 116, 65, 100, 100, 114, 101, 115, 115, 70, 97, 109, 105, 108, 105, 101, 115]⟩, .slice (some ⟨X.heap.size, 0, none⟩) 3 3] (X.alloc (.cells #[.string wd, .string (til18 wd), .string wd] 9)) fun e w' => ∃ p, e = .returned (.tuple #[plV p ({ PZ18 with fa := [f], fm := 1 } : Pol), .int .i64 0]) ∧ OwnP (X.alloc (.cells #[.string wd, .string (til18 wd), .string wd] 9)).heap.size w' p { PZ18 with fa := [f], fm := 1 } ∧ Below (X.alloc (.cells #[.string wd, .string (til18 wd), .string wd] 9)).heap.size (X.alloc (.cells #[.string wd, .string (til18 wd), .string wd] 9)) w' from by
      have := after_c HC kFam (.slice (some ⟨X.heap.size, 0, none⟩) 3 3) [wd, (til18 wd), wd] _ g (by decide) (strs_lit18 X [wd, (til18 wd), wd]) (by show 3 ≤ 4; decide) (fun x hx => by
        have hx : x = wd ∨ x = (til18 wd) ∨ x = wd := by simpa using hx
        rcases hx with rfl | rfl | rfl
        all_goals first | exact hs1 | exact hs2 | decide)
      rw [show ([wd, (til18 wd), wd] : List ByteArray).length = 3 from rfl, HF.rn.2.2.1] at this
      exact this))
    have HA4 := Lib.hid (fun (X : World) (g : G (X.alloc (.cells #[.string wd, .string ⟨#[]⟩] 9))) => (show Calls Tryd.prog 17 #[.string ⟨#[82, 101, 115, 116, 114, 105, 99, 116, 65, 100, 100, 114, 101, 115, 115, 70, 97, 109, 105, 108, 105, 101, 115]⟩, .slice (some ⟨X.heap.size, 0, none⟩) 2 2] (X.alloc (.cells #[.string wd, .string ⟨#[]⟩] 9)) fun e w' => ∃ p, e = .returned (.tuple #[plV p (PZ18 : Pol), .int .i64 0]) ∧ OwnP (X.alloc (.cells #[.string wd, .string ⟨#[]⟩] 9)).heap.size w' p PZ18 ∧ Below (X.alloc (.cells #[.string wd, .string ⟨#[]⟩] 9)).heap.size (X.alloc (.cells #[.string wd, .string ⟨#[]⟩] 9)) w' from by
      have := after_c HC kFam (.slice (some ⟨X.heap.size, 0, none⟩) 2 2) [wd, ⟨#[]⟩] _ g (by decide) (strs_lit18 X [wd, ⟨#[]⟩]) (by show 2 ≤ 4; decide) (fun x hx => by
        have hx : x = wd ∨ x = ⟨#[]⟩ := by simpa using hx
        rcases hx with rfl | rfl
        all_goals first | exact hs1 | exact hs2 | decide)
      rw [show ([wd, ⟨#[]⟩] : List ByteArray).length = 2 from rfl, HF.rn.2.2.2.1] at this
      exact this))
    obtain ⟨Q1, hQ1⟩ : ∃ P : Pol, P = { PZ18 with fa := [f], fm := 1 } := ⟨_, rfl⟩
    rw [← hQ1] at HA1
    have HQ1 := Lib.hid hQ1
    clear hQ1
    obtain ⟨Q2, hQ2⟩ : ∃ P : Pol, P = { PZ18 with fm := 1 } := ⟨_, rfl⟩
    rw [← hQ2] at HA2
    have HQ2 := Lib.hid hQ2
    clear hQ2
    obtain ⟨Q3, hQ3⟩ : ∃ P : Pol, P = { PZ18 with fa := [f], fm := 1 } := ⟨_, rfl⟩
    rw [← hQ3] at HA3
    have HQ3 := Lib.hid hQ3
    clear hQ3
    obtain ⟨Q4, hQ4⟩ : ∃ P : Pol, P = PZ18 := ⟨_, rfl⟩
    rw [← hQ4] at HA4
    have HQ4 := Lib.hid hQ4
    clear hQ4
    clear HC hs1 hs2 HF
    go_enter Tryd.func6, Tryd.ntmps6
    go_upto_region 14 with (first
      | (go_at_call 20
         ((with_reducible refine (HFN.out _ (HON.out _ _ HG.out (below16 w _))).mono ?_); rintro e v0 ⟨rfl, b0⟩)
         have BX0 := Lib.hid (thn16 (below16 w (.cells #[.int .u32 1, .int .u32 2, .int .u32 10, .int .u32 16, .int .u32 17, .int .u32 31, .int .u32 38, .int .u32 40] 28)) b0)
         clear b0)
      | (go_at_call 17
         (try rw [show (({ data := #[126] } : ByteArray) ++ wd) = til18 wd from rfl])
         ((with_reducible refine (HA1.out v0 (HON.out _ _ HG.out (thn16 BX0.out (below16 v0 _)))).mono ?_); rintro e v1 ⟨p1, rfl, o1, b1⟩)
         have B1 := Lib.hid (thn16 (below16 v0 (.cells #[.string wd] 9)) b1)
         have OV1 := Lib.hid o1
         clear o1 b1)
      | ((with_reducible show wpList _ _ _ (⟨none, .store 32 (.tmp 9) (.tmp 36), _, _, _, _⟩ :: _) _ _)
         refine wpList_store_mid rfl 32 (.tmp 9) (.tmp 36) rfl v1.heap.size 0 (plC p1 Q1).toArray (by rfl) (by rfl) (there_row17 (heap_alloc_new v1 (.cells #[.slice none 0 0, .int .u8 0, .slice none 0 0, .int .u32 0, .int .u8 0, .slice none 0 0, .slice none 0 0, .int .u8 0, .int .u64 0, .bool false, .bool false, .bool false, .bool false] 32)) (show 0 + 13 ≤ 13 by decide)) pl_info (plC_one _ _) ?_
         show wpList _ _ _ _ _ ((World.alloc v1 (.cells #[.slice none 0 0, .int .u8 0, .slice none 0 0, .int .u32 0, .int .u8 0, .slice none 0 0, .slice none 0 0, .int .u8 0, .int .u64 0, .bool false, .bool false, .bool false, .bool false] 32)).setCells v1.heap.size 0 (plC p1 Q1))
         have BS := Lib.hid (show Below v0.heap.size v0 _ from below_setCells16 B1.out.size (plC p1 Q1) 0 _ (B1.out.alloc B1.out.size (.cells #[.slice none 0 0, .int .u8 0, .slice none 0 0, .int .u32 0, .int .u8 0, .slice none 0 0, .slice none 0 0, .int .u8 0, .int .u64 0, .bool false, .bool false, .bool false, .bool false] 32)))
         have BX1 := Lib.hid (thn16 BX0.out BS.out)
         have HB1 := Lib.hid (set_fresh17 (p := p1) (P := Q1) (heap_alloc_new v1 (.cells #[.slice none 0 0, .int .u8 0, .slice none 0 0, .int .u32 0, .int .u8 0, .slice none 0 0, .slice none 0 0, .int .u8 0, .int .u64 0, .bool false, .bool false, .bool false, .bool false] 32)) rfl)
         have HO1 := Lib.hid (own_box17 (OV1.out.on (below16 v1 (.cells #[.slice none 0 0, .int .u8 0, .slice none 0 0, .int .u32 0, .int .u8 0, .slice none 0 0, .slice none 0 0, .int .u8 0, .int .u64 0, .bool false, .bool false, .bool false, .bool false] 32))) (heap_alloc_new v1 (.cells #[.slice none 0 0, .int .u8 0, .slice none 0 0, .int .u32 0, .int .u8 0, .slice none 0 0, .slice none 0 0, .int .u8 0, .int .u64 0, .bool false, .bool false, .bool false, .bool false] 32)) 0 (plC p1 Q1)).pol
         obtain ⟨g1, hg1⟩ : ∃ g, g = v1.heap.size := ⟨_, rfl⟩
         rw [← hg1] at BS BX1 HB1 HO1 ⊢
         generalize (World.alloc v1 (.cells #[.slice none 0 0, .int .u8 0, .slice none 0 0, .int .u32 0, .int .u8 0, .slice none 0 0, .slice none 0 0, .int .u8 0, .int .u64 0, .bool false, .bool false, .bool false, .bool false] 32)).setCells g1 0 (plC p1 Q1) = X1 at BS BX1 HB1 HO1 ⊢
         clear BS B1 OV1 hg1)
      | (go_at_call 17
         (try rw [show (({ data := #[126] } : ByteArray) ++ wd) = til18 wd from rfl])
         ((with_reducible refine (HA2.out X1 (HON.out _ _ HG.out (thn16 BX1.out (below16 X1 _)))).mono ?_); rintro e v2 ⟨p2, rfl, o2, b2⟩)
         have B2 := Lib.hid (thn16 (below16 X1 (.cells #[.string wd, .string (til18 wd)] 9)) b2)
         have OV2 := Lib.hid o2
         clear o2 b2)
      | ((with_reducible show wpList _ _ _ (⟨none, .store 32 (.tmp 11) (.tmp 43), _, _, _, _⟩ :: _) _ _)
         refine wpList_store_mid rfl 32 (.tmp 11) (.tmp 43) rfl v2.heap.size 0 (plC p2 Q2).toArray (by rfl) (by rfl) (there_row17 (heap_alloc_new v2 (.cells #[.slice none 0 0, .int .u8 0, .slice none 0 0, .int .u32 0, .int .u8 0, .slice none 0 0, .slice none 0 0, .int .u8 0, .int .u64 0, .bool false, .bool false, .bool false, .bool false] 32)) (show 0 + 13 ≤ 13 by decide)) pl_info (plC_one _ _) ?_
         show wpList _ _ _ _ _ ((World.alloc v2 (.cells #[.slice none 0 0, .int .u8 0, .slice none 0 0, .int .u32 0, .int .u8 0, .slice none 0 0, .slice none 0 0, .int .u8 0, .int .u64 0, .bool false, .bool false, .bool false, .bool false] 32)).setCells v2.heap.size 0 (plC p2 Q2))
         have BS := Lib.hid (show Below X1.heap.size X1 _ from below_setCells16 B2.out.size (plC p2 Q2) 0 _ (B2.out.alloc B2.out.size (.cells #[.slice none 0 0, .int .u8 0, .slice none 0 0, .int .u32 0, .int .u8 0, .slice none 0 0, .slice none 0 0, .int .u8 0, .int .u64 0, .bool false, .bool false, .bool false, .bool false] 32)))
         have BX2 := Lib.hid (thn16 BX1.out BS.out)
         have HB2 := Lib.hid (set_fresh17 (p := p2) (P := Q2) (heap_alloc_new v2 (.cells #[.slice none 0 0, .int .u8 0, .slice none 0 0, .int .u32 0, .int .u8 0, .slice none 0 0, .slice none 0 0, .int .u8 0, .int .u64 0, .bool false, .bool false, .bool false, .bool false] 32)) rfl)
         have HO2 := Lib.hid (own_box17 (OV2.out.on (below16 v2 (.cells #[.slice none 0 0, .int .u8 0, .slice none 0 0, .int .u32 0, .int .u8 0, .slice none 0 0, .slice none 0 0, .int .u8 0, .int .u64 0, .bool false, .bool false, .bool false, .bool false] 32))) (heap_alloc_new v2 (.cells #[.slice none 0 0, .int .u8 0, .slice none 0 0, .int .u32 0, .int .u8 0, .slice none 0 0, .slice none 0 0, .int .u8 0, .int .u64 0, .bool false, .bool false, .bool false, .bool false] 32)) 0 (plC p2 Q2)).pol
         have HB1 := Lib.hid (blk_on HB1.out BS.out)
         have HO1 := Lib.hid (HO1.out.on BS.out)
         obtain ⟨g2, hg2⟩ : ∃ g, g = v2.heap.size := ⟨_, rfl⟩
         rw [← hg2] at BS BX2 HB2 HO2 HB1 HO1 ⊢
         generalize (World.alloc v2 (.cells #[.slice none 0 0, .int .u8 0, .slice none 0 0, .int .u32 0, .int .u8 0, .slice none 0 0, .slice none 0 0, .int .u8 0, .int .u64 0, .bool false, .bool false, .bool false, .bool false] 32)).setCells g2 0 (plC p2 Q2) = X2 at BS BX2 HB2 HO2 HB1 HO1 ⊢
         clear BS B2 OV2 hg2)
      | (go_at_call 17
         (try rw [show (({ data := #[126] } : ByteArray) ++ wd) = til18 wd from rfl])
         ((with_reducible refine (HA3.out X2 (HON.out _ _ HG.out (thn16 BX2.out (below16 X2 _)))).mono ?_); rintro e v3 ⟨p3, rfl, o3, b3⟩)
         have B3 := Lib.hid (thn16 (below16 X2 (.cells #[.string wd, .string (til18 wd), .string wd] 9)) b3)
         have OV3 := Lib.hid o3
         clear o3 b3)
      | ((with_reducible show wpList _ _ _ (⟨none, .store 32 (.tmp 13) (.tmp 51), _, _, _, _⟩ :: _) _ _)
         refine wpList_store_mid rfl 32 (.tmp 13) (.tmp 51) rfl v3.heap.size 0 (plC p3 Q3).toArray (by rfl) (by rfl) (there_row17 (heap_alloc_new v3 (.cells #[.slice none 0 0, .int .u8 0, .slice none 0 0, .int .u32 0, .int .u8 0, .slice none 0 0, .slice none 0 0, .int .u8 0, .int .u64 0, .bool false, .bool false, .bool false, .bool false] 32)) (show 0 + 13 ≤ 13 by decide)) pl_info (plC_one _ _) ?_
         show wpList _ _ _ _ _ ((World.alloc v3 (.cells #[.slice none 0 0, .int .u8 0, .slice none 0 0, .int .u32 0, .int .u8 0, .slice none 0 0, .slice none 0 0, .int .u8 0, .int .u64 0, .bool false, .bool false, .bool false, .bool false] 32)).setCells v3.heap.size 0 (plC p3 Q3))
         have BS := Lib.hid (show Below X2.heap.size X2 _ from below_setCells16 B3.out.size (plC p3 Q3) 0 _ (B3.out.alloc B3.out.size (.cells #[.slice none 0 0, .int .u8 0, .slice none 0 0, .int .u32 0, .int .u8 0, .slice none 0 0, .slice none 0 0, .int .u8 0, .int .u64 0, .bool false, .bool false, .bool false, .bool false] 32)))
         have BX3 := Lib.hid (thn16 BX2.out BS.out)
         have HB3 := Lib.hid (set_fresh17 (p := p3) (P := Q3) (heap_alloc_new v3 (.cells #[.slice none 0 0, .int .u8 0, .slice none 0 0, .int .u32 0, .int .u8 0, .slice none 0 0, .slice none 0 0, .int .u8 0, .int .u64 0, .bool false, .bool false, .bool false, .bool false] 32)) rfl)
         have HO3 := Lib.hid (own_box17 (OV3.out.on (below16 v3 (.cells #[.slice none 0 0, .int .u8 0, .slice none 0 0, .int .u32 0, .int .u8 0, .slice none 0 0, .slice none 0 0, .int .u8 0, .int .u64 0, .bool false, .bool false, .bool false, .bool false] 32))) (heap_alloc_new v3 (.cells #[.slice none 0 0, .int .u8 0, .slice none 0 0, .int .u32 0, .int .u8 0, .slice none 0 0, .slice none 0 0, .int .u8 0, .int .u64 0, .bool false, .bool false, .bool false, .bool false] 32)) 0 (plC p3 Q3)).pol
         have HB1 := Lib.hid (blk_on HB1.out BS.out)
         have HO1 := Lib.hid (HO1.out.on BS.out)
         have HB2 := Lib.hid (blk_on HB2.out BS.out)
         have HO2 := Lib.hid (HO2.out.on BS.out)
         obtain ⟨g3, hg3⟩ : ∃ g, g = v3.heap.size := ⟨_, rfl⟩
         rw [← hg3] at BS BX3 HB3 HO3 HB1 HO1 HB2 HO2 ⊢
         generalize (World.alloc v3 (.cells #[.slice none 0 0, .int .u8 0, .slice none 0 0, .int .u32 0, .int .u8 0, .slice none 0 0, .slice none 0 0, .int .u8 0, .int .u64 0, .bool false, .bool false, .bool false, .bool false] 32)).setCells g3 0 (plC p3 Q3) = X3 at BS BX3 HB3 HO3 HB1 HO1 HB2 HO2 ⊢
         clear BS B3 OV3 hg3)
      | (go_at_call 17
         (try rw [show (({ data := #[126] } : ByteArray) ++ wd) = til18 wd from rfl])
         ((with_reducible refine (HA4.out X3 (HON.out _ _ HG.out (thn16 BX3.out (below16 X3 _)))).mono ?_); rintro e v4 ⟨p4, rfl, o4, b4⟩)
         have B4 := Lib.hid (thn16 (below16 X3 (.cells #[.string wd, .string ⟨#[]⟩] 9)) b4)
         have OV4 := Lib.hid o4
         clear o4 b4)
      | ((with_reducible show wpList _ _ _ (⟨none, .store 32 (.tmp 15) (.tmp 57), _, _, _, _⟩ :: _) _ _)
         refine wpList_store_mid rfl 32 (.tmp 15) (.tmp 57) rfl v4.heap.size 0 (plC p4 Q4).toArray (by rfl) (by rfl) (there_row17 (heap_alloc_new v4 (.cells #[.slice none 0 0, .int .u8 0, .slice none 0 0, .int .u32 0, .int .u8 0, .slice none 0 0, .slice none 0 0, .int .u8 0, .int .u64 0, .bool false, .bool false, .bool false, .bool false] 32)) (show 0 + 13 ≤ 13 by decide)) pl_info (plC_one _ _) ?_
         show wpList _ _ _ _ _ ((World.alloc v4 (.cells #[.slice none 0 0, .int .u8 0, .slice none 0 0, .int .u32 0, .int .u8 0, .slice none 0 0, .slice none 0 0, .int .u8 0, .int .u64 0, .bool false, .bool false, .bool false, .bool false] 32)).setCells v4.heap.size 0 (plC p4 Q4))
         have BS := Lib.hid (show Below X3.heap.size X3 _ from below_setCells16 B4.out.size (plC p4 Q4) 0 _ (B4.out.alloc B4.out.size (.cells #[.slice none 0 0, .int .u8 0, .slice none 0 0, .int .u32 0, .int .u8 0, .slice none 0 0, .slice none 0 0, .int .u8 0, .int .u64 0, .bool false, .bool false, .bool false, .bool false] 32)))
         have BX4 := Lib.hid (thn16 BX3.out BS.out)
         have HB4 := Lib.hid (set_fresh17 (p := p4) (P := Q4) (heap_alloc_new v4 (.cells #[.slice none 0 0, .int .u8 0, .slice none 0 0, .int .u32 0, .int .u8 0, .slice none 0 0, .slice none 0 0, .int .u8 0, .int .u64 0, .bool false, .bool false, .bool false, .bool false] 32)) rfl)
         have HO4 := Lib.hid (own_box17 (OV4.out.on (below16 v4 (.cells #[.slice none 0 0, .int .u8 0, .slice none 0 0, .int .u32 0, .int .u8 0, .slice none 0 0, .slice none 0 0, .int .u8 0, .int .u64 0, .bool false, .bool false, .bool false, .bool false] 32))) (heap_alloc_new v4 (.cells #[.slice none 0 0, .int .u8 0, .slice none 0 0, .int .u32 0, .int .u8 0, .slice none 0 0, .slice none 0 0, .int .u8 0, .int .u64 0, .bool false, .bool false, .bool false, .bool false] 32)) 0 (plC p4 Q4)).pol
         have HB1 := Lib.hid (blk_on HB1.out BS.out)
         have HO1 := Lib.hid (HO1.out.on BS.out)
         have HB2 := Lib.hid (blk_on HB2.out BS.out)
         have HO2 := Lib.hid (HO2.out.on BS.out)
         have HB3 := Lib.hid (blk_on HB3.out BS.out)
         have HO3 := Lib.hid (HO3.out.on BS.out)
         obtain ⟨g4, hg4⟩ : ∃ g, g = v4.heap.size := ⟨_, rfl⟩
         rw [← hg4] at BS BX4 HB4 HO4 HB1 HO1 HB2 HO2 HB3 HO3 ⊢
         generalize (World.alloc v4 (.cells #[.slice none 0 0, .int .u8 0, .slice none 0 0, .int .u32 0, .int .u8 0, .slice none 0 0, .slice none 0 0, .int .u8 0, .int .u64 0, .bool false, .bool false, .bool false, .bool false] 32)).setCells g4 0 (plC p4 Q4) = X4 at BS BX4 HB4 HO4 HB1 HO1 HB2 HO2 HB3 HO3 ⊢
         clear BS B4 OV4 hg4))
    have l1 : p1.mn = 1 := by rw [HO1.out.ml, HQ1.out]; rfl
    have l2 : p2.mn = 0 := by rw [HO2.out.ml, HQ2.out]; rfl
    have l3 : p3.mn = 1 := by rw [HO3.out.ml, HQ3.out]; rfl
    have l4 : p4.mn = 0 := by rw [HO4.out.ml, HQ4.out]; rfl
    obtain ⟨gb, ob, eb, cc⟩ := HO1.out.fa 0 f (by rw [HQ1.out]; rfl)
    simp only [Nat.add_zero] at cc
    have a6 := (cell_of_row X4 g1 6 _ _ (0, 0) HB1.out).trans (show _ = some (Value.slice (some ⟨gb, ob, none⟩) 1 p1.mc) from by rw [← eb, ← l1]; rfl)
    have b6 := (cell_of_row X4 g2 6 _ _ (0, 0) HB2.out).trans (show _ = some (Value.slice p2.mq 0 p2.mc) from by rw [← l2]; rfl)
    have c6 := (cell_of_row X4 g3 6 _ _ (0, 0) HB3.out).trans (show _ = some (Value.slice p3.mq 1 p3.mc) from by rw [← l3]; rfl)
    have d6 := (cell_of_row X4 g4 6 _ _ (0, 0) HB4.out).trans (show _ = some (Value.slice p4.mq 0 p4.mc) from by rw [← l4]; rfl)
    have a7 := (cell_of_row X4 g1 7 _ _ (0, 0) HB1.out).trans (show _ = some (Value.int .u8 1) from by rw [HQ1.out]; rfl)
    have b7 := (cell_of_row X4 g2 7 _ _ (0, 0) HB2.out).trans (show _ = some (Value.int .u8 1) from by rw [HQ2.out]; rfl)
    have c7 := (cell_of_row X4 g3 7 _ _ (0, 0) HB3.out).trans (show _ = some (Value.int .u8 1) from by rw [HQ3.out]; rfl)
    have d7 := (cell_of_row X4 g4 7 _ _ (0, 0) HB4.out).trans (show _ = some (Value.int .u8 0) from by rw [HQ4.out]; rfl)
    go_wp2_with (first
      | (go_at_call 9
         ((with_reducible refine (HAW.out X4 (HON.out _ _ HG.out BX4.out)).mono ?_); rintro e v9 ⟨rfl, b9⟩)
         have BZ := Lib.hid (thn16 BX4.out b9)
         clear b9))
    go_ret
    exact ⟨by first | rfl | simp, BZ.out⟩
  | true =>
    have HA1 := Lib.hid (fun (X : World) (g : G (X.alloc (.cells #[.string (til18 wd)] 9))) => (show Calls Tryd.prog 17 #[.string ⟨#[82, 101, 115, 116, 114, 105, 99, 116, 65, 100, 100, 114, 101, 115, 115, 70, 97, 109, 105, 108, 105, 101, 115]⟩, .slice (some ⟨X.heap.size, 0, none⟩) 1 1] (X.alloc (.cells #[.string (til18 wd)] 9)) fun e w' => ∃ p, e = .returned (.tuple #[plV p ({ PZ18 with fa := [f], fm := 2 } : Pol), .int .i64 0]) ∧ OwnP (X.alloc (.cells #[.string (til18 wd)] 9)).heap.size w' p { PZ18 with fa := [f], fm := 2 } ∧ Below (X.alloc (.cells #[.string (til18 wd)] 9)).heap.size (X.alloc (.cells #[.string (til18 wd)] 9)) w' from by
      have := after_c HC kFam (.slice (some ⟨X.heap.size, 0, none⟩) 1 1) [(til18 wd)] _ g (by decide) (strs_lit18 X [(til18 wd)]) (by show 1 ≤ 4; decide) (fun x hx => by
        have hx : x = (til18 wd) := by simpa using hx
        subst hx
        all_goals first | exact hs1 | exact hs2 | decide)
      rw [show ([(til18 wd)] : List ByteArray).length = 1 from rfl, HF.rn.2.2.2.2.1] at this
      exact this))
    have HA2 := Lib.hid (fun (X : World) (g : G (X.alloc (.cells #[.string (til18 wd), .string wd] 9))) => (show Calls Tryd.prog 17 #[.string ⟨#[82, 101, 115, 116, 114, 105, 99, 116, 65, 100, 100, 114, 101, 115, 115, 70, 97, 109, 105, 108, 105, 101, 115]⟩, .slice (some ⟨X.heap.size, 0, none⟩) 2 2] (X.alloc (.cells #[.string (til18 wd), .string wd] 9)) fun e w' => ∃ p, e = .returned (.tuple #[plV p ({ PZ18 with fm := 2 } : Pol), .int .i64 0]) ∧ OwnP (X.alloc (.cells #[.string (til18 wd), .string wd] 9)).heap.size w' p { PZ18 with fm := 2 } ∧ Below (X.alloc (.cells #[.string (til18 wd), .string wd] 9)).heap.size (X.alloc (.cells #[.string (til18 wd), .string wd] 9)) w' from by
      have := after_c HC kFam (.slice (some ⟨X.heap.size, 0, none⟩) 2 2) [(til18 wd), wd] _ g (by decide) (strs_lit18 X [(til18 wd), wd]) (by show 2 ≤ 4; decide) (fun x hx => by
        have hx : x = (til18 wd) ∨ x = wd := by simpa using hx
        rcases hx with rfl | rfl
        all_goals first | exact hs1 | exact hs2 | decide)
      rw [show ([(til18 wd), wd] : List ByteArray).length = 2 from rfl, HF.rn.2.2.2.2.2.1] at this
      exact this))
    have HA3 := Lib.hid (fun (X : World) (g : G (X.alloc (.cells #[.string (til18 wd), .string wd, .string (til18 wd)] 9))) => (show Calls Tryd.prog 17 #[.string ⟨#[82, 101, 115, 116, 114, 105, 99, 116, 65, 100, 100, 114, 101, 115, 115, 70, 97, 109, 105, 108, 105, 101, 115]⟩, .slice (some ⟨X.heap.size, 0, none⟩) 3 3] (X.alloc (.cells #[.string (til18 wd), .string wd, .string (til18 wd)] 9)) fun e w' => ∃ p, e = .returned (.tuple #[plV p ({ PZ18 with fa := [f], fm := 2 } : Pol), .int .i64 0]) ∧ OwnP (X.alloc (.cells #[.string (til18 wd), .string wd, .string (til18 wd)] 9)).heap.size w' p { PZ18 with fa := [f], fm := 2 } ∧ Below (X.alloc (.cells #[.string (til18 wd), .string wd, .string (til18 wd)] 9)).heap.size (X.alloc (.cells #[.string (til18 wd), .string wd, .string (til18 wd)] 9)) w' from by
      have := after_c HC kFam (.slice (some ⟨X.heap.size, 0, none⟩) 3 3) [(til18 wd), wd, (til18 wd)] _ g (by decide) (strs_lit18 X [(til18 wd), wd, (til18 wd)]) (by show 3 ≤ 4; decide) (fun x hx => by
        have hx : x = (til18 wd) ∨ x = wd ∨ x = (til18 wd) := by simpa using hx
        rcases hx with rfl | rfl | rfl
        all_goals first | exact hs1 | exact hs2 | decide)
      rw [show ([(til18 wd), wd, (til18 wd)] : List ByteArray).length = 3 from rfl, HF.rn.2.2.2.2.2.2.1] at this
      exact this))
    have HA4 := Lib.hid (fun (X : World) (g : G (X.alloc (.cells #[.string (til18 wd), .string ⟨#[]⟩] 9))) => (show Calls Tryd.prog 17 #[.string ⟨#[82, 101, 115, 116, 114, 105, 99, 116, 65, 100, 100, 114, 101, 115, 115, 70, 97, 109, 105, 108, 105, 101, 115]⟩, .slice (some ⟨X.heap.size, 0, none⟩) 2 2] (X.alloc (.cells #[.string (til18 wd), .string ⟨#[]⟩] 9)) fun e w' => ∃ p, e = .returned (.tuple #[plV p (PZ18 : Pol), .int .i64 0]) ∧ OwnP (X.alloc (.cells #[.string (til18 wd), .string ⟨#[]⟩] 9)).heap.size w' p PZ18 ∧ Below (X.alloc (.cells #[.string (til18 wd), .string ⟨#[]⟩] 9)).heap.size (X.alloc (.cells #[.string (til18 wd), .string ⟨#[]⟩] 9)) w' from by
      have := after_c HC kFam (.slice (some ⟨X.heap.size, 0, none⟩) 2 2) [(til18 wd), ⟨#[]⟩] _ g (by decide) (strs_lit18 X [(til18 wd), ⟨#[]⟩]) (by show 2 ≤ 4; decide) (fun x hx => by
        have hx : x = (til18 wd) ∨ x = ⟨#[]⟩ := by simpa using hx
        rcases hx with rfl | rfl
        all_goals first | exact hs1 | exact hs2 | decide)
      rw [show ([(til18 wd), ⟨#[]⟩] : List ByteArray).length = 2 from rfl, HF.rn.2.2.2.2.2.2.2] at this
      exact this))
    obtain ⟨Q1, hQ1⟩ : ∃ P : Pol, P = { PZ18 with fa := [f], fm := 2 } := ⟨_, rfl⟩
    rw [← hQ1] at HA1
    have HQ1 := Lib.hid hQ1
    clear hQ1
    obtain ⟨Q2, hQ2⟩ : ∃ P : Pol, P = { PZ18 with fm := 2 } := ⟨_, rfl⟩
    rw [← hQ2] at HA2
    have HQ2 := Lib.hid hQ2
    clear hQ2
    obtain ⟨Q3, hQ3⟩ : ∃ P : Pol, P = { PZ18 with fa := [f], fm := 2 } := ⟨_, rfl⟩
    rw [← hQ3] at HA3
    have HQ3 := Lib.hid hQ3
    clear hQ3
    obtain ⟨Q4, hQ4⟩ : ∃ P : Pol, P = PZ18 := ⟨_, rfl⟩
    rw [← hQ4] at HA4
    have HQ4 := Lib.hid hQ4
    clear hQ4
    clear HC hs1 hs2 HF
    go_enter Tryd.func6, Tryd.ntmps6
    go_upto_region 14 with (first
      | (go_at_call 20
         ((with_reducible refine (HFN.out _ (HON.out _ _ HG.out (below16 w _))).mono ?_); rintro e v0 ⟨rfl, b0⟩)
         have BX0 := Lib.hid (thn16 (below16 w (.cells #[.int .u32 1, .int .u32 2, .int .u32 10, .int .u32 16, .int .u32 17, .int .u32 31, .int .u32 38, .int .u32 40] 28)) b0)
         clear b0)
      | (go_at_call 17
         (try rw [show (({ data := #[126] } : ByteArray) ++ wd) = til18 wd from rfl])
         ((with_reducible refine (HA1.out v0 (HON.out _ _ HG.out (thn16 BX0.out (below16 v0 _)))).mono ?_); rintro e v1 ⟨p1, rfl, o1, b1⟩)
         have B1 := Lib.hid (thn16 (below16 v0 (.cells #[.string (til18 wd)] 9)) b1)
         have OV1 := Lib.hid o1
         clear o1 b1)
      | ((with_reducible show wpList _ _ _ (⟨none, .store 32 (.tmp 9) (.tmp 36), _, _, _, _⟩ :: _) _ _)
         refine wpList_store_mid rfl 32 (.tmp 9) (.tmp 36) rfl v1.heap.size 0 (plC p1 Q1).toArray (by rfl) (by rfl) (there_row17 (heap_alloc_new v1 (.cells #[.slice none 0 0, .int .u8 0, .slice none 0 0, .int .u32 0, .int .u8 0, .slice none 0 0, .slice none 0 0, .int .u8 0, .int .u64 0, .bool false, .bool false, .bool false, .bool false] 32)) (show 0 + 13 ≤ 13 by decide)) pl_info (plC_one _ _) ?_
         show wpList _ _ _ _ _ ((World.alloc v1 (.cells #[.slice none 0 0, .int .u8 0, .slice none 0 0, .int .u32 0, .int .u8 0, .slice none 0 0, .slice none 0 0, .int .u8 0, .int .u64 0, .bool false, .bool false, .bool false, .bool false] 32)).setCells v1.heap.size 0 (plC p1 Q1))
         have BS := Lib.hid (show Below v0.heap.size v0 _ from below_setCells16 B1.out.size (plC p1 Q1) 0 _ (B1.out.alloc B1.out.size (.cells #[.slice none 0 0, .int .u8 0, .slice none 0 0, .int .u32 0, .int .u8 0, .slice none 0 0, .slice none 0 0, .int .u8 0, .int .u64 0, .bool false, .bool false, .bool false, .bool false] 32)))
         have BX1 := Lib.hid (thn16 BX0.out BS.out)
         have HB1 := Lib.hid (set_fresh17 (p := p1) (P := Q1) (heap_alloc_new v1 (.cells #[.slice none 0 0, .int .u8 0, .slice none 0 0, .int .u32 0, .int .u8 0, .slice none 0 0, .slice none 0 0, .int .u8 0, .int .u64 0, .bool false, .bool false, .bool false, .bool false] 32)) rfl)
         have HO1 := Lib.hid (own_box17 (OV1.out.on (below16 v1 (.cells #[.slice none 0 0, .int .u8 0, .slice none 0 0, .int .u32 0, .int .u8 0, .slice none 0 0, .slice none 0 0, .int .u8 0, .int .u64 0, .bool false, .bool false, .bool false, .bool false] 32))) (heap_alloc_new v1 (.cells #[.slice none 0 0, .int .u8 0, .slice none 0 0, .int .u32 0, .int .u8 0, .slice none 0 0, .slice none 0 0, .int .u8 0, .int .u64 0, .bool false, .bool false, .bool false, .bool false] 32)) 0 (plC p1 Q1)).pol
         obtain ⟨g1, hg1⟩ : ∃ g, g = v1.heap.size := ⟨_, rfl⟩
         rw [← hg1] at BS BX1 HB1 HO1 ⊢
         generalize (World.alloc v1 (.cells #[.slice none 0 0, .int .u8 0, .slice none 0 0, .int .u32 0, .int .u8 0, .slice none 0 0, .slice none 0 0, .int .u8 0, .int .u64 0, .bool false, .bool false, .bool false, .bool false] 32)).setCells g1 0 (plC p1 Q1) = X1 at BS BX1 HB1 HO1 ⊢
         clear BS B1 OV1 hg1)
      | (go_at_call 17
         (try rw [show (({ data := #[126] } : ByteArray) ++ wd) = til18 wd from rfl])
         ((with_reducible refine (HA2.out X1 (HON.out _ _ HG.out (thn16 BX1.out (below16 X1 _)))).mono ?_); rintro e v2 ⟨p2, rfl, o2, b2⟩)
         have B2 := Lib.hid (thn16 (below16 X1 (.cells #[.string (til18 wd), .string wd] 9)) b2)
         have OV2 := Lib.hid o2
         clear o2 b2)
      | ((with_reducible show wpList _ _ _ (⟨none, .store 32 (.tmp 11) (.tmp 43), _, _, _, _⟩ :: _) _ _)
         refine wpList_store_mid rfl 32 (.tmp 11) (.tmp 43) rfl v2.heap.size 0 (plC p2 Q2).toArray (by rfl) (by rfl) (there_row17 (heap_alloc_new v2 (.cells #[.slice none 0 0, .int .u8 0, .slice none 0 0, .int .u32 0, .int .u8 0, .slice none 0 0, .slice none 0 0, .int .u8 0, .int .u64 0, .bool false, .bool false, .bool false, .bool false] 32)) (show 0 + 13 ≤ 13 by decide)) pl_info (plC_one _ _) ?_
         show wpList _ _ _ _ _ ((World.alloc v2 (.cells #[.slice none 0 0, .int .u8 0, .slice none 0 0, .int .u32 0, .int .u8 0, .slice none 0 0, .slice none 0 0, .int .u8 0, .int .u64 0, .bool false, .bool false, .bool false, .bool false] 32)).setCells v2.heap.size 0 (plC p2 Q2))
         have BS := Lib.hid (show Below X1.heap.size X1 _ from below_setCells16 B2.out.size (plC p2 Q2) 0 _ (B2.out.alloc B2.out.size (.cells #[.slice none 0 0, .int .u8 0, .slice none 0 0, .int .u32 0, .int .u8 0, .slice none 0 0, .slice none 0 0, .int .u8 0, .int .u64 0, .bool false, .bool false, .bool false, .bool false] 32)))
         have BX2 := Lib.hid (thn16 BX1.out BS.out)
         have HB2 := Lib.hid (set_fresh17 (p := p2) (P := Q2) (heap_alloc_new v2 (.cells #[.slice none 0 0, .int .u8 0, .slice none 0 0, .int .u32 0, .int .u8 0, .slice none 0 0, .slice none 0 0, .int .u8 0, .int .u64 0, .bool false, .bool false, .bool false, .bool false] 32)) rfl)
         have HO2 := Lib.hid (own_box17 (OV2.out.on (below16 v2 (.cells #[.slice none 0 0, .int .u8 0, .slice none 0 0, .int .u32 0, .int .u8 0, .slice none 0 0, .slice none 0 0, .int .u8 0, .int .u64 0, .bool false, .bool false, .bool false, .bool false] 32))) (heap_alloc_new v2 (.cells #[.slice none 0 0, .int .u8 0, .slice none 0 0, .int .u32 0, .int .u8 0, .slice none 0 0, .slice none 0 0, .int .u8 0, .int .u64 0, .bool false, .bool false, .bool false, .bool false] 32)) 0 (plC p2 Q2)).pol
         have HB1 := Lib.hid (blk_on HB1.out BS.out)
         have HO1 := Lib.hid (HO1.out.on BS.out)
         obtain ⟨g2, hg2⟩ : ∃ g, g = v2.heap.size := ⟨_, rfl⟩
         rw [← hg2] at BS BX2 HB2 HO2 HB1 HO1 ⊢
         generalize (World.alloc v2 (.cells #[.slice none 0 0, .int .u8 0, .slice none 0 0, .int .u32 0, .int .u8 0, .slice none 0 0, .slice none 0 0, .int .u8 0, .int .u64 0, .bool false, .bool false, .bool false, .bool false] 32)).setCells g2 0 (plC p2 Q2) = X2 at BS BX2 HB2 HO2 HB1 HO1 ⊢
         clear BS B2 OV2 hg2)
      | (go_at_call 17
         (try rw [show (({ data := #[126] } : ByteArray) ++ wd) = til18 wd from rfl])
         ((with_reducible refine (HA3.out X2 (HON.out _ _ HG.out (thn16 BX2.out (below16 X2 _)))).mono ?_); rintro e v3 ⟨p3, rfl, o3, b3⟩)
         have B3 := Lib.hid (thn16 (below16 X2 (.cells #[.string (til18 wd), .string wd, .string (til18 wd)] 9)) b3)
         have OV3 := Lib.hid o3
         clear o3 b3)
      | ((with_reducible show wpList _ _ _ (⟨none, .store 32 (.tmp 13) (.tmp 51), _, _, _, _⟩ :: _) _ _)
         refine wpList_store_mid rfl 32 (.tmp 13) (.tmp 51) rfl v3.heap.size 0 (plC p3 Q3).toArray (by rfl) (by rfl) (there_row17 (heap_alloc_new v3 (.cells #[.slice none 0 0, .int .u8 0, .slice none 0 0, .int .u32 0, .int .u8 0, .slice none 0 0, .slice none 0 0, .int .u8 0, .int .u64 0, .bool false, .bool false, .bool false, .bool false] 32)) (show 0 + 13 ≤ 13 by decide)) pl_info (plC_one _ _) ?_
         show wpList _ _ _ _ _ ((World.alloc v3 (.cells #[.slice none 0 0, .int .u8 0, .slice none 0 0, .int .u32 0, .int .u8 0, .slice none 0 0, .slice none 0 0, .int .u8 0, .int .u64 0, .bool false, .bool false, .bool false, .bool false] 32)).setCells v3.heap.size 0 (plC p3 Q3))
         have BS := Lib.hid (show Below X2.heap.size X2 _ from below_setCells16 B3.out.size (plC p3 Q3) 0 _ (B3.out.alloc B3.out.size (.cells #[.slice none 0 0, .int .u8 0, .slice none 0 0, .int .u32 0, .int .u8 0, .slice none 0 0, .slice none 0 0, .int .u8 0, .int .u64 0, .bool false, .bool false, .bool false, .bool false] 32)))
         have BX3 := Lib.hid (thn16 BX2.out BS.out)
         have HB3 := Lib.hid (set_fresh17 (p := p3) (P := Q3) (heap_alloc_new v3 (.cells #[.slice none 0 0, .int .u8 0, .slice none 0 0, .int .u32 0, .int .u8 0, .slice none 0 0, .slice none 0 0, .int .u8 0, .int .u64 0, .bool false, .bool false, .bool false, .bool false] 32)) rfl)
         have HO3 := Lib.hid (own_box17 (OV3.out.on (below16 v3 (.cells #[.slice none 0 0, .int .u8 0, .slice none 0 0, .int .u32 0, .int .u8 0, .slice none 0 0, .slice none 0 0, .int .u8 0, .int .u64 0, .bool false, .bool false, .bool false, .bool false] 32))) (heap_alloc_new v3 (.cells #[.slice none 0 0, .int .u8 0, .slice none 0 0, .int .u32 0, .int .u8 0, .slice none 0 0, .slice none 0 0, .int .u8 0, .int .u64 0, .bool false, .bool false, .bool false, .bool false] 32)) 0 (plC p3 Q3)).pol
         have HB1 := Lib.hid (blk_on HB1.out BS.out)
         have HO1 := Lib.hid (HO1.out.on BS.out)
         have HB2 := Lib.hid (blk_on HB2.out BS.out)
         have HO2 := Lib.hid (HO2.out.on BS.out)
         obtain ⟨g3, hg3⟩ : ∃ g, g = v3.heap.size := ⟨_, rfl⟩
         rw [← hg3] at BS BX3 HB3 HO3 HB1 HO1 HB2 HO2 ⊢
         generalize (World.alloc v3 (.cells #[.slice none 0 0, .int .u8 0, .slice none 0 0, .int .u32 0, .int .u8 0, .slice none 0 0, .slice none 0 0, .int .u8 0, .int .u64 0, .bool false, .bool false, .bool false, .bool false] 32)).setCells g3 0 (plC p3 Q3) = X3 at BS BX3 HB3 HO3 HB1 HO1 HB2 HO2 ⊢
         clear BS B3 OV3 hg3)
      | (go_at_call 17
         (try rw [show (({ data := #[126] } : ByteArray) ++ wd) = til18 wd from rfl])
         ((with_reducible refine (HA4.out X3 (HON.out _ _ HG.out (thn16 BX3.out (below16 X3 _)))).mono ?_); rintro e v4 ⟨p4, rfl, o4, b4⟩)
         have B4 := Lib.hid (thn16 (below16 X3 (.cells #[.string (til18 wd), .string ⟨#[]⟩] 9)) b4)
         have OV4 := Lib.hid o4
         clear o4 b4)
      | ((with_reducible show wpList _ _ _ (⟨none, .store 32 (.tmp 15) (.tmp 57), _, _, _, _⟩ :: _) _ _)
         refine wpList_store_mid rfl 32 (.tmp 15) (.tmp 57) rfl v4.heap.size 0 (plC p4 Q4).toArray (by rfl) (by rfl) (there_row17 (heap_alloc_new v4 (.cells #[.slice none 0 0, .int .u8 0, .slice none 0 0, .int .u32 0, .int .u8 0, .slice none 0 0, .slice none 0 0, .int .u8 0, .int .u64 0, .bool false, .bool false, .bool false, .bool false] 32)) (show 0 + 13 ≤ 13 by decide)) pl_info (plC_one _ _) ?_
         show wpList _ _ _ _ _ ((World.alloc v4 (.cells #[.slice none 0 0, .int .u8 0, .slice none 0 0, .int .u32 0, .int .u8 0, .slice none 0 0, .slice none 0 0, .int .u8 0, .int .u64 0, .bool false, .bool false, .bool false, .bool false] 32)).setCells v4.heap.size 0 (plC p4 Q4))
         have BS := Lib.hid (show Below X3.heap.size X3 _ from below_setCells16 B4.out.size (plC p4 Q4) 0 _ (B4.out.alloc B4.out.size (.cells #[.slice none 0 0, .int .u8 0, .slice none 0 0, .int .u32 0, .int .u8 0, .slice none 0 0, .slice none 0 0, .int .u8 0, .int .u64 0, .bool false, .bool false, .bool false, .bool false] 32)))
         have BX4 := Lib.hid (thn16 BX3.out BS.out)
         have HB4 := Lib.hid (set_fresh17 (p := p4) (P := Q4) (heap_alloc_new v4 (.cells #[.slice none 0 0, .int .u8 0, .slice none 0 0, .int .u32 0, .int .u8 0, .slice none 0 0, .slice none 0 0, .int .u8 0, .int .u64 0, .bool false, .bool false, .bool false, .bool false] 32)) rfl)
         have HO4 := Lib.hid (own_box17 (OV4.out.on (below16 v4 (.cells #[.slice none 0 0, .int .u8 0, .slice none 0 0, .int .u32 0, .int .u8 0, .slice none 0 0, .slice none 0 0, .int .u8 0, .int .u64 0, .bool false, .bool false, .bool false, .bool false] 32))) (heap_alloc_new v4 (.cells #[.slice none 0 0, .int .u8 0, .slice none 0 0, .int .u32 0, .int .u8 0, .slice none 0 0, .slice none 0 0, .int .u8 0, .int .u64 0, .bool false, .bool false, .bool false, .bool false] 32)) 0 (plC p4 Q4)).pol
         have HB1 := Lib.hid (blk_on HB1.out BS.out)
         have HO1 := Lib.hid (HO1.out.on BS.out)
         have HB2 := Lib.hid (blk_on HB2.out BS.out)
         have HO2 := Lib.hid (HO2.out.on BS.out)
         have HB3 := Lib.hid (blk_on HB3.out BS.out)
         have HO3 := Lib.hid (HO3.out.on BS.out)
         obtain ⟨g4, hg4⟩ : ∃ g, g = v4.heap.size := ⟨_, rfl⟩
         rw [← hg4] at BS BX4 HB4 HO4 HB1 HO1 HB2 HO2 HB3 HO3 ⊢
         generalize (World.alloc v4 (.cells #[.slice none 0 0, .int .u8 0, .slice none 0 0, .int .u32 0, .int .u8 0, .slice none 0 0, .slice none 0 0, .int .u8 0, .int .u64 0, .bool false, .bool false, .bool false, .bool false] 32)).setCells g4 0 (plC p4 Q4) = X4 at BS BX4 HB4 HO4 HB1 HO1 HB2 HO2 HB3 HO3 ⊢
         clear BS B4 OV4 hg4))
    have l1 : p1.mn = 1 := by rw [HO1.out.ml, HQ1.out]; rfl
    have l2 : p2.mn = 0 := by rw [HO2.out.ml, HQ2.out]; rfl
    have l3 : p3.mn = 1 := by rw [HO3.out.ml, HQ3.out]; rfl
    have l4 : p4.mn = 0 := by rw [HO4.out.ml, HQ4.out]; rfl
    obtain ⟨gb, ob, eb, cc⟩ := HO1.out.fa 0 f (by rw [HQ1.out]; rfl)
    simp only [Nat.add_zero] at cc
    have a6 := (cell_of_row X4 g1 6 _ _ (0, 0) HB1.out).trans (show _ = some (Value.slice (some ⟨gb, ob, none⟩) 1 p1.mc) from by rw [← eb, ← l1]; rfl)
    have b6 := (cell_of_row X4 g2 6 _ _ (0, 0) HB2.out).trans (show _ = some (Value.slice p2.mq 0 p2.mc) from by rw [← l2]; rfl)
    have c6 := (cell_of_row X4 g3 6 _ _ (0, 0) HB3.out).trans (show _ = some (Value.slice p3.mq 1 p3.mc) from by rw [← l3]; rfl)
    have d6 := (cell_of_row X4 g4 6 _ _ (0, 0) HB4.out).trans (show _ = some (Value.slice p4.mq 0 p4.mc) from by rw [← l4]; rfl)
    have a7 := (cell_of_row X4 g1 7 _ _ (0, 0) HB1.out).trans (show _ = some (Value.int .u8 2) from by rw [HQ1.out]; rfl)
    have b7 := (cell_of_row X4 g2 7 _ _ (0, 0) HB2.out).trans (show _ = some (Value.int .u8 2) from by rw [HQ2.out]; rfl)
    have c7 := (cell_of_row X4 g3 7 _ _ (0, 0) HB3.out).trans (show _ = some (Value.int .u8 2) from by rw [HQ3.out]; rfl)
    have d7 := (cell_of_row X4 g4 7 _ _ (0, 0) HB4.out).trans (show _ = some (Value.int .u8 0) from by rw [HQ4.out]; rfl)
    go_wp2_with (first
      | (go_at_call 9
         ((with_reducible refine (HAW.out X4 (HON.out _ _ HG.out BX4.out)).mono ?_); rintro e v9 ⟨rfl, b9⟩)
         have BZ := Lib.hid (thn16 BX4.out b9)
         clear b9))
    go_ret
    exact ⟨by first | rfl | simp, BZ.out⟩
end Go.Proofs.YtbjhleajhkofeaaDoor
