/- The landed policy: the calls of a list, as entries. Conditions: names of at most 1,000 bytes. -/
import Derived.Test.YtlenjfodjkhpmaaGreatDoorV5
import Derived.Test.YtlenjfodjkhpmaaGreatDoorKr
import Derived.Deep.RegionHeld3
namespace Go.Proofs.YtlenjfodjkhpmaaGreatDoor
set_option maxRecDepth 100000
open Go.Lib (hid)
open Go.RowKit
set_option linter.unusedVariables false
set_option linter.unusedSimpArgs false
attribute [local go_sem ↓] Go.wp_at_zero Go.wp_at_succ

def entT (c : Cl) : ByteArray := textR ⟨c.1, c.2, actB c⟩
def entW (p : Cl → Bool) (L : List Cl) : List ByteArray := (L.filter p).map entT
theorem entW_len (p : Cl → Bool) (L : List Cl) : (entW p L).length ≤ L.length := by unfold entW; rw [List.length_map]; exact List.length_filter_le _ _
theorem ent_step19 {p : Cl → Bool} {L : List Cl} {k : Nat} {y : Cl} (h : L[k]? = some y) : (p y = true → entW p (L.take (k + 1)) = entW p (L.take k) ++ [entT y]) ∧ (p y = false → entW p (L.take (k + 1)) = entW p (L.take k)) := by
 unfold entW
 rw [List.take_add_one, h]
 show (p y = true → ((L.take k ++ [y]).filter p).map entT = _) ∧ (p y = false → ((L.take k ++ [y]).filter p).map entT = _)
 rw [List.filter_append]
 refine ⟨fun e => ?_, fun e => ?_⟩
 ·rw [show [y].filter p = [y] by simp [e], List.map_append]; rfl
 ·rw [show [y].filter p = [] by simp [e], List.append_nil]
abbrev kRdW : ByteArray := bs [114, 101, 97, 100]
def allB (c : Cl) : Bool := true
def ownB (c : Cl) : Bool := !actB c && !decide (c.1 = kRdW)
theorem row_two19 {S : World} {g n : Nat} {a : ByteArray} (h : S.heap[g]? = some (.cells #[.string a, .int .u32 (n : Nat)] 67 (0, 0))) : S.cell? ⟨g, 0, none⟩ = some (.string a) ∧ S.cell? ⟨g, 1, none⟩ = some (.int .u32 (n : Nat)) := ⟨(cell_of_row S g 0 _ _ (0, 0) h).trans rfl, (cell_of_row S g 1 _ _ (0, 0) h).trans rfl⟩
set_option maxHeartbeats 4000000 in
theorem lw_c19 (c : Cl) (w : World) : Calls Tryz.prog 84 #[.agg #[.string c.1, .int .u32 (c.2 : Nat)]] w fun e w' => e = .returned (.bool (allB c)) ∧ Below w.heap.size w w' := by
 unfold allB
 go_enter Tryz.func84, Tryz.ntmps84
 go_wp2
 go_ret
 exact ⟨rfl, (Below.refl _ _).alloc (Nat.le_refl _) _⟩
set_option maxHeartbeats 4000000 in
theorem own_c19b (c : Cl) (w : World) : Calls Tryz.prog 113 #[.agg #[.string c.1, .int .u32 (c.2 : Nat)]] w fun e w' => e = .returned (.bool (ownB c)) ∧ Below w.heap.size w w' := by
 have HA := hid (fun X => act_c19 c X)
 unfold ownB
 generalize actB c = ab at HA ⊢
 obtain ⟨a, n⟩ := c
 simp only at HA ⊢
 have BW := hid (below16 w (.cells #[.string a, .int .u32 (n : Nat)] 67))
 obtain ⟨W, hW⟩ : ∃ W, W = w.alloc (.cells #[.string a, .int .u32 (n : Nat)] 67) := ⟨_, rfl⟩
 have SW := hid (show W.heap[w.heap.size]? = some (.cells #[.string a, .int .u32 (n : Nat)] 67 (0, 0)) from hW ▸ heap_alloc_new w _)
 rw [← hW] at BW
 have HWW := hid hW
 clear hW
 cases ab with
 | true =>
  go_enter Tryz.func113, Tryz.ntmps113
  go_wp2_with (go_at_call 59; (try rw [← HWW.out]); ((with_reducible refine (HA.out _).mono ?_); rintro e w1 ⟨rfl, b1⟩))
  go_ret
  exact ⟨rfl, thn16 BW.out b1⟩
 | false =>
  have hr : decide (a = kRdW) = (a.toList == [114, 101, 97, 100]) := by
   by_cases h : a = kRdW
   ·rw [decide_eq_true h, eq_str h]
   ·rw [decide_eq_false h, ne_str h]
  rw [hr]
  clear hr
  go_enter Tryz.func113, Tryz.ntmps113
  go_wp2_with (go_at_call 59; (try rw [← HWW.out]); ((with_reducible refine (HA.out _).mono ?_); rintro e w1 ⟨rfl, b1⟩); have S1 := hid ((b1.block _ (blk_lt SW.out)).trans SW.out); have d0 := (row_two19 S1.out).1)
  go_ret
  exact ⟨by simp, thn16 BW.out b1⟩
set_option maxHeartbeats 16000000 in
theorem ent_t19 (m : Nat) (q : Option Addr) (n c : Nat) (L : List Cl) (w : World) (hG : GN w) (hl : n = L.length) (hn : n ≤ 100000) (h : LsAt w q L) (hs : ∀ e ∈ L, e.1.size ≤ 1000 ∧ e.2 < 4294967296) : Calls Tryz.prog 83 #[lsV m q n c, .func (.func 84) #[] #[]] w fun e w' => OutS w (entW allB L) e w' := by
 obtain ⟨i0, hi0, hz0, hz1, hz2⟩ := info_parts str_info11
 have HI := hid hi0
 have HZ0 := hid hz0
 have HZ1 := hid hz1
 have HZ2 := hid hz2
 have HN := hid (fun (W : World) (b : Below w.heap.size w W) => h.on b)
 have HL := hid hl
 have HON := hid (fun (W : World) (b : Below w.heap.size w W) => GN.on hG b)
 have HSZ := hid hs
 unfold lsV
 have B0 := hid (below16 w (.cells #[.int .u8 (m : Nat), .slice q n c] 27))
 obtain ⟨W, hW⟩ : ∃ W, W = w.alloc (.cells #[.int .u8 (m : Nat), .slice q n c] 27) := ⟨_, rfl⟩
 have HWW := hid hW
 rw [← hW] at B0
 clear h hl hG hs hi0 hz0 hz1 hz2 hW
 go_enter Tryz.func83, Tryz.ntmps83
 go_wp2
 rw [← HWW.out]
 go_loopw [5, 11] (fun v5 v11 wr => ∃ k : Nat, k ≤ n ∧ v11 = .int .i64 k ∧ Hid (wr.ownsRow w.heap.size 9 1 v5 (entW allB (L.take k)).length (sG (entW allB (L.take k)))) ∧ Hid (Below w.heap.size w wr)) (fun _ v11 _ => n - (intOf v11).toNat)
 case atStart => exact ⟨0, Nat.zero_le _, rfl, hid (World.ownsRow_nil _ _ _ _), B0⟩
 case round =>
  clear B0
  obtain ⟨k, hk, rfl, PO, PB⟩ := hrel
  obtain ⟨V, rfl⟩ : ∃ wo : World, wo = wr := ⟨_, rfl⟩
  by_cases hlt : k < n
  ·obtain ⟨y, hy⟩ : ∃ y, L[k]? = some y := ⟨L[k]'(by rw [← HL.out]; exact hlt), List.getElem?_eq_getElem _⟩
   obtain ⟨g, o, rfl, c0, c1⟩ := HN.out V PB.out k y hy
   have k1 : (k : Int) < n := by omega
   have k0 : (0 : Int) ≤ k := by omega
   have HY := hid (HSZ.out y (List.mem_of_getElem? hy))
   have HEN := hid (show (allB y = true → entW allB (L.take (k + 1)) = entW allB (L.take k) ++ [entT y]) ∧ (allB y = false → entW allB (L.take (k + 1)) = entW allB (L.take k)) from ent_step19 hy)
   have HEL := hid (show (entW allB (L.take k)).length ≤ 100000 from Nat.le_trans (entW_len _ _) (by rw [List.length_take]; omega))
   have HCC := hid (fun X => lw_c19 y X)
   have HAC := hid (fun X => act_c19 y X)
   obtain ⟨ya, yn⟩ := y
   simp only at c0 c1 HCC HAC HY
   obtain ⟨V1, hV1⟩ : ∃ V1, V1 = V.alloc (.cells #[.string ya, .int .u32 (yn : Nat)] 67) := ⟨_, rfl⟩
   have B1 := hid (show Below w.heap.size w V1 from hV1 ▸ PB.out.alloc PB.out.size _)
   have P1 := hid (show V1.ownsRow w.heap.size 9 1 u5 (entW allB (L.take k)).length (sG (entW allB (L.take k))) from hV1 ▸ PO.out.alloc _)
   have S1 := hid (show V1.heap[V.heap.size]? = some (.cells #[.string ya, .int .u32 (yn : Nat)] 67 (0, 0)) from hV1 ▸ heap_alloc_new V _)
   have HV1 := hid hV1
   have HPL := hid (fun g hg => (PO.out.lt g hg).2)
   have HT := hid (fun (X : World) (b : Below w.heap.size w X) => text15 ⟨ya, yn, actB (ya, yn)⟩ X (HON.out X b) (Nat.le_trans HY.out.1 (by decide)) HY.out.2)
   have HNT := hid (show textR ⟨ya, yn, actB (ya, yn)⟩ = entT (ya, yn) from rfl)
   rw [HNT.out] at HT
   simp only [entV] at HT
   obtain ⟨x, hx⟩ : ∃ x, x = entT (ya, yn) := ⟨_, rfl⟩
   rw [← hx] at HT HEN
   obtain ⟨Z, hZ⟩ : ∃ Z, Z = entW allB (L.take k) := ⟨_, rfl⟩
   rw [← hZ] at P1 HEN HEL
   obtain ⟨zl, hzl⟩ : ∃ zl, zl = Z.length := ⟨_, rfl⟩
   have HZL := hid hzl
   rw [← hzl] at P1 HEL
   have hz100 : zl ≤ 100000 := HEL.out
   clear hy hV1 hx hZ hzl PO HNT
   generalize allB (ya, yn) = z at HCC HEN
   cases z with
   | true =>
    have HE := hid (HEN.out.1 rfl)
    generalize actB (ya, yn) = ab at HAC HT
    clear HEN
    go_wp2_with (first
     | (go_at_call 84
        (try rw [← HV1.out])
        ((with_reducible refine (HCC.out _).mono ?_); rintro e v2 ⟨rfl, b2⟩)
        have B2 := hid (thn16 B1.out b2)
        have P2 := hid (owns_on16 P1.out b2)
        have S2 := hid ((b2.block _ (blk_lt S1.out)).trans S1.out)
        clear b2)
     | fail)
    have d0 := (cell_of_row v2 V.heap.size 0 _ _ (0, 0) S2.out).trans (show _ = some (Value.string ya) from rfl)
    have d1 := (cell_of_row v2 V.heap.size 1 _ _ (0, 0) S2.out).trans (show _ = some (Value.int .u32 (yn : Nat)) from rfl)
    go_wp2_with fail
    go_region_held3 (fun w' => w'.cell? ⟨V.heap.size, 0, none⟩ = some (.string ya) ∧ w'.cell? ⟨V.heap.size, 1, none⟩ = some (.int .u32 (yn : Nat)))
     (first | exact ⟨d0, d1⟩ | (with_reducible exact ⟨HD3.out.1, HD3.out.2⟩) | (with_reducible exact ⟨HD4.out.1, HD4.out.2⟩) | (with_reducible exact ⟨HD5.out.1, HD5.out.2⟩) | (with_reducible exact ⟨HD6.out.1, HD6.out.2⟩) | trivial)
     (first
     | (go_at_call 59; ((with_reducible refine (HAC.out _).mono ?_); rintro e v3 ⟨rfl, b3⟩)
        have B3 := hid (thn16 B2.out (((Below.refl v2.heap.size v2).drew).trans b3)); have P3 := hid (owns_on16 P2.out (((Below.refl v2.heap.size v2).drew).trans b3)); have S3 := hid (((((Below.refl v2.heap.size v2).drew).trans b3).block _ (blk_lt S2.out)).trans S2.out)
        have HD3 := hid (row_two19 S3.out); clear b3)
     | (go_at_call 114; ((with_reducible refine (HT.out _ B3.out).mono ?_); rintro e v4 ⟨rfl, b4⟩)
        have B4 := hid (thn16 B3.out b4); have P4 := hid (owns_on16 P3.out b4); have S4 := hid ((b4.block _ (blk_lt S3.out)).trans S3.out)
        have HD4 := hid (row_two19 S4.out); have HD5 := hid (row_two19 (S := _) (((below16 v4 (.cells #[.string x] 9)).block _ (blk_lt S4.out)).trans S4.out)); clear b4)
     | (refine step_app_r (by rfl) (.tmp 18) (.tmp 27) 44 (by rfl) w.heap.size 9 i0 _ 1 16 Tryz.underlying44 HI.out HZ0.out HZ1.out HZ2.out rfl (by omega) u5 zl (sG Z) (by rfl) (P4.out.alloc _) (some ⟨v4.heap.size, 0, none⟩) 1 1 (sG [x]) (by rfl) rfl (fun _ => ⟨_, rfl, news_g v4 x _⟩) (sG_one _) (by unfold maxLen; omega) (by omega) (by rw [World.size_alloc]; exact Nat.le_succ_of_le B4.out.size) ?_
        intro v6 w6 o6 h6
        rw [← sG_app] at o6
        have O6 := hid o6
        have HD6 := hid (row_two19 ((h6.block V.heap.size (blk_lt (((below16 v4 (.cells #[.string x] 9)).block _ (blk_lt S4.out)).trans S4.out)) (fun e => Nat.lt_irrefl _ (HPL.out _ e.symm))).trans (((below16 v4 (.cells #[.string x] 9)).block _ (blk_lt S4.out)).trans S4.out)))
        have B6 := hid ((B4.out.alloc B4.out.size _).grown h6 (by rw [World.size_alloc]; exact Nat.le_succ_of_le B4.out.size) (fun g hg => (P4.out.lt g hg).1))
        clear o6 h6))
    all_goals
     go_wp2_with fail
     go_roundw
     case rel => exact ⟨k + 1, by omega, by go_num, hid (by rw [HE.out, List.length_append, ← HZL.out]; exact O6.out), B6⟩
     case measure => first | (simp [intOf]; done) | (simp [intOf]; omega)
   | false =>
    have HE := hid (HEN.out.2 rfl)
    clear HEN HT HAC
    go_wp2_with (first
     | (go_at_call 84
        (try rw [← HV1.out])
        ((with_reducible refine (HCC.out _).mono ?_); rintro e v2 ⟨rfl, b2⟩)
        have B2 := hid (thn16 B1.out b2)
        have P2 := hid (owns_on16 P1.out b2)
        clear b2)
     | fail)
    go_roundw
    case rel => exact ⟨k + 1, by omega, by go_num, hid (by rw [HE.out, ← HZL.out]; exact P2.out), B2⟩
    case measure => first | (simp [intOf]; done) | (simp [intOf]; omega)
  ·obtain rfl : k = n := by omega
   have k1 : ¬ (k : Int) < (k : Nat) := by omega
   have HO := hid (show V.ownsRow w.heap.size 9 1 u5 (entW allB L).length (sG (entW allB L)) by
    have := PO.out
    rw [List.take_of_length_le (by rw [← HL.out]; exact Nat.le_refl _)] at this
    exact this)
   obtain ⟨qv, cv, hqv⟩ := own16 HO.out
   subst hqv
   go_wp2
   go_ret
   exact ⟨qv, cv, rfl, HO.out, PB.out⟩
set_option maxHeartbeats 16000000 in
theorem ent_a19 (m : Nat) (q : Option Addr) (n c : Nat) (L : List Cl) (w : World) (hG : GN w) (hl : n = L.length) (hn : n ≤ 100000) (h : LsAt w q L) (hs : ∀ e ∈ L, e.1.size ≤ 1000 ∧ e.2 < 4294967296) : Calls Tryz.prog 83 #[lsV m q n c, .func (.func 59) #[] #[]] w fun e w' => OutS w (entW actB L) e w' := by
 obtain ⟨i0, hi0, hz0, hz1, hz2⟩ := info_parts str_info11
 have HI := hid hi0
 have HZ0 := hid hz0
 have HZ1 := hid hz1
 have HZ2 := hid hz2
 have HN := hid (fun (W : World) (b : Below w.heap.size w W) => h.on b)
 have HL := hid hl
 have HON := hid (fun (W : World) (b : Below w.heap.size w W) => GN.on hG b)
 have HSZ := hid hs
 unfold lsV
 have B0 := hid (below16 w (.cells #[.int .u8 (m : Nat), .slice q n c] 27))
 obtain ⟨W, hW⟩ : ∃ W, W = w.alloc (.cells #[.int .u8 (m : Nat), .slice q n c] 27) := ⟨_, rfl⟩
 have HWW := hid hW
 rw [← hW] at B0
 clear h hl hG hs hi0 hz0 hz1 hz2 hW
 go_enter Tryz.func83, Tryz.ntmps83
 go_wp2
 rw [← HWW.out]
 go_loopw [5, 11] (fun v5 v11 wr => ∃ k : Nat, k ≤ n ∧ v11 = .int .i64 k ∧ Hid (wr.ownsRow w.heap.size 9 1 v5 (entW actB (L.take k)).length (sG (entW actB (L.take k)))) ∧ Hid (Below w.heap.size w wr)) (fun _ v11 _ => n - (intOf v11).toNat)
 case atStart => exact ⟨0, Nat.zero_le _, rfl, hid (World.ownsRow_nil _ _ _ _), B0⟩
 case round =>
  clear B0
  obtain ⟨k, hk, rfl, PO, PB⟩ := hrel
  obtain ⟨V, rfl⟩ : ∃ wo : World, wo = wr := ⟨_, rfl⟩
  by_cases hlt : k < n
  ·obtain ⟨y, hy⟩ : ∃ y, L[k]? = some y := ⟨L[k]'(by rw [← HL.out]; exact hlt), List.getElem?_eq_getElem _⟩
   obtain ⟨g, o, rfl, c0, c1⟩ := HN.out V PB.out k y hy
   have k1 : (k : Int) < n := by omega
   have k0 : (0 : Int) ≤ k := by omega
   have HY := hid (HSZ.out y (List.mem_of_getElem? hy))
   have HEN := hid (show (actB y = true → entW actB (L.take (k + 1)) = entW actB (L.take k) ++ [entT y]) ∧ (actB y = false → entW actB (L.take (k + 1)) = entW actB (L.take k)) from ent_step19 hy)
   have HEL := hid (show (entW actB (L.take k)).length ≤ 100000 from Nat.le_trans (entW_len _ _) (by rw [List.length_take]; omega))
   have HCC := hid (fun X => act_c19 y X)
   have HAC := hid (fun X => act_c19 y X)
   obtain ⟨ya, yn⟩ := y
   simp only at c0 c1 HCC HAC HY
   obtain ⟨V1, hV1⟩ : ∃ V1, V1 = V.alloc (.cells #[.string ya, .int .u32 (yn : Nat)] 67) := ⟨_, rfl⟩
   have B1 := hid (show Below w.heap.size w V1 from hV1 ▸ PB.out.alloc PB.out.size _)
   have P1 := hid (show V1.ownsRow w.heap.size 9 1 u5 (entW actB (L.take k)).length (sG (entW actB (L.take k))) from hV1 ▸ PO.out.alloc _)
   have S1 := hid (show V1.heap[V.heap.size]? = some (.cells #[.string ya, .int .u32 (yn : Nat)] 67 (0, 0)) from hV1 ▸ heap_alloc_new V _)
   have HV1 := hid hV1
   have HPL := hid (fun g hg => (PO.out.lt g hg).2)
   have HT := hid (fun (X : World) (b : Below w.heap.size w X) => text15 ⟨ya, yn, actB (ya, yn)⟩ X (HON.out X b) (Nat.le_trans HY.out.1 (by decide)) HY.out.2)
   have HNT := hid (show textR ⟨ya, yn, actB (ya, yn)⟩ = entT (ya, yn) from rfl)
   rw [HNT.out] at HT
   simp only [entV] at HT
   obtain ⟨x, hx⟩ : ∃ x, x = entT (ya, yn) := ⟨_, rfl⟩
   rw [← hx] at HT HEN
   obtain ⟨Z, hZ⟩ : ∃ Z, Z = entW actB (L.take k) := ⟨_, rfl⟩
   rw [← hZ] at P1 HEN HEL
   obtain ⟨zl, hzl⟩ : ∃ zl, zl = Z.length := ⟨_, rfl⟩
   have HZL := hid hzl
   rw [← hzl] at P1 HEL
   have hz100 : zl ≤ 100000 := HEL.out
   clear hy hV1 hx hZ hzl PO HNT
   generalize actB (ya, yn) = z at HCC HEN
   cases z with
   | true =>
    have HE := hid (HEN.out.1 rfl)
    generalize actB (ya, yn) = ab at HAC HT
    clear HEN
    go_wp2_with (first
     | (go_at_call 59
        (try rw [← HV1.out])
        ((with_reducible refine (HCC.out _).mono ?_); rintro e v2 ⟨rfl, b2⟩)
        have B2 := hid (thn16 B1.out b2)
        have P2 := hid (owns_on16 P1.out b2)
        have S2 := hid ((b2.block _ (blk_lt S1.out)).trans S1.out)
        clear b2)
     | fail)
    have d0 := (cell_of_row v2 V.heap.size 0 _ _ (0, 0) S2.out).trans (show _ = some (Value.string ya) from rfl)
    have d1 := (cell_of_row v2 V.heap.size 1 _ _ (0, 0) S2.out).trans (show _ = some (Value.int .u32 (yn : Nat)) from rfl)
    go_wp2_with fail
    go_region_held3 (fun w' => w'.cell? ⟨V.heap.size, 0, none⟩ = some (.string ya) ∧ w'.cell? ⟨V.heap.size, 1, none⟩ = some (.int .u32 (yn : Nat)))
     (first | exact ⟨d0, d1⟩ | (with_reducible exact ⟨HD3.out.1, HD3.out.2⟩) | (with_reducible exact ⟨HD4.out.1, HD4.out.2⟩) | (with_reducible exact ⟨HD5.out.1, HD5.out.2⟩) | (with_reducible exact ⟨HD6.out.1, HD6.out.2⟩) | trivial)
     (first
     | (go_at_call 59; ((with_reducible refine (HAC.out _).mono ?_); rintro e v3 ⟨rfl, b3⟩)
        have B3 := hid (thn16 B2.out (((Below.refl v2.heap.size v2).drew).trans b3)); have P3 := hid (owns_on16 P2.out (((Below.refl v2.heap.size v2).drew).trans b3)); have S3 := hid (((((Below.refl v2.heap.size v2).drew).trans b3).block _ (blk_lt S2.out)).trans S2.out)
        have HD3 := hid (row_two19 S3.out); clear b3)
     | (go_at_call 114; ((with_reducible refine (HT.out _ B3.out).mono ?_); rintro e v4 ⟨rfl, b4⟩)
        have B4 := hid (thn16 B3.out b4); have P4 := hid (owns_on16 P3.out b4); have S4 := hid ((b4.block _ (blk_lt S3.out)).trans S3.out)
        have HD4 := hid (row_two19 S4.out); have HD5 := hid (row_two19 (S := _) (((below16 v4 (.cells #[.string x] 9)).block _ (blk_lt S4.out)).trans S4.out)); clear b4)
     | (refine step_app_r (by rfl) (.tmp 18) (.tmp 27) 44 (by rfl) w.heap.size 9 i0 _ 1 16 Tryz.underlying44 HI.out HZ0.out HZ1.out HZ2.out rfl (by omega) u5 zl (sG Z) (by rfl) (P4.out.alloc _) (some ⟨v4.heap.size, 0, none⟩) 1 1 (sG [x]) (by rfl) rfl (fun _ => ⟨_, rfl, news_g v4 x _⟩) (sG_one _) (by unfold maxLen; omega) (by omega) (by rw [World.size_alloc]; exact Nat.le_succ_of_le B4.out.size) ?_
        intro v6 w6 o6 h6
        rw [← sG_app] at o6
        have O6 := hid o6
        have HD6 := hid (row_two19 ((h6.block V.heap.size (blk_lt (((below16 v4 (.cells #[.string x] 9)).block _ (blk_lt S4.out)).trans S4.out)) (fun e => Nat.lt_irrefl _ (HPL.out _ e.symm))).trans (((below16 v4 (.cells #[.string x] 9)).block _ (blk_lt S4.out)).trans S4.out)))
        have B6 := hid ((B4.out.alloc B4.out.size _).grown h6 (by rw [World.size_alloc]; exact Nat.le_succ_of_le B4.out.size) (fun g hg => (P4.out.lt g hg).1))
        clear o6 h6))
    all_goals
     go_wp2_with fail
     go_roundw
     case rel => exact ⟨k + 1, by omega, by go_num, hid (by rw [HE.out, List.length_append, ← HZL.out]; exact O6.out), B6⟩
     case measure => first | (simp [intOf]; done) | (simp [intOf]; omega)
   | false =>
    have HE := hid (HEN.out.2 rfl)
    clear HEN HT HAC
    go_wp2_with (first
     | (go_at_call 59
        (try rw [← HV1.out])
        ((with_reducible refine (HCC.out _).mono ?_); rintro e v2 ⟨rfl, b2⟩)
        have B2 := hid (thn16 B1.out b2)
        have P2 := hid (owns_on16 P1.out b2)
        clear b2)
     | fail)
    go_roundw
    case rel => exact ⟨k + 1, by omega, by go_num, hid (by rw [HE.out, ← HZL.out]; exact P2.out), B2⟩
    case measure => first | (simp [intOf]; done) | (simp [intOf]; omega)
  ·obtain rfl : k = n := by omega
   have k1 : ¬ (k : Int) < (k : Nat) := by omega
   have HO := hid (show V.ownsRow w.heap.size 9 1 u5 (entW actB L).length (sG (entW actB L)) by
    have := PO.out
    rw [List.take_of_length_le (by rw [← HL.out]; exact Nat.le_refl _)] at this
    exact this)
   obtain ⟨qv, cv, hqv⟩ := own16 HO.out
   subst hqv
   go_wp2
   go_ret
   exact ⟨qv, cv, rfl, HO.out, PB.out⟩
set_option maxHeartbeats 16000000 in
theorem ent_o19 (m : Nat) (q : Option Addr) (n c : Nat) (L : List Cl) (w : World) (hG : GN w) (hl : n = L.length) (hn : n ≤ 100000) (h : LsAt w q L) (hs : ∀ e ∈ L, e.1.size ≤ 1000 ∧ e.2 < 4294967296) : Calls Tryz.prog 83 #[lsV m q n c, .func (.func 113) #[] #[]] w fun e w' => OutS w (entW ownB L) e w' := by
 obtain ⟨i0, hi0, hz0, hz1, hz2⟩ := info_parts str_info11
 have HI := hid hi0
 have HZ0 := hid hz0
 have HZ1 := hid hz1
 have HZ2 := hid hz2
 have HN := hid (fun (W : World) (b : Below w.heap.size w W) => h.on b)
 have HL := hid hl
 have HON := hid (fun (W : World) (b : Below w.heap.size w W) => GN.on hG b)
 have HSZ := hid hs
 unfold lsV
 have B0 := hid (below16 w (.cells #[.int .u8 (m : Nat), .slice q n c] 27))
 obtain ⟨W, hW⟩ : ∃ W, W = w.alloc (.cells #[.int .u8 (m : Nat), .slice q n c] 27) := ⟨_, rfl⟩
 have HWW := hid hW
 rw [← hW] at B0
 clear h hl hG hs hi0 hz0 hz1 hz2 hW
 go_enter Tryz.func83, Tryz.ntmps83
 go_wp2
 rw [← HWW.out]
 go_loopw [5, 11] (fun v5 v11 wr => ∃ k : Nat, k ≤ n ∧ v11 = .int .i64 k ∧ Hid (wr.ownsRow w.heap.size 9 1 v5 (entW ownB (L.take k)).length (sG (entW ownB (L.take k)))) ∧ Hid (Below w.heap.size w wr)) (fun _ v11 _ => n - (intOf v11).toNat)
 case atStart => exact ⟨0, Nat.zero_le _, rfl, hid (World.ownsRow_nil _ _ _ _), B0⟩
 case round =>
  clear B0
  obtain ⟨k, hk, rfl, PO, PB⟩ := hrel
  obtain ⟨V, rfl⟩ : ∃ wo : World, wo = wr := ⟨_, rfl⟩
  by_cases hlt : k < n
  ·obtain ⟨y, hy⟩ : ∃ y, L[k]? = some y := ⟨L[k]'(by rw [← HL.out]; exact hlt), List.getElem?_eq_getElem _⟩
   obtain ⟨g, o, rfl, c0, c1⟩ := HN.out V PB.out k y hy
   have k1 : (k : Int) < n := by omega
   have k0 : (0 : Int) ≤ k := by omega
   have HY := hid (HSZ.out y (List.mem_of_getElem? hy))
   have HEN := hid (show (ownB y = true → entW ownB (L.take (k + 1)) = entW ownB (L.take k) ++ [entT y]) ∧ (ownB y = false → entW ownB (L.take (k + 1)) = entW ownB (L.take k)) from ent_step19 hy)
   have HEL := hid (show (entW ownB (L.take k)).length ≤ 100000 from Nat.le_trans (entW_len _ _) (by rw [List.length_take]; omega))
   have HCC := hid (fun X => own_c19b y X)
   have HAC := hid (fun X => act_c19 y X)
   obtain ⟨ya, yn⟩ := y
   simp only at c0 c1 HCC HAC HY
   obtain ⟨V1, hV1⟩ : ∃ V1, V1 = V.alloc (.cells #[.string ya, .int .u32 (yn : Nat)] 67) := ⟨_, rfl⟩
   have B1 := hid (show Below w.heap.size w V1 from hV1 ▸ PB.out.alloc PB.out.size _)
   have P1 := hid (show V1.ownsRow w.heap.size 9 1 u5 (entW ownB (L.take k)).length (sG (entW ownB (L.take k))) from hV1 ▸ PO.out.alloc _)
   have S1 := hid (show V1.heap[V.heap.size]? = some (.cells #[.string ya, .int .u32 (yn : Nat)] 67 (0, 0)) from hV1 ▸ heap_alloc_new V _)
   have HV1 := hid hV1
   have HPL := hid (fun g hg => (PO.out.lt g hg).2)
   have HT := hid (fun (X : World) (b : Below w.heap.size w X) => text15 ⟨ya, yn, actB (ya, yn)⟩ X (HON.out X b) (Nat.le_trans HY.out.1 (by decide)) HY.out.2)
   have HNT := hid (show textR ⟨ya, yn, actB (ya, yn)⟩ = entT (ya, yn) from rfl)
   rw [HNT.out] at HT
   simp only [entV] at HT
   obtain ⟨x, hx⟩ : ∃ x, x = entT (ya, yn) := ⟨_, rfl⟩
   rw [← hx] at HT HEN
   obtain ⟨Z, hZ⟩ : ∃ Z, Z = entW ownB (L.take k) := ⟨_, rfl⟩
   rw [← hZ] at P1 HEN HEL
   obtain ⟨zl, hzl⟩ : ∃ zl, zl = Z.length := ⟨_, rfl⟩
   have HZL := hid hzl
   rw [← hzl] at P1 HEL
   have hz100 : zl ≤ 100000 := HEL.out
   clear hy hV1 hx hZ hzl PO HNT
   generalize ownB (ya, yn) = z at HCC HEN
   cases z with
   | true =>
    have HE := hid (HEN.out.1 rfl)
    generalize actB (ya, yn) = ab at HAC HT
    clear HEN
    go_wp2_with (first
     | (go_at_call 113
        (try rw [← HV1.out])
        ((with_reducible refine (HCC.out _).mono ?_); rintro e v2 ⟨rfl, b2⟩)
        have B2 := hid (thn16 B1.out b2)
        have P2 := hid (owns_on16 P1.out b2)
        have S2 := hid ((b2.block _ (blk_lt S1.out)).trans S1.out)
        clear b2)
     | fail)
    have d0 := (cell_of_row v2 V.heap.size 0 _ _ (0, 0) S2.out).trans (show _ = some (Value.string ya) from rfl)
    have d1 := (cell_of_row v2 V.heap.size 1 _ _ (0, 0) S2.out).trans (show _ = some (Value.int .u32 (yn : Nat)) from rfl)
    go_wp2_with fail
    go_region_held3 (fun w' => w'.cell? ⟨V.heap.size, 0, none⟩ = some (.string ya) ∧ w'.cell? ⟨V.heap.size, 1, none⟩ = some (.int .u32 (yn : Nat)))
     (first | exact ⟨d0, d1⟩ | (with_reducible exact ⟨HD3.out.1, HD3.out.2⟩) | (with_reducible exact ⟨HD4.out.1, HD4.out.2⟩) | (with_reducible exact ⟨HD5.out.1, HD5.out.2⟩) | (with_reducible exact ⟨HD6.out.1, HD6.out.2⟩) | trivial)
     (first
     | (go_at_call 59; ((with_reducible refine (HAC.out _).mono ?_); rintro e v3 ⟨rfl, b3⟩)
        have B3 := hid (thn16 B2.out (((Below.refl v2.heap.size v2).drew).trans b3)); have P3 := hid (owns_on16 P2.out (((Below.refl v2.heap.size v2).drew).trans b3)); have S3 := hid (((((Below.refl v2.heap.size v2).drew).trans b3).block _ (blk_lt S2.out)).trans S2.out)
        have HD3 := hid (row_two19 S3.out); clear b3)
     | (go_at_call 114; ((with_reducible refine (HT.out _ B3.out).mono ?_); rintro e v4 ⟨rfl, b4⟩)
        have B4 := hid (thn16 B3.out b4); have P4 := hid (owns_on16 P3.out b4); have S4 := hid ((b4.block _ (blk_lt S3.out)).trans S3.out)
        have HD4 := hid (row_two19 S4.out); have HD5 := hid (row_two19 (S := _) (((below16 v4 (.cells #[.string x] 9)).block _ (blk_lt S4.out)).trans S4.out)); clear b4)
     | (refine step_app_r (by rfl) (.tmp 18) (.tmp 27) 44 (by rfl) w.heap.size 9 i0 _ 1 16 Tryz.underlying44 HI.out HZ0.out HZ1.out HZ2.out rfl (by omega) u5 zl (sG Z) (by rfl) (P4.out.alloc _) (some ⟨v4.heap.size, 0, none⟩) 1 1 (sG [x]) (by rfl) rfl (fun _ => ⟨_, rfl, news_g v4 x _⟩) (sG_one _) (by unfold maxLen; omega) (by omega) (by rw [World.size_alloc]; exact Nat.le_succ_of_le B4.out.size) ?_
        intro v6 w6 o6 h6
        rw [← sG_app] at o6
        have O6 := hid o6
        have HD6 := hid (row_two19 ((h6.block V.heap.size (blk_lt (((below16 v4 (.cells #[.string x] 9)).block _ (blk_lt S4.out)).trans S4.out)) (fun e => Nat.lt_irrefl _ (HPL.out _ e.symm))).trans (((below16 v4 (.cells #[.string x] 9)).block _ (blk_lt S4.out)).trans S4.out)))
        have B6 := hid ((B4.out.alloc B4.out.size _).grown h6 (by rw [World.size_alloc]; exact Nat.le_succ_of_le B4.out.size) (fun g hg => (P4.out.lt g hg).1))
        clear o6 h6))
    all_goals
     go_wp2_with fail
     go_roundw
     case rel => exact ⟨k + 1, by omega, by go_num, hid (by rw [HE.out, List.length_append, ← HZL.out]; exact O6.out), B6⟩
     case measure => first | (simp [intOf]; done) | (simp [intOf]; omega)
   | false =>
    have HE := hid (HEN.out.2 rfl)
    clear HEN HT HAC
    go_wp2_with (first
     | (go_at_call 113
        (try rw [← HV1.out])
        ((with_reducible refine (HCC.out _).mono ?_); rintro e v2 ⟨rfl, b2⟩)
        have B2 := hid (thn16 B1.out b2)
        have P2 := hid (owns_on16 P1.out b2)
        clear b2)
     | fail)
    go_roundw
    case rel => exact ⟨k + 1, by omega, by go_num, hid (by rw [HE.out, ← HZL.out]; exact P2.out), B2⟩
    case measure => first | (simp [intOf]; done) | (simp [intOf]; omega)
  ·obtain rfl : k = n := by omega
   have k1 : ¬ (k : Int) < (k : Nat) := by omega
   have HO := hid (show V.ownsRow w.heap.size 9 1 u5 (entW ownB L).length (sG (entW ownB L)) by
    have := PO.out
    rw [List.take_of_length_le (by rw [← HL.out]; exact Nat.le_refl _)] at this
    exact this)
   obtain ⟨qv, cv, hqv⟩ := own16 HO.out
   subst hqv
   go_wp2
   go_ret
   exact ⟨qv, cv, rfl, HO.out, PB.out⟩
end Go.Proofs.YtlenjfodjkhpmaaGreatDoor
