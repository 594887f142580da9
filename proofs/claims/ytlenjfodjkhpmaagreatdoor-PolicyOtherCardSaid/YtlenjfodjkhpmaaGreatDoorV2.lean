/- The landed policy: Same. Conditions: lists of at most 1,000,000. -/
import Derived.Test.YtlenjfodjkhpmaaGreatDoorV1
namespace Go.Proofs.YtlenjfodjkhpmaaGreatDoor
set_option maxRecDepth 100000
open Go.Lib (hid)
open Go.RowKit
set_option linter.unusedVariables false
set_option linter.unusedSimpArgs false
attribute [local go_sem ↓] Go.wp_at_zero Go.wp_at_succ

set_option maxHeartbeats 4000000 in
theorem eq_i19 (q1 q2 : Option Addr) (n1 n2 c1 c2 : Nat) (L1 L2 : List Int) (w : World) (h1 : n1 = L1.length) (h2 : n2 = L2.length) (hn : n1 ≤ 1000000) (r1 : NumsAt .i64 w q1 L1) (r2 : NumsAt .i64 w q2 L2) : Calls Tryz.prog 64 #[.slice q1 n1 c1, .slice q2 n2 c2] w fun e w' => e = .returned (.bool (decide (L1 = L2))) ∧ Below w.heap.size w w' := by
 have HA := hid (fun (W : World) (b : Below w.heap.size w W) => r1.on b)
 have HB := hid (fun (W : World) (b : Below w.heap.size w W) => r2.on b)
 by_cases hne : n1 = n2
 ·subst hne
  have HL := hid h1
  have HL2 := hid h2
  have t0 : ((n1 : Int) == (n1 : Int)) = true := by simp
  have t1 : ((n1 : Int) != (n1 : Int)) = false := by simp
  clear h1 h2 r1 r2
  go_enter Tryz.func64, Tryz.ntmps64
  go_wp2_with fail
  go_loopw [13] (fun v13 wr => ∃ k : Nat, k ≤ n1 ∧ v13 = .int .i64 k ∧ Hid (∀ j, j < k → L1[j]? = L2[j]?) ∧ Hid (Below w.heap.size w wr)) (fun v13 _ => n1 - (intOf v13).toNat)
  case atStart => exact ⟨0, Nat.zero_le _, rfl, hid (fun j hj => absurd hj (by omega)), hid (Below.refl _ _)⟩
  case round =>
   obtain ⟨k, hk, rfl, HM, PB⟩ := hrel
   obtain ⟨V, rfl⟩ : ∃ wo : World, wo = wr := ⟨_, rfl⟩
   by_cases hlt : k < n1
   ·obtain ⟨x, hx⟩ : ∃ x, L1[k]? = some x := ⟨L1[k]'(by rw [← HL.out]; exact hlt), List.getElem?_eq_getElem _⟩
    obtain ⟨y, hy⟩ : ∃ y, L2[k]? = some y := ⟨L2[k]'(by rw [← HL2.out]; exact hlt), List.getElem?_eq_getElem _⟩
    obtain ⟨g, o, rfl, a0⟩ := HA.out V PB.out k x hx
    obtain ⟨g', o', rfl, b0⟩ := HB.out V PB.out k y hy
    have k1 : (k : Int) < n1 := by omega
    have k0 : (0 : Int) ≤ k := by omega
    have HX := hid hx
    have HY := hid hy
    clear hx hy
    by_cases hxy : x = y
    ·subst hxy
     have HM2 := hid (fun j (hj : j < k + 1) => (by
      by_cases ej : j = k
      ·subst ej; rw [HX.out, HY.out]
      ·exact HM.out j (by omega) : L1[j]? = L2[j]?))
     have t2 : (x == x) = true := by simp
     have t3 : (x != x) = false := by simp
     go_wp2_with fail
     go_quiet (fail)
     go_wp2_with fail
     go_roundw
     case rel => exact ⟨k + 1, by omega, by go_num, HM2, hid (Go.below_drewN PB.out _)⟩
     case measure => first | (simp [intOf]; done) | (simp [intOf]; omega)
    ·have HF := hid (show decide (L1 = L2) = false from decide_eq_false fun e => hxy (by
      have := HX.out
      rw [e, HY.out] at this
      exact (Option.some.inj this).symm))
     have t2 : (x == y) = false := beq_eq_false_iff_ne.2 hxy
     have t3 : (x != y) = true := bne_iff_ne.2 hxy
     clear hxy
     go_wp2_with fail
     go_quiet (fail)
     go_wp2_with fail
     go_ret
     exact ⟨by rw [HF.out]; rfl, Go.below_drewN PB.out _⟩

   ·obtain rfl : k = n1 := by omega
    have kk : ¬ (k : Int) < k := by omega
    have HF := hid (show decide (L1 = L2) = true from decide_eq_true (List.ext_getElem? fun j => by
     by_cases hj : j < k
     ·exact HM.out j hj
     ·rw [List.getElem?_eq_none (by rw [← HL.out]; omega), List.getElem?_eq_none (by rw [← HL2.out]; omega)]))
    go_wp2_with fail
    go_ret
    exact ⟨by rw [HF.out]; rfl, PB.out⟩
 ·have t0 : ((n1 : Int) == (n2 : Int)) = false := beq_eq_false_iff_ne.2 (by omega)
  have t1 : ((n1 : Int) != (n2 : Int)) = true := bne_iff_ne.2 (by omega)
  rw [decide_eq_false (show ¬ L1 = L2 from fun e => hne (by rw [h1, h2, e]))]
  clear h1 h2 r1 r2 hne HA HB
  go_enter Tryz.func64, Tryz.ntmps64
  go_wp2_with fail
  go_ret
  exact ⟨rfl, Below.refl _ _⟩
set_option maxHeartbeats 4000000 in
theorem eq_u19 (q1 q2 : Option Addr) (n1 n2 c1 c2 : Nat) (L1 L2 : List Int) (w : World) (h1 : n1 = L1.length) (h2 : n2 = L2.length) (hn : n1 ≤ 1000000) (r1 : NumsAt .u32 w q1 L1) (r2 : NumsAt .u32 w q2 L2) : Calls Tryz.prog 66 #[.slice q1 n1 c1, .slice q2 n2 c2] w fun e w' => e = .returned (.bool (decide (L1 = L2))) ∧ Below w.heap.size w w' := by
 have HA := hid (fun (W : World) (b : Below w.heap.size w W) => r1.on b)
 have HB := hid (fun (W : World) (b : Below w.heap.size w W) => r2.on b)
 by_cases hne : n1 = n2
 ·subst hne
  have HL := hid h1
  have HL2 := hid h2
  have t0 : ((n1 : Int) == (n1 : Int)) = true := by simp
  have t1 : ((n1 : Int) != (n1 : Int)) = false := by simp
  clear h1 h2 r1 r2
  go_enter Tryz.func66, Tryz.ntmps66
  go_wp2_with fail
  go_loopw [13] (fun v13 wr => ∃ k : Nat, k ≤ n1 ∧ v13 = .int .i64 k ∧ Hid (∀ j, j < k → L1[j]? = L2[j]?) ∧ Hid (Below w.heap.size w wr)) (fun v13 _ => n1 - (intOf v13).toNat)
  case atStart => exact ⟨0, Nat.zero_le _, rfl, hid (fun j hj => absurd hj (by omega)), hid (Below.refl _ _)⟩
  case round =>
   obtain ⟨k, hk, rfl, HM, PB⟩ := hrel
   obtain ⟨V, rfl⟩ : ∃ wo : World, wo = wr := ⟨_, rfl⟩
   by_cases hlt : k < n1
   ·obtain ⟨x, hx⟩ : ∃ x, L1[k]? = some x := ⟨L1[k]'(by rw [← HL.out]; exact hlt), List.getElem?_eq_getElem _⟩
    obtain ⟨y, hy⟩ : ∃ y, L2[k]? = some y := ⟨L2[k]'(by rw [← HL2.out]; exact hlt), List.getElem?_eq_getElem _⟩
    obtain ⟨g, o, rfl, a0⟩ := HA.out V PB.out k x hx
    obtain ⟨g', o', rfl, b0⟩ := HB.out V PB.out k y hy
    have k1 : (k : Int) < n1 := by omega
    have k0 : (0 : Int) ≤ k := by omega
    have HX := hid hx
    have HY := hid hy
    clear hx hy
    by_cases hxy : x = y
    ·subst hxy
     have HM2 := hid (fun j (hj : j < k + 1) => (by
      by_cases ej : j = k
      ·subst ej; rw [HX.out, HY.out]
      ·exact HM.out j (by omega) : L1[j]? = L2[j]?))
     have t2 : (x == x) = true := by simp
     have t3 : (x != x) = false := by simp
     go_wp2_with fail
     go_quiet (fail)
     go_wp2_with fail
     go_roundw
     case rel => exact ⟨k + 1, by omega, by go_num, HM2, hid (Go.below_drewN PB.out _)⟩
     case measure => first | (simp [intOf]; done) | (simp [intOf]; omega)
    ·have HF := hid (show decide (L1 = L2) = false from decide_eq_false fun e => hxy (by
      have := HX.out
      rw [e, HY.out] at this
      exact (Option.some.inj this).symm))
     have t2 : (x == y) = false := beq_eq_false_iff_ne.2 hxy
     have t3 : (x != y) = true := bne_iff_ne.2 hxy
     clear hxy
     go_wp2_with fail
     go_quiet (fail)
     go_wp2_with fail
     go_ret
     exact ⟨by rw [HF.out]; rfl, Go.below_drewN PB.out _⟩

   ·obtain rfl : k = n1 := by omega
    have kk : ¬ (k : Int) < k := by omega
    have HF := hid (show decide (L1 = L2) = true from decide_eq_true (List.ext_getElem? fun j => by
     by_cases hj : j < k
     ·exact HM.out j hj
     ·rw [List.getElem?_eq_none (by rw [← HL.out]; omega), List.getElem?_eq_none (by rw [← HL2.out]; omega)]))
    go_wp2_with fail
    go_ret
    exact ⟨by rw [HF.out]; rfl, PB.out⟩
 ·have t0 : ((n1 : Int) == (n2 : Int)) = false := beq_eq_false_iff_ne.2 (by omega)
  have t1 : ((n1 : Int) != (n2 : Int)) = true := bne_iff_ne.2 (by omega)
  rw [decide_eq_false (show ¬ L1 = L2 from fun e => hne (by rw [h1, h2, e]))]
  clear h1 h2 r1 r2 hne HA HB
  go_enter Tryz.func66, Tryz.ntmps66
  go_wp2_with fail
  go_ret
  exact ⟨rfl, Below.refl _ _⟩
set_option maxHeartbeats 4000000 in
theorem eq_c19 (q1 q2 : Option Addr) (n1 n2 c1 c2 : Nat) (L1 L2 : List Cl) (w : World) (h1 : n1 = L1.length) (h2 : n2 = L2.length) (hn : n1 ≤ 1000000) (r1 : LsAt w q1 L1) (r2 : LsAt w q2 L2) : Calls Tryz.prog 97 #[.slice q1 n1 c1, .slice q2 n2 c2] w fun e w' => e = .returned (.bool (decide (L1 = L2))) ∧ Below w.heap.size w w' := by
 have HA := hid (fun (W : World) (b : Below w.heap.size w W) => r1.on b)
 have HB := hid (fun (W : World) (b : Below w.heap.size w W) => r2.on b)
 by_cases hne : n1 = n2
 ·subst hne
  have HL := hid h1
  have HL2 := hid h2
  have t0 : ((n1 : Int) == (n1 : Int)) = true := by simp
  have t1 : ((n1 : Int) != (n1 : Int)) = false := by simp
  clear h1 h2 r1 r2
  go_enter Tryz.func97, Tryz.ntmps97
  go_wp2_with fail
  go_loopw [13] (fun v13 wr => ∃ k : Nat, k ≤ n1 ∧ v13 = .int .i64 k ∧ Hid (∀ j, j < k → L1[j]? = L2[j]?) ∧ Hid (Below w.heap.size w wr)) (fun v13 _ => n1 - (intOf v13).toNat)
  case atStart => exact ⟨0, Nat.zero_le _, rfl, hid (fun j hj => absurd hj (by omega)), hid (Below.refl _ _)⟩
  case round =>
   obtain ⟨k, hk, rfl, HM, PB⟩ := hrel
   obtain ⟨V, rfl⟩ : ∃ wo : World, wo = wr := ⟨_, rfl⟩
   by_cases hlt : k < n1
   ·obtain ⟨x, hx⟩ : ∃ x, L1[k]? = some x := ⟨L1[k]'(by rw [← HL.out]; exact hlt), List.getElem?_eq_getElem _⟩
    obtain ⟨y, hy⟩ : ∃ y, L2[k]? = some y := ⟨L2[k]'(by rw [← HL2.out]; exact hlt), List.getElem?_eq_getElem _⟩
    obtain ⟨g, o, rfl, a0, a1⟩ := HA.out V PB.out k x hx
    obtain ⟨g', o', rfl, b0, b1⟩ := HB.out V PB.out k y hy
    have k1 : (k : Int) < n1 := by omega
    have k0 : (0 : Int) ≤ k := by omega
    have HX := hid hx
    have HY := hid hy
    clear hx hy
    by_cases hxy : x = y
    ·subst hxy
     have HM2 := hid (fun j (hj : j < k + 1) => (by
      by_cases ej : j = k
      ·subst ej; rw [HX.out, HY.out]
      ·exact HM.out j (by omega) : L1[j]? = L2[j]?))
     obtain ⟨a, m⟩ := x
     have t2 : (a.toList == a.toList) = true := by simp
     have t3 : ((m : Int) == (m : Int)) = true := by simp
     clear HX HY
     go_wp2_with fail
     go_quiet (fail)
     go_wp2_with fail
     go_roundw
     case rel => exact ⟨k + 1, by omega, by go_num, HM2, hid (Go.below_drewN PB.out _)⟩
     case measure => first | (simp [intOf]; done) | (simp [intOf]; omega)
    ·have HF := hid (show decide (L1 = L2) = false from decide_eq_false fun e => hxy (by
      have := HX.out
      rw [e, HY.out] at this
      exact (Option.some.inj this).symm))
     obtain ⟨a, m⟩ := x
     obtain ⟨b, l⟩ := y
     by_cases hab : a.toList = b.toList
     ·have t2 : (a.toList == b.toList) = true := beq_iff_eq.2 hab
      have t3 : ((m : Int) == (l : Int)) = false := beq_eq_false_iff_ne.2 (fun e => hxy (by rw [list_of_bytes10 (a := a) (b := b) hab]; exact congrArg _ (Int.ofNat.inj e)))
      clear hxy hab HX HY
      go_wp2_with fail
      go_quiet (fail)
      go_wp2_with fail
      go_ret
      exact ⟨by rw [HF.out]; rfl, Go.below_drewN PB.out _⟩
     ·have t2 : (a.toList == b.toList) = false := beq_eq_false_iff_ne.2 hab
      clear hxy hab HX HY
      go_wp2_with fail
      go_quiet (fail)
      go_wp2_with fail
      go_ret
      exact ⟨by rw [HF.out]; rfl, Go.below_drewN PB.out _⟩

   ·obtain rfl : k = n1 := by omega
    have kk : ¬ (k : Int) < k := by omega
    have HF := hid (show decide (L1 = L2) = true from decide_eq_true (List.ext_getElem? fun j => by
     by_cases hj : j < k
     ·exact HM.out j hj
     ·rw [List.getElem?_eq_none (by rw [← HL.out]; omega), List.getElem?_eq_none (by rw [← HL2.out]; omega)]))
    go_wp2_with fail
    go_ret
    exact ⟨by rw [HF.out]; rfl, PB.out⟩
 ·have t0 : ((n1 : Int) == (n2 : Int)) = false := beq_eq_false_iff_ne.2 (by omega)
  have t1 : ((n1 : Int) != (n2 : Int)) = true := bne_iff_ne.2 (by omega)
  rw [decide_eq_false (show ¬ L1 = L2 from fun e => hne (by rw [h1, h2, e]))]
  clear h1 h2 r1 r2 hne HA HB
  go_enter Tryz.func97, Tryz.ntmps97
  go_wp2_with fail
  go_ret
  exact ⟨rfl, Below.refl _ _⟩
def sameL (a b : Nat × List Cl) : Bool := decide (a.1 = b.1) && decide (a.2 = b.2)
set_option maxHeartbeats 4000000 in
theorem sameL_c19 (m1 m2 : Nat) (q1 q2 : Option Addr) (n1 n2 c1 c2 : Nat) (L1 L2 : List Cl) (w : World) (h1 : n1 = L1.length) (h2 : n2 = L2.length) (hn : n1 ≤ 1000000) (r1 : LsAt w q1 L1) (r2 : LsAt w q2 L2) : Calls Tryz.prog 65 #[lsV m1 q1 n1 c1, lsV m2 q2 n2 c2] w fun e w' => e = .returned (.bool (sameL (m1, L1) (m2, L2))) ∧ Below w.heap.size w w' := by
 unfold sameL lsV
 have HE := hid (fun (W : World) (b : Below w.heap.size w W) => eq_c19 q1 q2 n1 n2 c1 c2 L1 L2 W h1 h2 hn (r1.on b) (r2.on b))
 generalize decide (L1 = L2) = z at HE ⊢
 have BW := hid (((Below.refl w.heap.size w).alloc (Nat.le_refl _) (.cells #[.int .u8 (m1 : Nat), .slice q1 n1 c1] 27)).alloc (by rw [World.size_alloc]; omega) (.cells #[.int .u8 (m2 : Nat), .slice q2 n2 c2] 27))
 by_cases hm : m1 = m2
 ·subst hm
  have t0 : ((m1 : Int) == (m1 : Int)) = true := by simp
  rw [decide_eq_true rfl, Bool.true_and]
  clear h1 h2 hn r1 r2
  go_enter Tryz.func65, Tryz.ntmps65
  go_wp2_with (go_at_call 97; ((with_reducible refine (HE.out _ BW.out).mono ?_); rintro e w1 ⟨rfl, b⟩))
  go_ret
  exact ⟨rfl, thn16 BW.out b⟩
 ·have t0 : ((m1 : Int) == (m2 : Int)) = false := beq_eq_false_iff_ne.2 (by omega)
  rw [decide_eq_false hm, Bool.false_and]
  clear h1 h2 hn r1 r2 hm HE
  go_enter Tryz.func65, Tryz.ntmps65
  go_wp2_with fail
  go_ret
  exact ⟨rfl, BW.out⟩
end Go.Proofs.YtlenjfodjkhpmaaGreatDoor
