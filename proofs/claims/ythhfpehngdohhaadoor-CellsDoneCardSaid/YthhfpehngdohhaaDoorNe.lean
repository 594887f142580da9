/- What the landed machine's find returns: the function of a code. -/
import Derived.Test.YthhfpehngdohhaaDoorNa
namespace Go.Proofs.YthhfpehngdohhaaDoor
open Go.RowKit
set_option linter.unusedVariables false
attribute [local go_sem ↓] Go.wp_at_zero Go.wp_at_succ

/-- The rows of the table: a code, a code, a function. -/
def opR : List (Int × Int × Nat) := [(4, 12, 45), (20, 28, 46), (36, 44, 47), (52, 60, 48), (68, 76, 49), (84, 92, 50), (100, 108, 51), (116, 124, 52), (164, 172, 53), (132, 132, 54)]
theorem opR_length : opR.length = 10 := rfl
theorem opR_cells {k : Nat} (hk : k < opR.length) : opsC[k * 3 + 0]? = some (.int .u16 (opR[k]).1) ∧ opsC[k * 3 + 1]? = some (.int .u16 (opR[k]).2.1) ∧ opsC[k * 3 + 2]? = some (.func (.func (opR[k]).2.2) #[] #[]) := by
  match k, hk with
  | 0, _ => exact ⟨rfl, rfl, rfl⟩
  | 1, _ => exact ⟨rfl, rfl, rfl⟩
  | 2, _ => exact ⟨rfl, rfl, rfl⟩
  | 3, _ => exact ⟨rfl, rfl, rfl⟩
  | 4, _ => exact ⟨rfl, rfl, rfl⟩
  | 5, _ => exact ⟨rfl, rfl, rfl⟩
  | 6, _ => exact ⟨rfl, rfl, rfl⟩
  | 7, _ => exact ⟨rfl, rfl, rfl⟩
  | 8, _ => exact ⟨rfl, rfl, rfl⟩
  | 9, _ => exact ⟨rfl, rfl, rfl⟩
  | k + 10, hk => exact absurd hk (by rw [opR_length]; omega)
theorem op_cells {w : World} {M : Nat} {a x : Int} {c : Nat → Int} {d : Dat} {st : Int} {ov : Bool} {an : Int} (h : ML w M a x c d st ov an) {k : Nat} (hk : k < opR.length) :
    w.cell? ⟨M, 27 + k * 3, none⟩ = some (.int .u16 (opR[k]).1) ∧ w.cell? ⟨M, 27 + k * 3 + 1, none⟩ = some (.int .u16 (opR[k]).2.1) ∧ w.cell? ⟨M, 27 + k * 3 + 2, none⟩ = some (.func (.func (opR[k]).2.2) #[] #[]) := by
  obtain ⟨h0, h1, h2⟩ := opR_cells hk
  have hk' : k < 10 := hk
  refine ⟨h.cell _ _ ?_, h.cell _ _ ?_, h.cell _ _ ?_⟩
  · exact (ml_op hk' (by omega : 0 < 3)).trans h0
  · exact (ml_op hk' (by omega : 1 < 3)).trans h1
  · exact (ml_op hk' (by omega : 2 < 3)).trans h2
set_option maxHeartbeats 1600000 in
theorem find_op (cd : Int) (n : Nat) (hn : n < opR.length) (hit : (opR[n]).1 = cd ∨ (opR[n]).2.1 = cd) (miss : ∀ (k : Nat) (h : k < n), (opR[k]'(by omega)).1 ≠ cd ∧ (opR[k]'(by omega)).2.1 ≠ cd)
    (a x : Int) (c : Nat → Int) (d : Dat) (st : Int) (ov : Bool) (an : Int) (M : Nat) (w : World) (hm : ML w M a x c d st ov an) :
    Calls Tryd.prog 70 #[.slice (some ⟨M, 27, none⟩) 10 10, .int .u16 cd] w fun e w' => e = .returned (.func (.func (opR[n]).2.2) #[] #[]) ∧ w = w' := by
  have HM := Lib.hid hm
  have HI := Lib.hid hit
  have HS := Lib.hid miss
  have hn' : n < 10 := hn
  clear hm hit miss
  go_enter Tryd.func70, Tryd.ntmps70
  go_wp2
  go_loop [8] (fun i => ∃ k : Nat, k ≤ n ∧ i = .int .i64 k) (fun i => 10 - (intOf i).toNat)
  case atStart => exact ⟨0, by omega, rfl⟩
  case round =>
    obtain ⟨k, hk, rfl⟩ := hrel
    have hkl : k < opR.length := Nat.lt_of_le_of_lt hk hn
    have k9 : (k : Int) < 10 := by omega
    obtain ⟨p0, p1, p2⟩ := op_cells HM.out hkl
    by_cases hlt : k < n
    · obtain ⟨m0, m1⟩ := HS.out k hlt
      obtain ⟨x0, e0⟩ : ∃ v, v = (opR[k]).1 := ⟨_, rfl⟩
      obtain ⟨x1, e1⟩ : ∃ v, v = (opR[k]).2.1 := ⟨_, rfl⟩
      rw [← e0] at p0 m0
      rw [← e1] at p1 m1
      have q0 : (x0 == cd) = false := beq_eq_false_iff_ne.2 m0
      have q1 : (x1 == cd) = false := beq_eq_false_iff_ne.2 m1
      clear e0 e1 m0 m1 p2 hkl
      go_wp2
      go_round
      case rel => exact ⟨k + 1, by omega, by go_num⟩
      case measure => simp [intOf]; omega
    · obtain rfl : k = n := by omega
      have hi := HI.out
      generalize (opR[k]'hkl).1 = x0 at p0 hi
      generalize (opR[k]'hkl).2.1 = x1 at p1 hi
      generalize he2 : (opR[k]'hkl).2.2 = x2 at p2
      have HX := Lib.hid he2
      clear he2
      by_cases h0 : x0 = cd
      · have q0 : (x0 == cd) = true := beq_iff_eq.2 h0
        clear hi h0
        go_wp2
        go_ret
        exact ⟨congrArg (fun v => Ending.returned (.func (.func v) #[] #[])) HX.out.symm, rfl⟩
      · have q0 : (x0 == cd) = false := beq_eq_false_iff_ne.2 h0
        have q1 : (x1 == cd) = true := beq_iff_eq.2 (hi.resolve_left h0)
        clear hi h0
        go_wp2
        go_ret
        exact ⟨congrArg (fun v => Ending.returned (.func (.func v) #[] #[])) HX.out.symm, rfl⟩
/-- The rows of the table: a code, a code, a function. -/
def cmpR : List (Int × Int × Nat) := [(21, 29, 55), (37, 45, 56), (53, 61, 57), (69, 77, 58)]
theorem cmpR_length : cmpR.length = 4 := rfl
theorem cmpR_cells {k : Nat} (hk : k < cmpR.length) : cmpC[k * 3 + 0]? = some (.int .u16 (cmpR[k]).1) ∧ cmpC[k * 3 + 1]? = some (.int .u16 (cmpR[k]).2.1) ∧ cmpC[k * 3 + 2]? = some (.func (.func (cmpR[k]).2.2) #[] #[]) := by
  match k, hk with
  | 0, _ => exact ⟨rfl, rfl, rfl⟩
  | 1, _ => exact ⟨rfl, rfl, rfl⟩
  | 2, _ => exact ⟨rfl, rfl, rfl⟩
  | 3, _ => exact ⟨rfl, rfl, rfl⟩
  | k + 4, hk => exact absurd hk (by rw [cmpR_length]; omega)
theorem cmp_cells {w : World} {M : Nat} {a x : Int} {c : Nat → Int} {d : Dat} {st : Int} {ov : Bool} {an : Int} (h : ML w M a x c d st ov an) {k : Nat} (hk : k < cmpR.length) :
    w.cell? ⟨M, 57 + k * 3, none⟩ = some (.int .u16 (cmpR[k]).1) ∧ w.cell? ⟨M, 57 + k * 3 + 1, none⟩ = some (.int .u16 (cmpR[k]).2.1) ∧ w.cell? ⟨M, 57 + k * 3 + 2, none⟩ = some (.func (.func (cmpR[k]).2.2) #[] #[]) := by
  obtain ⟨h0, h1, h2⟩ := cmpR_cells hk
  have hk' : k < 4 := hk
  refine ⟨h.cell _ _ ?_, h.cell _ _ ?_, h.cell _ _ ?_⟩
  · exact (ml_cmp hk' (by omega : 0 < 3)).trans h0
  · exact (ml_cmp hk' (by omega : 1 < 3)).trans h1
  · exact (ml_cmp hk' (by omega : 2 < 3)).trans h2
set_option maxHeartbeats 1600000 in
theorem find_cmp (cd : Int) (n : Nat) (hn : n < cmpR.length) (hit : (cmpR[n]).1 = cd ∨ (cmpR[n]).2.1 = cd) (miss : ∀ (k : Nat) (h : k < n), (cmpR[k]'(by omega)).1 ≠ cd ∧ (cmpR[k]'(by omega)).2.1 ≠ cd)
    (a x : Int) (c : Nat → Int) (d : Dat) (st : Int) (ov : Bool) (an : Int) (M : Nat) (w : World) (hm : ML w M a x c d st ov an) :
    Calls Tryd.prog 71 #[.slice (some ⟨M, 57, none⟩) 4 4, .int .u16 cd] w fun e w' => e = .returned (.func (.func (cmpR[n]).2.2) #[] #[]) ∧ w = w' := by
  have HM := Lib.hid hm
  have HI := Lib.hid hit
  have HS := Lib.hid miss
  have hn' : n < 4 := hn
  clear hm hit miss
  go_enter Tryd.func71, Tryd.ntmps71
  go_wp2
  go_loop [8] (fun i => ∃ k : Nat, k ≤ n ∧ i = .int .i64 k) (fun i => 4 - (intOf i).toNat)
  case atStart => exact ⟨0, by omega, rfl⟩
  case round =>
    obtain ⟨k, hk, rfl⟩ := hrel
    have hkl : k < cmpR.length := Nat.lt_of_le_of_lt hk hn
    have k9 : (k : Int) < 4 := by omega
    obtain ⟨p0, p1, p2⟩ := cmp_cells HM.out hkl
    by_cases hlt : k < n
    · obtain ⟨m0, m1⟩ := HS.out k hlt
      obtain ⟨x0, e0⟩ : ∃ v, v = (cmpR[k]).1 := ⟨_, rfl⟩
      obtain ⟨x1, e1⟩ : ∃ v, v = (cmpR[k]).2.1 := ⟨_, rfl⟩
      rw [← e0] at p0 m0
      rw [← e1] at p1 m1
      have q0 : (x0 == cd) = false := beq_eq_false_iff_ne.2 m0
      have q1 : (x1 == cd) = false := beq_eq_false_iff_ne.2 m1
      clear e0 e1 m0 m1 p2 hkl
      go_wp2
      go_round
      case rel => exact ⟨k + 1, by omega, by go_num⟩
      case measure => simp [intOf]; omega
    · obtain rfl : k = n := by omega
      have hi := HI.out
      generalize (cmpR[k]'hkl).1 = x0 at p0 hi
      generalize (cmpR[k]'hkl).2.1 = x1 at p1 hi
      generalize he2 : (cmpR[k]'hkl).2.2 = x2 at p2
      have HX := Lib.hid he2
      clear he2
      by_cases h0 : x0 = cd
      · have q0 : (x0 == cd) = true := beq_iff_eq.2 h0
        clear hi h0
        go_wp2
        go_ret
        exact ⟨congrArg (fun v => Ending.returned (.func (.func v) #[] #[])) HX.out.symm, rfl⟩
      · have q0 : (x0 == cd) = false := beq_eq_false_iff_ne.2 h0
        have q1 : (x1 == cd) = true := beq_iff_eq.2 (hi.resolve_left h0)
        clear hi h0
        go_wp2
        go_ret
        exact ⟨congrArg (fun v => Ending.returned (.func (.func v) #[] #[])) HX.out.symm, rfl⟩
end Go.Proofs.YthhfpehngdohhaaDoor
