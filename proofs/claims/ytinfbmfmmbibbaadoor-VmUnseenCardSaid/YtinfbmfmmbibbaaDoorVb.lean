/- The document's machine in memory: A, X, what is told, the cells, whether it is over; what becomes of it by a store; how the document shifts. Condition: numbers below 2 to the 32nd. -/
import Derived.Test.YtinfbmfmmbibbaaDoorVa
import Derived.Test.YtinfbmfmmbibbaaDoorDc
import Derived.Test.YtinfbmfmmbibbaaDoorIh
import Derived.OwnWalk
import Derived.Maps.AppendAt
namespace Go.Proofs.YtinfbmfmmbibbaaDoor
open Go.RowKit
set_option linter.unusedVariables false
attribute [local go_sem ↓] Go.wp_at_zero Go.wp_at_succ

/-- The machine's twenty cells. -/
def machC (a x t : Int) (c : Nat → Int) (ov : Bool) : List Value := .int .u32 a :: .int .u32 x :: .int .u32 t :: ((List.range 16).map (fun j => Value.int .u32 (c j)) ++ [.bool ov])
/-- Block M holds the machine. -/
def MachAt (w : World) (M : Nat) (a x t : Int) (c : Nat → Int) (ov : Bool) : Prop := w.heap[M]? = some (.cells (machC a x t c ov).toArray 61 (0, 0))
theorem MachAt.lt {w : World} {M : Nat} {a x t : Int} {c : Nat → Int} {ov : Bool} (h : MachAt w M a x t c ov) : M < w.heap.size := lt_of_block h
theorem MachAt.cell {w : World} {M : Nat} {a x t : Int} {c : Nat → Int} {ov : Bool} (h : MachAt w M a x t c ov) (i : Nat) (v : Value) (hv : (machC a x t c ov)[i]? = some v) : w.cell? ⟨M, i, none⟩ = some v := by
  rw [cell_of_row w M i _ _ (0, 0) h, List.getElem?_toArray]; exact hv
theorem MachAt.free {w : World} {M : Nat} {a x t : Int} {c : Nat → Int} {ov : Bool} (h : MachAt w M a x t c ov) (i : Nat) : w.frozen? ⟨M, i, none⟩ = false := frozen_of_row w M i _ _ h
theorem MachAt.on {w w' : World} {M : Nat} {a x t : Int} {c : Nat → Int} {ov : Bool} (h : MachAt w M a x t c ov) (hb : Below w.heap.size w w') : MachAt w' M a x t c ov := (hb.block M h.lt).trans h
theorem MachAt.set_ {w : World} {M : Nat} {a x t a' x' t' : Int} {c c' : Nat → Int} {ov ov' : Bool} (h : MachAt w M a x t c ov) (i : Nat) (v : Value) (he : (machC a x t c ov).set i v = machC a' x' t' c' ov') : MachAt (w.setCell ⟨M, i, none⟩ v) M a' x' t' c' ov' := by
  have := heap_setCell_same w M i _ _ v h
  unfold MachAt
  rw [this, ← he]; simp
theorem mach_get {a x t : Int} {c : Nat → Int} {ov : Bool} {k : Nat} (hk : k < 16) : (machC a x t c ov)[3 + k]? = some (.int .u32 (c k)) := by
  match k, hk with
  | 0, _ => rfl
  | 1, _ => rfl
  | 2, _ => rfl
  | 3, _ => rfl
  | 4, _ => rfl
  | 5, _ => rfl
  | 6, _ => rfl
  | 7, _ => rfl
  | 8, _ => rfl
  | 9, _ => rfl
  | 10, _ => rfl
  | 11, _ => rfl
  | 12, _ => rfl
  | 13, _ => rfl
  | 14, _ => rfl
  | 15, _ => rfl
  | k + 16, hk => omega
theorem mach_put {a x t : Int} {c : Nat → Int} {ov : Bool} {k : Nat} (v : Int) (hk : k < 16) : (machC a x t c ov).set (3 + k) (.int .u32 v) = machC a x t (fun j => if j = k then v else c j) ov := by
  match k, hk with
  | 0, _ => rfl
  | 1, _ => rfl
  | 2, _ => rfl
  | 3, _ => rfl
  | 4, _ => rfl
  | 5, _ => rfl
  | 6, _ => rfl
  | 7, _ => rfl
  | 8, _ => rfl
  | 9, _ => rfl
  | 10, _ => rfl
  | 11, _ => rfl
  | 12, _ => rfl
  | 13, _ => rfl
  | 14, _ => rfl
  | 15, _ => rfl
  | k + 16, hk => omega
theorem of_below {w w' : World} {row : Option Nat} (h : Below w.heap.size w w') : w.grownBy w' row := ⟨h.os, h.tape, h.output, h.size, fun k hk _ => h.block k hk⟩
theorem of_set (w : World) (M i : Nat) (v : Value) : w.grownBy (w.setCell ⟨M, i, none⟩ v) (some M) := ⟨rfl, rfl, rfl, by simp [World.setCell], fun k _ hne => heap_setCell_other w _ k v (fun e => hne (by rw [e]))⟩
theorem of_alloc (w : World) (o : Obj) (row : Option Nat) : w.grownBy (w.alloc o) row := of_below ((Below.refl _ _).alloc (Nat.le_refl _) o)
/-- Two to the n, times. -/
theorem shl_step (a : Int) (n : Nat) : (a * 2 % 4294967296 * 2 ^ n) % 4294967296 = (a * 2 ^ (n + 1)) % 4294967296 := by
  rw [Int.mul_emod, Int.emod_emod_of_dvd _ (Int.dvd_refl _), ← Int.mul_emod, Int.pow_succ, Int.mul_comm (2 ^ n) 2, Int.mul_assoc]
theorem shr_step2 (a : Int) (n : Nat) : a / 2 / 2 ^ n = a / 2 ^ (n + 1) := by
  rw [Int.ediv_ediv_of_nonneg (by decide), Int.pow_succ, Int.mul_comm (2 ^ n) 2]
/-- The document's shift. -/
theorem shifted_l (a : Int) (n : Nat) (w : World) (a0 : 0 ≤ a) (a1 : a < 4294967296) (hn : n < 32) : Calls Tryd.prog 55 #[.int .u32 a, .bool true, .int .u32 n] w fun e w' => e = .returned (.int .u32 ((a * 2 ^ n) % 4294967296)) ∧ w = w' := by
  go_enter Tryd.func55, Tryd.ntmps55
  go_wp2_with fail
  go_loop [0, 2] (fun v b => ∃ m : Nat, m ≤ n ∧ b = .int .u32 m ∧ ∃ x : Int, v = .int .u32 x ∧ 0 ≤ x ∧ x < 4294967296 ∧ Hid ((x * 2 ^ m) % 4294967296 = (a * 2 ^ n) % 4294967296)) (fun _ b => (intOf b).toNat)
  case atStart => exact ⟨n, Nat.le_refl _, rfl, a, rfl, a0, a1, rfl⟩
  case round =>
    obtain ⟨m, hm, rfl, x, rfl, x0, x1, hx⟩ := hrel
    by_cases hlt : 0 < m
    · obtain ⟨m, rfl⟩ : ∃ k, m = k + 1 := ⟨m - 1, by omega⟩
      have hs := Lib.hid ((shl_step x m).trans hx.out)
      have hk := mod32 (x * 2)
      have hl : (0 : Int) < ((m + 1 : Nat) : Int) := by omega
      have hc : ((m + 1 : Nat) : Int) < 32 := by omega
      clear hx
      go_wp2_with fail
      go_round
      case rel => exact ⟨m, by omega, by first | go_num | (congr 1; omega), _, rfl, hk.1, hk.2, hs.out⟩
      case measure => simp [intOf] <;> omega
    · obtain rfl : m = 0 := by omega
      go_wp2_with fail
      go_ret
      refine ⟨?_, rfl⟩
      have := hx.out
      have e0 : x * 2 ^ 0 % 4294967296 = x := by
        rw [Int.pow_zero, Int.mul_one]
        first | done | exact Int.emod_eq_of_lt x0 x1
      exact congrArg (fun v => Ending.returned (.int .u32 v)) (e0.symm.trans this)
theorem shifted_r (a : Int) (n : Nat) (w : World) (a0 : 0 ≤ a) (a1 : a < 4294967296) (hn : n < 32) : Calls Tryd.prog 55 #[.int .u32 a, .bool false, .int .u32 n] w fun e w' => e = .returned (.int .u32 (a / 2 ^ n)) ∧ w = w' := by
  go_enter Tryd.func55, Tryd.ntmps55
  go_wp2_with fail
  go_loop [0, 2] (fun v b => ∃ m : Nat, m ≤ n ∧ b = .int .u32 m ∧ ∃ x : Int, v = .int .u32 x ∧ 0 ≤ x ∧ x < 4294967296 ∧ Hid (x / 2 ^ m = a / 2 ^ n)) (fun _ b => (intOf b).toNat)
  case atStart => exact ⟨n, Nat.le_refl _, rfl, a, rfl, a0, a1, rfl⟩
  case round =>
    obtain ⟨m, hm, rfl, x, rfl, x0, x1, hx⟩ := hrel
    by_cases hlt : 0 < m
    · obtain ⟨m, rfl⟩ : ∃ k, m = k + 1 := ⟨m - 1, by omega⟩
      have hs := Lib.hid ((shr_step2 x m).trans hx.out)
      have hl : (0 : Int) < ((m + 1 : Nat) : Int) := by omega
      have hc : ((m + 1 : Nat) : Int) < 32 := by omega
      clear hx
      go_wp2_with fail
      go_round
      case rel => exact ⟨m, by omega, by first | go_num | (congr 1; omega), _, rfl, by omega, by omega, hs.out⟩
      case measure => simp [intOf] <;> omega
    · obtain rfl : m = 0 := by omega
      go_wp2_with fail
      go_ret
      refine ⟨?_, rfl⟩
      have := hx.out
      rw [Int.pow_zero, Int.ediv_one] at this
      exact congrArg (fun v => Ending.returned (.int .u32 v)) this
end Go.Proofs.YtinfbmfmmbibbaaDoor
