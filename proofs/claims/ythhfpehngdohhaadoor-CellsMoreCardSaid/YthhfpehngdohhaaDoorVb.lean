/- The document's machine in memory: A, X, what is told, the cells, whether it is over; what becomes of it by a store; how the document shifts. Condition: numbers below 2 to the 32nd. -/
import Derived.Test.YthhfpehngdohhaaDoorVa
import Derived.Test.YthhfpehngdohhaaDoorDc
import Derived.Test.YthhfpehngdohhaaDoorIh
import Derived.OwnWalk
import Derived.Maps.AppendAt
namespace Go.Proofs.YthhfpehngdohhaaDoor
open Go.RowKit
set_option linter.unusedVariables false
attribute [local go_sem ↓] Go.wp_at_zero Go.wp_at_succ

/-- The machine's twenty cells. -/
def machC (a x t : Int) (c : Nat → Int) (ov : Bool) : List Value := .int .u32 a :: .int .u32 x :: .int .u32 t :: ((List.range 16).map (fun j => Value.int .u32 (c j)) ++ [.bool ov])
theorem mach_get {a x t : Int} {c : Nat → Int} {ov : Bool} {k : Nat} (hk : k < 16) : (machC a x t c ov)[3 + k]? = some (.int .u32 (c k)) := by
  match k, hk with
  | 0, _ => rfl
  | 1, _ => rfl
  | 2, _ => rfl
  | 3, _ => rfl
  | 4, _ => rfl
  | 5, _ => rfl
  | 6, _ => rfl
  | 7, _ => rfl
  | 8, _ => rfl
  | 9, _ => rfl
  | 10, _ => rfl
  | 11, _ => rfl
  | 12, _ => rfl
  | 13, _ => rfl
  | 14, _ => rfl
  | 15, _ => rfl
  | k + 16, hk => omega
theorem mach_put {a x t : Int} {c : Nat → Int} {ov : Bool} {k : Nat} (v : Int) (hk : k < 16) : (machC a x t c ov).set (3 + k) (.int .u32 v) = machC a x t (fun j => if j = k then v else c j) ov := by
  match k, hk with
  | 0, _ => rfl
  | 1, _ => rfl
  | 2, _ => rfl
  | 3, _ => rfl
  | 4, _ => rfl
  | 5, _ => rfl
  | 6, _ => rfl
  | 7, _ => rfl
  | 8, _ => rfl
  | 9, _ => rfl
  | 10, _ => rfl
  | 11, _ => rfl
  | 12, _ => rfl
  | 13, _ => rfl
  | 14, _ => rfl
  | 15, _ => rfl
  | k + 16, hk => omega
theorem of_below {w w' : World} {row : Option Nat} (h : Below w.heap.size w w') : w.grownBy w' row := ⟨h.os, h.tape, h.output, h.size, fun k hk _ => h.block k hk⟩
theorem of_set (w : World) (M i : Nat) (v : Value) : w.grownBy (w.setCell ⟨M, i, none⟩ v) (some M) := ⟨rfl, rfl, rfl, by simp [World.setCell], fun k _ hne => heap_setCell_other w _ k v (fun e => hne (by rw [e]))⟩
theorem of_alloc (w : World) (o : Obj) (row : Option Nat) : w.grownBy (w.alloc o) row := of_below ((Below.refl _ _).alloc (Nat.le_refl _) o)
/-- Two to the n, times. -/
theorem shl_step (a : Int) (n : Nat) : (a * 2 % 4294967296 * 2 ^ n) % 4294967296 = (a * 2 ^ (n + 1)) % 4294967296 := by
  rw [Int.mul_emod, Int.emod_emod_of_dvd _ (Int.dvd_refl _), ← Int.mul_emod, Int.pow_succ, Int.mul_comm (2 ^ n) 2, Int.mul_assoc]
theorem shr_step2 (a : Int) (n : Nat) : a / 2 / 2 ^ n = a / 2 ^ (n + 1) := by
  rw [Int.ediv_ediv_of_nonneg (by decide), Int.pow_succ, Int.mul_comm (2 ^ n) 2]
end Go.Proofs.YthhfpehngdohhaaDoor
