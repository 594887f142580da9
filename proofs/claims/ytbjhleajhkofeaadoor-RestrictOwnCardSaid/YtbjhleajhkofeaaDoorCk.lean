/- A drawn region, operation by operation: an operation that is taken first, its destination and its kind laid out. No program. -/
import Derived.Deep.RegionHeld3
namespace Go.Proofs.YtbjhleajhkofeaaDoor
open Go
set_option linter.unusedVariables false

theorem take_op2 {P : Program} {ops : Array Oper} {Q : Exit → Act → World → Prop} {md : Region.Mode} {S : World → Prop} {i : Nat} {dst : Option Tmp} {op : Op} {ty : _} {pos : _} {after : _} {guard : _} {v : Value} {fuel : Nat} {listed : Array Bool} {a : Act} {w : World} (hi : ops[i]? = some ⟨dst, op, ty, pos, after, guard⟩)
    (hs : Region.noSelect ops = true) (hf : Region.free md ops listed i = true) (hr : (Region.ready md ops listed).contains i = true)
    (hQ : ∀ c a w, Q (.panic c) (a.put dst v) w → Q (.panic c) a w) (hy : YieldsIf P ops S ⟨dst, op, ty, pos, after, guard⟩ v a) (hS : S w)
    (h : ∀ a', a' = a.put dst v → wpAnyH P md ops Q S fuel (listed.setIfInBounds i true) a' w) : wpAnyH P md ops Q S (fuel + 1) listed a w := wpAnyH_take hi hs hf hr hQ hy hS (h _ rfl)
theorem wanted_plain {o : Oper} {y : Nat → Option Bool} (h : o.guard = none) : Region.wanted o y = true := by simp [Region.wanted, h]
end Go.Proofs.YtbjhleajhkofeaaDoor
