/- What the document's own May returns: whether a list may be. Condition: a list of at most a million calls that can be read. -/
import Derived.Deep.RegionHeld3
import Derived.Test.YtanifiobfbfehaaGreatDoorTj
namespace Go.Proofs.YtanifiobfbfehaaGreatDoor
open Go
set_option linter.unusedVariables false

theorem take_op2 {P : Program} {ops : Array Oper} {Q : Exit → Act → World → Prop} {md : Region.Mode} {S : World → Prop} {i : Nat} {dst : Option Tmp} {op : Op} {ty : _} {pos : _} {after : _} {guard : _} {v : Value} {fuel : Nat} {listed : Array Bool} {a : Act} {w : World} (hi : ops[i]? = some ⟨dst, op, ty, pos, after, guard⟩)
    (hs : Region.noSelect ops = true) (hf : Region.free md ops listed i = true) (hr : (Region.ready md ops listed).contains i = true)
    (hQ : ∀ c a w, Q (.panic c) (a.put dst v) w → Q (.panic c) a w) (hy : YieldsIf P ops S ⟨dst, op, ty, pos, after, guard⟩ v a) (hS : S w)
    (h : ∀ a', a' = a.put dst v → wpAnyH P md ops Q S fuel (listed.setIfInBounds i true) a' w) : wpAnyH P md ops Q S (fuel + 1) listed a w := wpAnyH_take hi hs hf hr hQ hy hS (h _ rfl)
theorem wanted_plain {o : Oper} {y : Nat → Option Bool} (h : o.guard = none) : Region.wanted o y = true := by simp [Region.wanted, h]
end Go.Proofs.YtanifiobfbfehaaGreatDoor
namespace Go.Proofs.YtanifiobfbfehaaGreatDoor
open Go.RowKit
set_option linter.unusedVariables false
set_option linter.unusedSimpArgs false
attribute [local go_sem ↓] Go.wp_at_zero Go.wp_at_succ

theorem geq16 (t : TypeId) (a b : ByteArray) : binOp .geq t (.string a) (.string b) = pure (.bool !(Go.Op.bytesLess a.toList b.toList)) := by simp [binOp, Op.stringOp]
attribute [local go_sem] geq16
theorem thn16 {u v w : World} (h : Below u.heap.size u v) (k : Below v.heap.size v w) : Below u.heap.size u w := h.trans (k.mono h.size)
theorem okAt_k {K : ByteArray → Bool} {L : List Cl} {k : Nat} {c : Cl} (h : L[k]? = some c) (hk : K c.1 = false) : okAt K L k = false := by rw [okAt_is h, hk]; rfl
theorem okAt_p {K : ByteArray → Bool} {L : List Cl} {j : Nat} {c d : Cl} (h : L[j + 1]? = some c) (hd : L[j]? = some d) (hl : lt16 d.1 c.1 = false) : okAt K L (j + 1) = false := by rw [okAt_is h, Nat.add_sub_cancel, hd]; simp [hl]
theorem okAt_0 {K : ByteArray → Bool} {L : List Cl} {c : Cl} (h : L[0]? = some c) (hk : K c.1 = true) : okAt K L 0 = actOk c.2 := by rw [okAt_is h, hk]; simp
theorem okAt_s {K : ByteArray → Bool} {L : List Cl} {j : Nat} {c d : Cl} (h : L[j + 1]? = some c) (hd : L[j]? = some d) (hk : K c.1 = true) (hl : lt16 d.1 c.1 = true) : okAt K L (j + 1) = actOk c.2 := by rw [okAt_is h, Nat.add_sub_cancel, hd, hk]; simp [hl]
theorem ok_next {K : ByteArray → Bool} {L : List Cl} {k : Nat} (h : ∀ j, j < k → okAt K L j = true) (hk : okAt K L k = true) : ∀ j, j < k + 1 → okAt K L j = true := fun j hj => by
  rcases Nat.lt_or_ge j k with h1 | h1
  · exact h j h1
  · rw [show j = k by omega]; exact hk
end Go.Proofs.YtanifiobfbfehaaGreatDoor
