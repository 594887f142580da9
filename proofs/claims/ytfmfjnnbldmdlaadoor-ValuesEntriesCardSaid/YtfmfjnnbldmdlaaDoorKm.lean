/- How an argument of a statement is opened: an entry that came in. No condition. -/
import Derived.Test.YtfmfjnnbldmdlaaDoorFr
import Derived.Test.YtfmfjnnbldmdlaaDoorKc
import Derived.Deep.Slices
import Derived.Deep.Fields
import Derived.Lib.SmallJoins
namespace Go.Proofs.YtfmfjnnbldmdlaaDoor
open Go.RowKit Go.WideShapes Go.DataRel
set_option linter.unusedVariables false

set_option maxRecDepth 100000 in
theorem entry_open {H : Type} {enc : TypeId × Value → H} {W : World} {r : Reach} {b0 : Nat} {v : Value} {d : DataW H} {p : List MemPlace} (hv : Value.okWide Tryd.prog W r b0 35 v)
    (h : DataW.Trod enc Tryd.prog W 0 (fun _ => true) true 35 v d p) : ∃ e : Ent, (e.nm.size ≤ maxLen ∧ e.act < 4294967296) ∧ v = entV e := by
  obtain ⟨v0, v1, v2, y0, y1, y2, n, rfl, _, _, t0, t1, t2⟩ := Go.Joins.open_agg3 Tryd.underlying35 (by kernel_rfl) (by kernel_rfl) hv h
  obtain ⟨z0, e0, _, w0⟩ := DataW.trod_string Tryd.underlying9 t0
  obtain ⟨z1, e1, _, w1⟩ := DataW.trod_int Tryd.underlying33 t1
  obtain ⟨z2, e2, _⟩ := DataW.trod_bool Tryd.underlying4 t2
  simp at e0 e1 e2
  subst e0 e1 e2
  have b1 := bounds_u32 w1
  refine ⟨⟨z0, z1.toNat, z2⟩, ⟨w0, by show z1.toNat < _; omega⟩, ?_⟩
  show _ = Value.agg #[.string z0, .int .u32 ((z1.toNat : Nat) : Int), .bool z2]
  rw [Int.toNat_of_nonneg b1.1]
end Go.Proofs.YtfmfjnnbldmdlaaDoor
