/- How an argument of a statement is opened: instructions that came in. No condition. -/
import Derived.Test.YtlneiiljdghmjaaDoorWd
import Derived.Test.YtlneiiljdghmjaaDoorIb
import Derived.Deep.Slices
import Derived.Deep.Fields
import Derived.ChangeSame
import Derived.Lib.SmallJoins
namespace Go.Proofs.YtlneiiljdghmjaaDoor
open Go.ChangeShapes Go.WideShapes Go.ChangeAt Go.RowKit
set_option linter.unusedVariables false

/-- What is known of a slice of instructions that came in. -/
structure IsInsns (w : World) (a : Option Addr) (len cap : Nat) (z : List Ins) : Prop where
  size : z.length = len
  ok : OkL z
  fits : len ≤ cap
  most : cap ≤ maxLen
  rd : RdI w w.heap.size a z
  nil : a = none → cap = 0
section
variable {H : Type} {enc : TypeId × Value → H} {P : Program} {w : World} {base : Nat} {spare : Nat → Bool} {held : Bool}
open Go.Deep in
set_option maxRecDepth 100000 in
/-- A slice of structs of one-cell fields, opened field by field. -/
theorem open_fields {t e : TypeId} {fs : Array Field} {fuel : Nat} {cs : List Value} {x : DataW H × List MemPlace} (ht : P.underlying t = some (.slice e)) (he : P.underlying e = some (.struct fs))
    (hone : oneCellFields P fs = true) (hC : P.cellsOf e = fs.size) (h : DataW.trod enc P w base spare held fuel t cs = some x) :
    (cs = [.slice none 0 0] ∧ x = (.nil, [])) ∨
    ∃ (a : Addr) (len cap m : Nat), cs = [.slice (some a) len cap] ∧ len ≤ cap ∧ cap ≤ maxLen ∧ m = (if spare a.block then cap else len) ∧
      ∀ i, i < m → ∀ (j : Nat) (f : Field), fs[j]? = some f → ∃ (v : Value) (y : DataW H × List MemPlace) (n : Nat), w.cell? (a.add (i * fs.size + j)) = some v ∧ DataW.trod enc P w base spare held n f.type [v] = some y := by
  rcases open_slice ht h with h0 | ⟨a, len, cap, m, n, D, Pl, hcs, hb, hl, hm, hmm, hx, hi⟩
  · exact .inl h0
  · refine .inr ⟨a, len, cap, m, hcs, hl, hm, hmm, fun i him j f hj => ?_⟩
    obtain ⟨cs', hc, ht'⟩ := hi i him
    rw [hC] at hc
    obtain ⟨ys, n', hn', hy, hlen, hyl, hf⟩ := DataW.trod_struct he ht'
    obtain ⟨_, hcl, hat⟩ := World.cells?_some hc
    obtain ⟨ho, hk⟩ := hone_of hone j f hj
    have hjl : j < fs.size := (Array.getElem?_eq_some_iff.1 hj).1
    have hcell := hat j hjl
    have hv : cs'[j]? = some (cs'[j]'(by omega)) := List.getElem?_eq_getElem (by omega)
    have h1 := hf j f hj
    rw [ho, hk] at h1
    have hone' : (cs'.drop j).take 1 = [cs'[j]'(by omega)] := by
      rw [List.drop_eq_getElem_cons (by omega)]
      rfl
    rw [hone'] at h1
    have hys : ys[j]? = some (ys[j]'(by omega)) := List.getElem?_eq_getElem (by omega)
    refine ⟨_, _, n', ?_, h1.trans hys⟩
    rw [← Go.Deep.add_add, hcell, hv]
end
set_option maxRecDepth 100000 in
theorem insns_open {H : Type} {enc : TypeId × Value → H} {W : World} {a : Option Addr} {len cap : Nat} {d : DataW H} {p : List MemPlace}
    (h : DataW.Trod enc Tryd.prog W 0 (fun _ => true) true 22 (.slice a len cap) d p) (lt : ∀ x ∈ p, x.block < W.heap.size) : ∃ z, IsInsns W a len cap z := by
  obtain ⟨fuel, hf⟩ := h
  rcases open_fields Tryd.underlying22 Tryd.underlying33 (by kernel_rfl) (by kernel_rfl) hf with ⟨hcs, _⟩ | ⟨x, l, c, m, hcs, hl, hm, hmm, hx⟩
  · simp [Value.cells] at hcs
    obtain ⟨rfl, rfl, rfl⟩ := hcs
    exact ⟨[], rfl, OkL.nil, Nat.le_refl _, by unfold maxLen; omega, RdI.nil _ _ _, fun _ => rfl⟩
  · simp [Value.cells] at hcs
    obtain ⟨rfl, rfl, rfl⟩ := hcs
    simp only [if_true] at hmm
    subst hmm
    have each : ∀ i, i < len → ∃ z : Ins, z.Ok ∧ W.cell? (x.add (i * 4)) = some (.int .u16 z.c) ∧ W.cell? (x.add (i * 4 + 1)) = some (.int .u8 z.jt) ∧ W.cell? (x.add (i * 4 + 2)) = some (.int .u8 z.jf) ∧ W.cell? (x.add (i * 4 + 3)) = some (.int .u32 z.k) := by
      intro i hi
      obtain ⟨v0, y0, n0, c0, t0⟩ := hx i (by omega) 0 _ rfl
      obtain ⟨v1, y1, n1, c1, t1⟩ := hx i (by omega) 1 _ rfl
      obtain ⟨v2, y2, n2, c2, t2⟩ := hx i (by omega) 2 _ rfl
      obtain ⟨v3, y3, n3, c3, t3⟩ := hx i (by omega) 3 _ rfl
      obtain ⟨z0, e0, _, w0⟩ := DataW.trod_int Tryd.underlying30 t0
      obtain ⟨z1, e1, _, w1⟩ := DataW.trod_int Tryd.underlying5 t1
      obtain ⟨z2, e2, _, w2⟩ := DataW.trod_int Tryd.underlying5 t2
      obtain ⟨z3, e3, _, w3⟩ := DataW.trod_int Tryd.underlying31 t3
      simp at e0 e1 e2 e3
      subst e0 e1 e2 e3
      have b0 := bounds_u16 w0
      have b1 := bounds_u8 w1
      have b2 := bounds_u8 w2
      have b3 := bounds_u32 w3
      exact ⟨⟨z0, z1, z2, z3⟩, ⟨by show 0 ≤ z0; omega, by show z0 < _; omega, by show 0 ≤ z1; omega, by show z1 < _; omega, by show 0 ≤ z2; omega, by show z2 < _; omega, by show 0 ≤ z3; omega, by show z3 < _; omega⟩, c0, c1, c2, c3⟩
    obtain ⟨Z, hZ⟩ := Go.Deep.choose_lt each
    have hget : ∀ i (h : i < ((List.range len).map Z).length), ((List.range len).map Z)[i] = Z i := fun i h => by simp
    refine ⟨(List.range len).map Z, by simp, fun z hz => ?_, hl, hm, fun hn => ?_, fun h => by cases h⟩
    · obtain ⟨i, hi, rfl⟩ := List.mem_map.1 hz
      exact (hZ i (List.mem_range.1 hi)).1
    · have hn : 0 < len := by simpa using hn
      obtain ⟨b, o, s⟩ := x
      have hc := (hZ 0 hn).2.1
      have hs : s = none := by simpa [Addr.add] using World.cell?_spot hc
      subst hs
      refine ⟨b, o, rfl, World.block_lt_of_cell? W _ hc, fun i hi => ?_⟩
      rw [hget i hi]
      obtain ⟨_, c0, c1, c2, c3⟩ := hZ i (by simpa using hi)
      rw [Addr.add_lit] at c0 c1 c2 c3
      rw [← Nat.add_assoc] at c1 c2 c3
      exact ⟨c0, c1, c2, c3⟩
set_option maxRecDepth 100000 in
theorem insn_open {H : Type} {enc : TypeId × Value → H} {W : World} {r : Reach} {b0 : Nat} {v : Value} {d : DataW H} {p : List MemPlace} (hv : Value.okWide Tryd.prog W r b0 33 v)
    (h : DataW.Trod enc Tryd.prog W 0 (fun _ => true) true 33 v d p) : ∃ i : Ins, i.Ok ∧ v = .agg #[.int .u16 i.c, .int .u8 i.jt, .int .u8 i.jf, .int .u32 i.k] := by
  obtain ⟨v0, v1, v2, v3, y0, y1, y2, y3, n, rfl, _, _, t0, t1, t2, t3⟩ := Go.Joins.open_agg4 Tryd.underlying33 (by kernel_rfl) (by kernel_rfl) hv h
  obtain ⟨z0, e0, _, w0⟩ := DataW.trod_int Tryd.underlying30 t0
  obtain ⟨z1, e1, _, w1⟩ := DataW.trod_int Tryd.underlying5 t1
  obtain ⟨z2, e2, _, w2⟩ := DataW.trod_int Tryd.underlying5 t2
  obtain ⟨z3, e3, _, w3⟩ := DataW.trod_int Tryd.underlying31 t3
  simp at e0 e1 e2 e3
  subst e0 e1 e2 e3
  have b0 := bounds_u16 w0
  have b1 := bounds_u8 w1
  have b2 := bounds_u8 w2
  have b3 := bounds_u32 w3
  exact ⟨⟨z0, z1, z2, z3⟩, ⟨by show 0 ≤ z0; omega, by show z0 < _; omega, by show 0 ≤ z1; omega, by show z1 < _; omega, by show 0 ≤ z2; omega, by show z2 < _; omega, by show 0 ≤ z3; omega, by show z3 < _; omega⟩, rfl⟩
end Go.Proofs.YtlneiiljdghmjaaDoor
