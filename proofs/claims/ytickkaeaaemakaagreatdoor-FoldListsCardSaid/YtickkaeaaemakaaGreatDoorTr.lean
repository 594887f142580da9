/- A list of calls that came in. No condition. -/
import Derived.Test.YtickkaeaaemakaaGreatDoorTj
import Derived.Deep.Slices
import Derived.Deep.Fields
import Derived.ChangeSame
import Derived.Lib.SmallJoins
namespace Go.Proofs.YtickkaeaaemakaaGreatDoor
open Go.ChangeShapes Go.WideShapes Go.ChangeAt Go.RowKit
set_option linter.unusedVariables false
set_option linter.unusedSimpArgs false

section
variable {H : Type} {enc : TypeId × Value → H} {P : Program} {w : World} {base : Nat} {spare : Nat → Bool} {held : Bool}
open Go.Deep in
/-- A slice of structs of one-cell fields, opened field by field. -/
theorem open_fields16 {t e : TypeId} {fs : Array Field} {fuel : Nat} {cs : List Value} {x : DataW H × List MemPlace} (ht : P.underlying t = some (.slice e)) (he : P.underlying e = some (.struct fs))
    (hone : oneCellFields P fs = true) (hC : P.cellsOf e = fs.size) (h : DataW.trod enc P w base spare held fuel t cs = some x) :
    (cs = [.slice none 0 0] ∧ x = (.nil, [])) ∨
    ∃ (a : Addr) (len cap m : Nat), cs = [.slice (some a) len cap] ∧ len ≤ cap ∧ cap ≤ maxLen ∧ m = (if spare a.block then cap else len) ∧
      ∀ i, i < m → ∀ (j : Nat) (f : Field), fs[j]? = some f → ∃ (v : Value) (y : DataW H × List MemPlace) (n : Nat), w.cell? (a.add (i * fs.size + j)) = some v ∧ DataW.trod enc P w base spare held n f.type [v] = some y := by
  rcases open_slice ht h with h0 | ⟨a, len, cap, m, n, D, Pl, hcs, hb, hl, hm, hmm, hx, hi⟩
  · exact .inl h0
  · refine .inr ⟨a, len, cap, m, hcs, hl, hm, hmm, fun i him j f hj => ?_⟩
    obtain ⟨cs', hc, ht'⟩ := hi i him
    rw [hC] at hc
    obtain ⟨ys, n', hn', hy, hlen, hyl, hf⟩ := DataW.trod_struct he ht'
    obtain ⟨_, hcl, hat⟩ := World.cells?_some hc
    obtain ⟨ho, hk⟩ := hone_of hone j f hj
    have hjl : j < fs.size := (Array.getElem?_eq_some_iff.1 hj).1
    have hcell := hat j hjl
    have hv : cs'[j]? = some (cs'[j]'(by omega)) := List.getElem?_eq_getElem (by omega)
    have h1 := hf j f hj
    rw [ho, hk] at h1
    have hone' : (cs'.drop j).take 1 = [cs'[j]'(by omega)] := by
      rw [List.drop_eq_getElem_cons (by omega)]
      rfl
    rw [hone'] at h1
    have hys : ys[j]? = some (ys[j]'(by omega)) := List.getElem?_eq_getElem (by omega)
    refine ⟨_, _, n', ?_, h1.trans hys⟩
    rw [← Go.Deep.add_add, hcell, hv]
end
/-- What is known of a slice of calls that came in. -/
structure IsCalls (w : World) (a : Option Addr) (len cap : Nat) (z : List Cl) : Prop where
  size : z.length = len
  rng : ∀ y ∈ z, y.1.size ≤ maxLen ∧ y.2 < 4294967296
  fits : len ≤ cap
  most : cap ≤ maxLen
  rd : LsAt w a z
theorem calls_open {H : Type} {enc : TypeId × Value → H} {W : World} {a : Option Addr} {len cap : Nat} {d : DataW H} {p : List MemPlace}
    (h : DataW.Trod enc Tryz.prog W 0 (fun _ => true) true 22 (.slice a len cap) d p) (lt : ∀ x ∈ p, x.block < W.heap.size) : ∃ z, IsCalls W a len cap z := by
  obtain ⟨fuel, hf⟩ := h
  rcases open_fields16 Tryz.underlying22 Tryz.underlying51 (by kernel_rfl) (by kernel_rfl) hf with ⟨hcs, _⟩ | ⟨x, l, c, m, hcs, hl, hm, hmm, hx⟩
  · simp [Value.cells] at hcs
    obtain ⟨rfl, rfl, rfl⟩ := hcs
    exact ⟨[], rfl, (fun y hy => by cases hy), Nat.le_refl _, by unfold maxLen; omega, (fun k c hk => by simp at hk)⟩
  · simp [Value.cells] at hcs
    obtain ⟨rfl, rfl, rfl⟩ := hcs
    simp only [if_true] at hmm
    subst hmm
    have each : ∀ i, i < len → ∃ z : Cl, (z.1.size ≤ maxLen ∧ z.2 < 4294967296) ∧ W.cell? (x.add (i * 2)) = some (.string z.1) ∧ W.cell? (x.add (i * 2 + 1)) = some (.int .u32 (z.2 : Nat)) := by
      intro i hi
      obtain ⟨v0, y0, n0, c0, t0⟩ := hx i (by omega) 0 _ rfl
      obtain ⟨v1, y1, n1, c1, t1⟩ := hx i (by omega) 1 _ rfl
      obtain ⟨z0, e0, _, w0⟩ := DataW.trod_string Tryz.underlying9 t0
      obtain ⟨z1, e1, _, w1⟩ := DataW.trod_int Tryz.underlying38 t1
      simp at e0 e1
      subst e0 e1
      have hb : 0 ≤ z1 ∧ z1 ≤ 4294967295 := bounds_u32 w1
      refine ⟨(z0, z1.toNat), ⟨w0, by show z1.toNat < 4294967296; omega⟩, c0, ?_⟩
      show _ = some (Value.int .u32 ((z1.toNat : Nat) : Int))
      rw [Int.toNat_of_nonneg hb.1]
      exact c1
    obtain ⟨Z, hZ⟩ := Go.Deep.choose_lt each
    refine ⟨(List.range len).map Z, by simp, fun z hz => ?_, hl, hm, fun k c hk => ?_⟩
    · obtain ⟨i, hi, rfl⟩ := List.mem_map.1 hz
      exact (hZ i (List.mem_range.1 hi)).1
    · have hkl : k < len := by have := (List.getElem?_eq_some_iff.1 hk).1; simpa using this
      rw [List.getElem?_map, List.getElem?_range hkl] at hk
      obtain rfl : Z k = c := Option.some.inj hk
      obtain ⟨b, o, s⟩ := x
      have hc := (hZ 0 (by omega)).2.1
      have hs : s = none := by simpa [Addr.add] using World.cell?_spot hc
      subst hs
      obtain ⟨_, c0, c1⟩ := hZ k hkl
      rw [Addr.add_lit] at c0 c1
      rw [← Nat.add_assoc] at c1
      exact ⟨b, o, rfl, c0, c1⟩
set_option maxRecDepth 100000 in
theorem list_open {H : Type} {enc : TypeId × Value → H} {W : World} {r : Reach} {b0 : Nat} {v : Value} {x : DataW H} {p : List MemPlace} (hv : Value.okWide Tryz.prog W r b0 24 v)
    (h : DataW.Trod enc Tryz.prog W 0 (fun _ => true) true 24 v x p) (lt : ∀ y ∈ p, y.block < W.heap.size) : ∃ (m : Nat) (a : Option Addr) (len cap : Nat) (z : List Cl), m < 256 ∧ IsCalls W a len cap z ∧ v = lsV m a len cap := by
  obtain ⟨cs, rfl, hsz⟩ := okWide_struct Tryz.underlying24 hv
  have hsz' : cs.size = 2 := hsz.trans (by kernel_rfl)
  obtain ⟨l⟩ := cs
  obtain ⟨fuel, hf⟩ := h
  obtain ⟨ys, n, rfl, hy, hlen, hyl, hel⟩ := DataW.trod_struct Tryz.underlying24 hf
  match l, hsz', ys, hyl with
  | [v0, v1], _, [y0, y1], _ =>
    have f0 : DataW.trod enc Tryz.prog W 0 (fun _ => true) true n 5 [v0] = some y0 := by have := hel 0 _ rfl; exact this
    have f1 : DataW.trod enc Tryz.prog W 0 (fun _ => true) true n 22 [v1] = some y1 := by have := hel 1 _ rfl; exact this
    obtain ⟨z0, e0, _, w0⟩ := DataW.trod_int Tryz.underlying5 f0
    simp at e0
    subst e0
    have hb : 0 ≤ z0 ∧ z0 ≤ 255 := bounds_u8 w0
    have hp : ∀ y ∈ y1.2, y.block < W.heap.size := fun y hy2 => lt y (by
      have := congrArg Prod.snd hy
      simp only at this
      rw [this]
      simp [hy2])
    have shape : ∃ a len cap, v1 = .slice a len cap := by
      rcases DataW.trod_slice Tryz.underlying22 f1 with ⟨e, _⟩ | ⟨a, len, cap, _, _, _, _, e, _⟩
      · simp at e; exact ⟨none, 0, 0, e⟩
      · simp at e; exact ⟨some a, len, cap, e⟩
    obtain ⟨a, len, cap, rfl⟩ := shape
    obtain ⟨z, hz⟩ := calls_open (enc := enc) (W := W) (a := a) (len := len) (cap := cap) (d := y1.1) (p := y1.2) ⟨n, by simpa [Value.cells] using f1⟩ hp
    refine ⟨z0.toNat, a, len, cap, z, by omega, hz, ?_⟩
    unfold lsV
    rw [Int.toNat_of_nonneg hb.1]
end Go.Proofs.YtickkaeaaemakaaGreatDoor
