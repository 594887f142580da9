/- A slice of files that came in. No condition. -/
import Derived.Test.YtgigdhincpcdbaaGreatDoorPa
import Derived.Test.YtgigdhincpcdbaaGreatDoorWd
import Derived.ChangeArms
import Derived.Deep.Slices
import Derived.Deep.Fields
import Derived.ChangeSame
import Derived.Lib.SmallJoins
namespace Go.Proofs.YtgigdhincpcdbaaGreatDoor
open Go.ChangeShapes Go.WideShapes Go.ChangeAt Go.RowKit
set_option linter.unusedVariables false
set_option linter.unusedSimpArgs false

section
variable {H : Type} {enc : TypeId × Value → H} {P : Program} {w : World} {base : Nat} {spare : Nat → Bool} {held : Bool}
open Go.Deep in
/-- A slice of structs of one-cell fields, opened field by field. -/
theorem open_fields {t e : TypeId} {fs : Array Field} {fuel : Nat} {cs : List Value} {x : DataW H × List MemPlace} (ht : P.underlying t = some (.slice e)) (he : P.underlying e = some (.struct fs))
    (hone : oneCellFields P fs = true) (hC : P.cellsOf e = fs.size) (h : DataW.trod enc P w base spare held fuel t cs = some x) :
    (cs = [.slice none 0 0] ∧ x = (.nil, [])) ∨
    ∃ (a : Addr) (len cap m : Nat), cs = [.slice (some a) len cap] ∧ len ≤ cap ∧ cap ≤ maxLen ∧ m = (if spare a.block then cap else len) ∧
      ∀ i, i < m → ∀ (j : Nat) (f : Field), fs[j]? = some f → ∃ (v : Value) (y : DataW H × List MemPlace) (n : Nat), w.cell? (a.add (i * fs.size + j)) = some v ∧ DataW.trod enc P w base spare held n f.type [v] = some y := by
  rcases open_slice ht h with h0 | ⟨a, len, cap, m, n, D, Pl, hcs, hb, hl, hm, hmm, hx, hi⟩
  · exact .inl h0
  · refine .inr ⟨a, len, cap, m, hcs, hl, hm, hmm, fun i him j f hj => ?_⟩
    obtain ⟨cs', hc, ht'⟩ := hi i him
    rw [hC] at hc
    obtain ⟨ys, n', hn', hy, hlen, hyl, hf⟩ := DataW.trod_struct he ht'
    obtain ⟨_, hcl, hat⟩ := World.cells?_some hc
    obtain ⟨ho, hk⟩ := hone_of hone j f hj
    have hjl : j < fs.size := (Array.getElem?_eq_some_iff.1 hj).1
    have hcell := hat j hjl
    have hv : cs'[j]? = some (cs'[j]'(by omega)) := List.getElem?_eq_getElem (by omega)
    have h1 := hf j f hj
    rw [ho, hk] at h1
    have hone' : (cs'.drop j).take 1 = [cs'[j]'(by omega)] := by
      rw [List.drop_eq_getElem_cons (by omega)]
      rfl
    rw [hone'] at h1
    have hys : ys[j]? = some (ys[j]'(by omega)) := List.getElem?_eq_getElem (by omega)
    refine ⟨_, _, n', ?_, h1.trans hys⟩
    rw [← Go.Deep.add_add, hcell, hv]
end
theorem fle_of {w : World} {f : ByteArray} {d : Int} {a : Option Addr} {len cap : Nat} {z : List Int} (hf : f.size ≤ maxLen) (h : IsBytes w a len cap z) : ∃ l : List UInt8, FleAt w.heap.size w ⟨f, d, a, len, cap, l⟩ := by
  obtain ⟨l, rfl⟩ := byt_list h.byt
  obtain ⟨h1, h2⟩ := rdb_of h
  exact ⟨l, hf, h1, h.fits, h.most, h.nil, h2⟩
theorem files_open {H : Type} {enc : TypeId × Value → H} {W : World} {a : Option Addr} {len cap : Nat} {d : DataW H} {p : List MemPlace}
    (h : DataW.Trod enc Tryz.prog W 0 (fun _ => true) true 25 (.slice a len cap) d p) (lt : ∀ x ∈ p, x.block < W.heap.size) : ∃ D, FsAt W a len cap D := by
  obtain ⟨fuel, hf⟩ := h
  rcases open_fields Tryz.underlying25 Tryz.underlying24 (by kernel_rfl) (by kernel_rfl) hf with ⟨hcs, _⟩ | ⟨x, l, c, m, hcs, hl, hm, hmm, hx⟩
  · simp [Value.cells] at hcs
    obtain ⟨rfl, rfl, rfl⟩ := hcs
    exact ⟨[], rfl, Nat.le_refl _, by unfold maxLen; omega, fun _ => rfl, RowsAt.nil _, fun f hf => by cases hf⟩
  · simp [Value.cells] at hcs
    obtain ⟨rfl, rfl, rfl⟩ := hcs
    simp only [if_true] at hmm
    subst hmm
    have each : ∀ i, i < len → ∃ z : Fle, FleAt W.heap.size W z ∧ W.cell? (x.add (i * 3)) = some (.string z.name) ∧ W.cell? (x.add (i * 3 + 1)) = some (.int .i64 z.dir) ∧ W.cell? (x.add (i * 3 + 2)) = some (.slice z.ptr z.len z.cap) := by
      intro i hi
      obtain ⟨v0, y0, n0, c0, t0⟩ := hx i (by omega) 0 _ rfl
      obtain ⟨v1, y1, n1, c1, t1⟩ := hx i (by omega) 1 _ rfl
      obtain ⟨v2, y2, n2, c2, t2⟩ := hx i (by omega) 2 _ rfl
      obtain ⟨z0, e0, _, w0⟩ := DataW.trod_string Tryz.underlying9 t0
      obtain ⟨z1, e1, _, w1⟩ := DataW.trod_int Tryz.underlying3 t1
      have shape : ∃ b len cap, v2 = .slice b len cap := by
        rcases DataW.trod_slice Tryz.underlying22 t2 with ⟨e, _⟩ | ⟨b, len, cap, _, _, _, _, e, _⟩
        · simp at e; exact ⟨none, 0, 0, e⟩
        · simp at e; exact ⟨some b, len, cap, e⟩
      obtain ⟨b, bl, bc, rfl⟩ := shape
      obtain ⟨z, hz⟩ := bytes_open (enc := enc) (W := W) (a := b) (len := bl) (cap := bc) (d := y2.1) (p := y2.2) ⟨n2, by simpa [Value.cells] using t2⟩ (DataW.trod_lt n2 _ _ _ t2)
      simp at e0 e1
      subst e0 e1
      obtain ⟨l, hl⟩ := fle_of (d := z1) w0 hz
      exact ⟨_, hl, c0, c1, c2⟩
    obtain ⟨Z, hZ⟩ := Go.Deep.choose_lt each
    have hget : ∀ (i : Nat) (q : Fle), ((List.range len).map Z)[i]? = some q → i < len ∧ q = Z i := fun i q hq => by
      rw [List.getElem?_map] at hq
      by_cases hi : i < len
      · rw [List.getElem?_range hi] at hq
        exact ⟨hi, (Option.some.inj hq).symm⟩
      · rw [List.getElem?_eq_none (by simpa using hi)] at hq; cases hq
    refine ⟨(List.range len).map Z, by simp, hl, hm, fun h => (by cases h), ?_, fun z hz => ?_⟩
    · obtain ⟨b, o, s⟩ := x
      refine ⟨some ⟨b, o, s⟩, _, by simp; rfl, fun k q hk => ?_⟩
      obtain ⟨hkl, rfl⟩ := hget k q hk
      obtain ⟨_, c0, c1, c2⟩ := hZ k hkl
      have hs : s = none := by simpa [Addr.add] using World.cell?_spot (hZ 0 (by omega)).2.1
      subst hs
      refine ⟨b, o, rfl, fun j u hu => ?_⟩
      rw [Addr.add_lit] at c0 c1 c2
      match j, hu with
      | 0, hu => rw [← Option.some.inj (show some (Value.string (Z k).name) = some u from hu)]; exact c0
      | 1, hu => rw [← Option.some.inj (show some (Value.int .i64 (Z k).dir) = some u from hu), Nat.add_assoc]; exact c1
      | 2, hu => rw [← Option.some.inj (show some (Value.slice (Z k).ptr (Z k).len (Z k).cap) = some u from hu), Nat.add_assoc]; exact c2
      | j + 3, hu => simp [encF] at hu
    · obtain ⟨i, hi, rfl⟩ := List.mem_map.1 hz
      exact (hZ i (List.mem_range.1 hi)).1
end Go.Proofs.YtgigdhincpcdbaaGreatDoor
