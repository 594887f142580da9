/- A package variable that a condition lists as a plain datum (numbers, strings, truth values, in structs and arrays): its cells are those of the datum, written out. No condition. -/
import Derived.Test.YtbjhleajhkofeaaDoorProg
import Derived.ProofKit
import Derived.OpenShut
import Derived.FnData
import Derived.Below
namespace Go.Proofs.YtbjhleajhkofeaaDoor
open Go.RowKit
set_option linter.unusedVariables false

/-- The cells of parts, one behind the other. -/
def flatS (f : TypeId → DataW Unit → Option (List Value)) (co : TypeId → Nat) : Nat → List (Nat × TypeId) → List (DataW Unit) → Option (List Value)
  | _, [], [] => some []
  | o, (off, t) :: r, d :: ds => if off = o then (f t d).bind fun l => if l.length = co t then (flatS f co (o + co t) r ds).map (l ++ ·) else none else none
  | _, _, _ => none
/-- The cells of a plain datum. -/
def flatD (P : Program) : Nat → TypeId → DataW Unit → Option (List Value)
  | 0, _, _ => none
  | n + 1, t, d =>
    match P.underlying t with
    | some (.int k) => (match d with | .lit (.int k' v) => if k' = k then some [.int k v] else none | _ => none)
    | some .string => (match d with | .lit (.string l) => some [.string ⟨l.toArray⟩] | _ => none)
    | some .bool => (match d with | .lit (.bool b) => some [.bool b] | _ => none)
    | some (.struct fs) => (match d with | .agg ds => (flatS (flatD P n) P.cellsOf 0 (fs.toList.map fun f => (f.offset, f.type)) ds).bind fun l => if l.length = P.cellsOf t then some l else none | _ => none)
    | some (.array k e) => (match d with | .agg ds => (flatS (flatD P n) P.cellsOf 0 ((List.range k).map fun i => (i * P.cellsOf e, e)) ds).bind fun l => if l.length = P.cellsOf t then some l else none | _ => none)
    | _ => none
theorem flatS_cells {f : TypeId → DataW Unit → Option (List Value)} {co : TypeId → Nat} {cs : List Value} : ∀ (ps : List (Nat × TypeId)) (ds : List (DataW Unit)) (o : Nat) (l : List Value), flatS f co o ps ds = some l →
    (∀ (i : Nat) (p : Nat × TypeId) (d : DataW Unit) (l' : List Value), ps[i]? = some p → ds[i]? = some d → f p.2 d = some l' → (cs.drop p.1).take (co p.2) = l') → (cs.drop o).take l.length = l
  | [], [], o, l, h, _ => by
    simp only [flatS, Option.some.injEq] at h
    subst h; simp
  | (off, t) :: r, d :: ds, o, l, h, hp => by
    unfold flatS at h
    by_cases ho : off = o
    · rw [if_pos ho] at h
      obtain ⟨l1, h1, h⟩ := Option.bind_eq_some_iff.1 h
      by_cases hl : l1.length = co t
      · rw [if_pos hl] at h
        obtain ⟨l2, h2, rfl⟩ := Option.map_eq_some_iff.1 h
        have e1 := hp 0 (off, t) d l1 rfl rfl h1
        have e2 := flatS_cells r ds (o + co t) l2 h2 (fun i p d' l' a b c => hp (i + 1) p d' l' a b c)
        simp only at e1
        rw [ho] at e1
        rw [List.length_append, hl, List.take_add, e1, List.drop_drop, e2]
      · rw [if_neg hl] at h; cases h
    · rw [if_neg ho] at h; cases h
  | [], _ :: _, _, _, h, _ => by cases h
  | _ :: _, [], _, _, h, _ => by cases h
theorem flat_cells {P : Program} {enc : TypeId × Value → Unit} {w : World} {base : Nat} {sp : Nat → Bool} {held : Bool} : ∀ (m : Nat) (t : TypeId) (d : DataW Unit) (l : List Value), flatD P m t d = some l →
    ∀ (fuel : Nat) (cs : List Value) (q : List MemPlace), DataW.trod enc P w base sp held fuel t cs = some (d, q) → cs = l
  | 0, _, _, _, h, _, _, _, _ => by cases h
  | m + 1, t, d, l, h, fuel, cs, q, ht => by
    unfold flatD at h
    cases hu : P.underlying t with
    | none => rw [hu] at h; cases h
    | some u =>
      rw [hu] at h
      cases u <;> simp only at h <;> try (cases h; done)
      case bool =>
        obtain ⟨b, rfl, e⟩ := DataW.trod_bool hu ht
        injection e with e1 e2
        subst e1
        simpa using h
      case int k =>
        obtain ⟨b, rfl, e, _⟩ := DataW.trod_int hu ht
        injection e with e1 e2
        subst e1
        simpa using h
      case string =>
        obtain ⟨b, rfl, e, _⟩ := DataW.trod_string hu ht
        injection e with e1 e2
        subst e1
        simpa using h
      case struct fs =>
        obtain ⟨xs, n, rfl, e, hlen, hn, hf⟩ := DataW.trod_struct hu ht
        injection e with e1 e2
        subst e1
        simp only at h
        obtain ⟨l', h1, h2⟩ := Option.bind_eq_some_iff.1 h
        by_cases hl : l'.length = P.cellsOf t
        · rw [if_pos hl] at h2
          injection h2 with h2
          subst h2
          have := flatS_cells (cs := cs) _ _ 0 l' h1 (fun i p d' l'' a b c => by
            rw [List.getElem?_map] at a b
            obtain ⟨f, hfi, rfl⟩ := Option.map_eq_some_iff.1 a
            obtain ⟨x, hx, rfl⟩ := Option.map_eq_some_iff.1 b
            have g := hf i f (by rw [← Array.getElem?_toList]; exact hfi)
            rw [hx] at g
            exact flat_cells m f.type x.1 l'' c n _ x.2 g)
          rw [List.drop_zero, hl, ← hlen, List.take_length] at this
          exact this
        · rw [if_neg hl] at h2; cases h2
      case array k e =>
        obtain ⟨xs, n, rfl, e1, hlen, hn, hf⟩ := DataW.trod_array hu ht
        injection e1 with e1 e2
        subst e1
        simp only at h
        obtain ⟨l', h1, h2⟩ := Option.bind_eq_some_iff.1 h
        by_cases hl : l'.length = P.cellsOf t
        · rw [if_pos hl] at h2
          injection h2 with h2
          subst h2
          have := flatS_cells (cs := cs) _ _ 0 l' h1 (fun i p d' l'' a b c => by
            rw [List.getElem?_map] at a b
            obtain ⟨j, hj, rfl⟩ := Option.map_eq_some_iff.1 a
            obtain ⟨x, hx, rfl⟩ := Option.map_eq_some_iff.1 b
            have hi : i < k := by
              have := (List.getElem?_eq_some_iff.1 hj).1
              simpa using this
            have hji : j = i := by
              rw [List.getElem?_range hi] at hj
              injection hj with hj; exact hj.symm
            subst hji
            have g := hf j hi
            rw [hx] at g
            exact flat_cells m e x.1 l'' c n _ x.2 g)
          rw [List.drop_zero, hl, ← hlen, List.take_length] at this
          exact this
        · rw [if_neg hl] at h2; cases h2
/-- The cells of a variable, as a list. -/
def LaidAt (w : World) (g : Nat) (l : List Value) : Prop := ∀ (j : Nat) (u : Value), l[j]? = some u → w.cell? ⟨g, j, none⟩ = some u
theorem LaidAt.on {w w' : World} {g : Nat} {l : List Value} (h : LaidAt w g l) (hn : l ≠ []) (b : Below w.heap.size w w') : LaidAt w' g l := by
  have hlt : g < w.heap.size := by
    cases l with
    | nil => exact absurd rfl hn
    | cons u r => exact World.block_lt_of_cell? w _ (h 0 u rfl)
  exact fun j u hu => (b.cell (p := ⟨g, j, none⟩) hlt).trans (h j u hu)
theorem laidAt_of {P : Program} {W : World} {nm : String} {g g0 : Nat} {t t0 : TypeId} {cs0 : Array Value} {f0 : Nat} {p0 : List MemPlace} {d : DataW Unit} {l : List Value} (hg : P.globalNamed nm = some g) (ht : (P.globals[g]?).map (·.type) = some t)
    (hg0 : P.globalNamed nm = some g0) (ht0 : (P.globals[g0]?).map (·.type) = some t0) (hv0 : W.var? P nm = some cs0)
    {enc : TypeId × Value → Unit} {base : Nat} {sp : Nat → Bool} {held : Bool} (hd0 : DataW.trod enc P W base sp held f0 t0 cs0.toList = some (d, p0)) (m : Nat) (hf : flatD P m t d = some l) : LaidAt W g l := by
  obtain rfl := Option.some.inj (hg.symm.trans hg0)
  obtain rfl := Option.some.inj (ht.symm.trans ht0)
  have e := flat_cells m t d l hf f0 cs0.toList p0 hd0
  intro j u hu
  rw [World.var?_cell hg hv0 j, ← Array.getElem?_toList, e, hu]
end Go.Proofs.YtbjhleajhkofeaaDoor
