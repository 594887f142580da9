/- What the document's own Of, Known, WithX and Code of a code and of a name return. No condition. -/
import Derived.Test.YtekmbhjdacaphaaIf
namespace Go.Proofs.Ytekmbhjdacaphaa
open Go.RowKit
set_option linter.unusedVariables false

theorem onesC_get : ∀ {l : List One} {i : Nat} (h : i < l.length) (j : Nat) (hj : j < 3), (onesC l)[i * 3 + j]? = (oneC l[i])[j]?
  | a :: r, 0, _, j, hj => by
    show (oneC a ++ onesC r)[0 * 3 + j]? = _
    rw [Nat.zero_mul, Nat.zero_add, List.getElem?_append_left (by show j < 3; exact hj)]; rfl
  | a :: r, i + 1, h, j, hj => by
    show (oneC a ++ onesC r)[(i + 1) * 3 + j]? = _
    have e : (i + 1) * 3 + j = (oneC a).length + (i * 3 + j) := by show _ = 3 + _; omega
    rw [e, List.getElem?_append_right (by omega), Nat.add_sub_cancel_left]
    exact onesC_get (l := r) (i := i) (by simpa using h) j hj
/-- The three cells of an entry. -/
structure OneAt (w : World) (b o : Nat) (x : One) : Prop where
  a0 : w.cell? ⟨b, o, none⟩ = some (.int .u16 x.code)
  a1 : w.cell? ⟨b, o + 1, none⟩ = some (.string x.name)
  a2 : w.cell? ⟨b, o + 2, none⟩ = some (.int .u8 x.cls)
theorem one_at {w : World} {B g n c : Nat} {e : TypeId} {l : List One} (h : w.ownsRow B e 3 (.slice (some ⟨g, 0, none⟩) n c) n (onesC l)) {i : Nat} (hi : i < l.length) : OneAt w g (i * 3) l[i] := by
  have hl : l.length = n := by have := h.1; rw [onesC_length] at this; omega
  exact ⟨by rw [h.cellAt (i * 3) (by omega)]; exact onesC_get hi 0 (by omega), by rw [h.cellAt (i * 3 + 1) (by omega)]; exact onesC_get hi 1 (by omega), by rw [h.cellAt (i * 3 + 2) (by omega)]; exact onesC_get hi 2 (by omega)⟩
def noOne : One := ⟨0, ⟨#[]⟩, 0⟩
/-- The entry of a code; one without a name, if there is none. -/
def ofL : List One → Int → One
  | [], _ => noOne
  | o :: r, c => if o.code = c then o else ofL r c
theorem ofL_skip : ∀ {l : List One} {k : Nat} {c : Int}, (∀ o ∈ l.take k, o.code ≠ c) → ofL l c = ofL (l.drop k) c
  | l, 0, c, _ => by simp
  | [], k + 1, c, _ => by simp
  | o :: r, k + 1, c, h => by
    have h1 : o.code ≠ c := h o (by simp)
    show (if o.code = c then o else ofL r c) = _
    rw [if_neg h1]
    exact ofL_skip (l := r) (k := k) (fun x hx => h x (by simp [hx]))
theorem ofL_hit {l : List One} {k : Nat} {c : Int} (h : ∀ o ∈ l.take k, o.code ≠ c) (hk : k < l.length) (e : l[k].code = c) : ofL l c = l[k] := by
  rw [ofL_skip h, List.drop_eq_getElem_cons hk]
  show (if l[k].code = c then _ else _) = _
  rw [if_pos e]
theorem ofL_miss {l : List One} {c : Int} (h : ∀ o ∈ l, o.code ≠ c) : ofL l c = noOne := by
  rw [ofL_skip (k := l.length) (by simpa using h)]; simp [ofL]
theorem miss_step {l : List One} {k : Nat} {c : Int} (h : ∀ o ∈ l.take k, o.code ≠ c) (hk : k < l.length) (e : l[k].code ≠ c) : ∀ o ∈ l.take (k + 1), o.code ≠ c := by
  intro o ho
  rw [List.take_add_one, List.getElem?_eq_getElem hk] at ho
  rcases List.mem_append.1 ho with ho | ho
  · exact h o ho
  · simp at ho; subst ho; exact e
theorem allL_length : allL.length = 41 := by
  unfold allL
  rw [List.length_append, List.length_append, List.length_append, numP_length, jmpP_length]; rfl
theorem set3 {w : World} {b : Nat} {u0 u1 u2 v0 v1 v2 : Value} (q0 : w.cell? ⟨b, 0, none⟩ = some u0) (q1 : w.cell? ⟨b, 1, none⟩ = some u1) (q2 : w.cell? ⟨b, 2, none⟩ = some u2) :
    (((w.setCell ⟨b, 0, none⟩ v0).setCell ⟨b, 1, none⟩ v1).setCell ⟨b, 2, none⟩ v2).cell? ⟨b, 0, none⟩ = some v0 ∧
    (((w.setCell ⟨b, 0, none⟩ v0).setCell ⟨b, 1, none⟩ v1).setCell ⟨b, 2, none⟩ v2).cell? ⟨b, 1, none⟩ = some v1 ∧
    (((w.setCell ⟨b, 0, none⟩ v0).setCell ⟨b, 1, none⟩ v1).setCell ⟨b, 2, none⟩ v2).cell? ⟨b, 2, none⟩ = some v2 := by
  have n01 : (⟨b, 0, none⟩ : Addr) ≠ ⟨b, 1, none⟩ := by simp
  have n02 : (⟨b, 0, none⟩ : Addr) ≠ ⟨b, 2, none⟩ := by simp
  have n12 : (⟨b, 1, none⟩ : Addr) ≠ ⟨b, 2, none⟩ := by simp
  have s1 : (w.setCell ⟨b, 0, none⟩ v0).cell? ⟨b, 1, none⟩ = some u1 := (World.cell?_setCell_other w _ _ v0 n01).trans q1
  have s2 : ((w.setCell ⟨b, 0, none⟩ v0).setCell ⟨b, 1, none⟩ v1).cell? ⟨b, 2, none⟩ = some u2 := (World.cell?_setCell_other _ _ _ v1 n12).trans ((World.cell?_setCell_other w _ _ v0 n02).trans q2)
  refine ⟨?_, ?_, ?_⟩
  · rw [World.cell?_setCell_other _ _ _ v2 n02.symm, World.cell?_setCell_other _ _ _ v1 n01.symm]
    exact World.cell?_setCell_same w _ v0 q0
  · rw [World.cell?_setCell_other _ _ _ v2 n12.symm]
    exact World.cell?_setCell_same _ _ v1 s1
  · exact World.cell?_setCell_same _ _ v2 s2
end Go.Proofs.Ytekmbhjdacaphaa
