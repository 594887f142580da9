/- Rows of structs as slices hold them; notes; calls; which lists may be. Notes that are the same. No condition. -/
import Derived.Test.YtbjhleajhkofeaaDoorTg
import Derived.Test.YtbjhleajhkofeaaDoorCa
import Derived.Deep.AppendLies
import Derived.Deep.QuietTactic
import Derived.BigQuiet
import Derived.WalkSmall
namespace Go.Proofs.YtbjhleajhkofeaaDoor
open Go.RowKit
set_option linter.unusedVariables false
set_option linter.unusedSimpArgs false
attribute [local go_sem ↓] Go.wp_at_zero Go.wp_at_succ

section
variable {α : Type} {sz : Nat} {enc : α → List Value}
def rowC (enc : α → List Value) (O : List α) : List Value := O.flatMap enc
theorem rowC_app (a b : List α) : rowC enc (a ++ b) = rowC enc a ++ rowC enc b := List.flatMap_append
theorem rowC_one1 (x : α) : rowC enc [x] = enc x := by unfold rowC; simp
theorem rowC_length (hz : ∀ x, (enc x).length = sz) (O : List α) : (rowC enc O).length = O.length * sz := by
  induction O with
  | nil => simp [rowC]
  | cons x r ih =>
    rw [show x :: r = [x] ++ r from rfl, rowC_app, rowC_one1, List.length_append, hz, ih, List.length_append, List.length_singleton, Nat.add_mul, Nat.one_mul]
theorem rowC_oneCell (h1 : ∀ x, ∀ u ∈ enc x, u.oneCell' = true) (O : List α) : ∀ u ∈ rowC enc O, u.oneCell' = true := fun u hu => by
  obtain ⟨x, _, hx⟩ := List.mem_flatMap.1 hu
  exact h1 x u hx
theorem rowC_get (hz : ∀ x, (enc x).length = sz) : ∀ {O : List α} {k : Nat} {p : α}, O[k]? = some p → ∀ j u, (enc p)[j]? = some u → (rowC enc O)[k * sz + j]? = some u
  | [], k, p, h, _, _, _ => by simp at h
  | x :: r, 0, p, h, j, u, hu => by
    have e : x = p := Option.some.inj h
    subst e
    have hj := (List.getElem?_eq_some_iff.1 hu).1
    rw [show x :: r = [x] ++ r from rfl, rowC_app, rowC_one1, Nat.zero_mul, Nat.zero_add, List.getElem?_append_left hj]
    exact hu
  | x :: r, k + 1, p, h, j, u, hu => by
    have ih := rowC_get hz (O := r) (k := k) (p := p) (by simpa using h) j u hu
    rw [show x :: r = [x] ++ r from rfl, rowC_app, rowC_one1, List.getElem?_append_right (by rw [hz, Nat.succ_mul]; omega), hz, show (k + 1) * sz + j - sz = k * sz + j by rw [Nat.succ_mul]; omega]
    exact ih
/-- A slice of structs holds these rows. -/
def RowsAt (sz : Nat) (enc : α → List Value) (w : World) (v : Value) (O : List α) : Prop := ∃ q c, v = .slice q O.length c ∧ ∀ k p, O[k]? = some p → ∃ g o, q = some ⟨g, o, none⟩ ∧ ∀ j u, (enc p)[j]? = some u → w.cell? ⟨g, o + k * sz + j, none⟩ = some u
theorem RowsAt.on {w w' : World} {v : Value} {O : List α} (h : RowsAt sz enc w v O) (hb : Below w.heap.size w w') : RowsAt sz enc w' v O := by
  obtain ⟨q, c, rfl, hr⟩ := h
  refine ⟨q, c, rfl, fun k p hk => ?_⟩
  obtain ⟨g, o, rfl, hc⟩ := hr k p hk
  exact ⟨g, o, rfl, fun j u hu => (hb.cell (World.block_lt_of_cell? w _ (hc j u hu))).trans (hc j u hu)⟩
theorem RowsAt.nil (w : World) : RowsAt sz enc w (.slice none 0 0) [] := ⟨none, 0, rfl, fun k p h => by simp at h⟩
theorem rows_own (hz : ∀ x, (enc x).length = sz) {w : World} {B : Nat} {v : Value} {O : List α} {t : TypeId} (h : w.ownsRow B t sz v O.length (rowC enc O)) : RowsAt sz enc w v O := by
  rcases h.2 with ⟨rfl, e⟩ | ⟨g, cap, cur, rfl, hg, hh, hcap, hm, hs, ht⟩
  · have : O = [] := List.eq_nil_of_length_eq_zero e
    subst this
    exact RowsAt.nil w
  · refine ⟨_, _, rfl, fun k p hk => ⟨g, 0, rfl, fun j u hu => ?_⟩⟩
    have h1 := rowC_get hz hk j u hu
    rw [← ht, List.getElem?_take] at h1
    split at h1
    · rw [Nat.zero_add, cell_of_row _ _ _ _ _ (0, 0) hh, ← Array.getElem?_toList]
      exact h1
    · cases h1
end
/-- A note. -/
structure Nte where
  file : ByteArray
  line : Int
  err : Int
  text : ByteArray
def encN (a : Nte) : List Value := [.string a.file, .int .i64 a.line, .int .i64 a.err, .string a.text]
theorem encN_len (a : Nte) : (encN a).length = 4 := rfl
theorem encN_one (a : Nte) : ∀ u ∈ encN a, u.oneCell' = true := fun u hu => by
  unfold encN at hu
  simp only [List.mem_cons, List.mem_nil_iff, or_false] at hu
  rcases hu with rfl | rfl | rfl | rfl <;> rfl
/-- A call, in cells. -/
def encC (c : Cl) : List Value := [.string c.1, .int .u32 (c.2 : Nat)]
theorem encC_len (c : Cl) : (encC c).length = 2 := rfl
theorem encC_one (c : Cl) : ∀ u ∈ encC c, u.oneCell' = true := fun u hu => by
  unfold encC at hu
  simp only [List.mem_cons, List.mem_nil_iff, or_false] at hu
  rcases hu with rfl | rfl <;> rfl
theorem cl_info : (Tryd.prog.info? 82).map (fun i => (i.zero, i.size, i.bytes)) = some (some (.agg #[.string ⟨#[]⟩, .int .u32 0]), 2, 24) := by kernel_rfl
theorem LsAt.of_rows {w : World} {q : Option Addr} {n c : Nat} {L : List Cl} (h : RowsAt 2 encC w (.slice q n c) L) : LsAt w q L := fun k x hk => by
  obtain ⟨q', c', e, hr⟩ := h
  injection e with e1 e2 e3
  subst e1
  obtain ⟨g, o, rfl, hc⟩ := hr k x hk
  exact ⟨g, o, rfl, hc 0 _ rfl, hc 1 _ rfl⟩
theorem LsAt.of_own {w : World} {B n c : Nat} {t : TypeId} {q : Option Addr} {L : List Cl} (h : w.ownsRow B t 2 (.slice q n c) n (rowC encC L)) (hn : n = L.length) : LsAt w q L := by
  subst hn
  exact LsAt.of_rows (rows_own encC_len h)
/-! ### which lists may be -/
end Go.Proofs.YtbjhleajhkofeaaDoor
