/- Rows of structs as slices hold them; notes; calls; which lists may be. Notes that are the same. No condition. -/
import Derived.Test.YtanifiobfbfehaaGreatDoorTg
import Derived.Test.YtanifiobfbfehaaGreatDoorCa
import Derived.Deep.AppendLies
import Derived.Deep.QuietTactic
import Derived.BigQuiet
import Derived.WalkSmall
namespace Go.Proofs.YtanifiobfbfehaaGreatDoor
open Go.RowKit
set_option linter.unusedVariables false
set_option linter.unusedSimpArgs false
attribute [local go_sem ↓] Go.wp_at_zero Go.wp_at_succ

section
variable {α : Type} {sz : Nat} {enc : α → List Value}
def rowC (enc : α → List Value) (O : List α) : List Value := O.flatMap enc
theorem rowC_app (a b : List α) : rowC enc (a ++ b) = rowC enc a ++ rowC enc b := List.flatMap_append
theorem rowC_one1 (x : α) : rowC enc [x] = enc x := by unfold rowC; simp
theorem rowC_length (hz : ∀ x, (enc x).length = sz) (O : List α) : (rowC enc O).length = O.length * sz := by
  induction O with
  | nil => simp [rowC]
  | cons x r ih =>
    rw [show x :: r = [x] ++ r from rfl, rowC_app, rowC_one1, List.length_append, hz, ih, List.length_append, List.length_singleton, Nat.add_mul, Nat.one_mul]
theorem rowC_oneCell (h1 : ∀ x, ∀ u ∈ enc x, u.oneCell' = true) (O : List α) : ∀ u ∈ rowC enc O, u.oneCell' = true := fun u hu => by
  obtain ⟨x, _, hx⟩ := List.mem_flatMap.1 hu
  exact h1 x u hx
theorem rowC_get (hz : ∀ x, (enc x).length = sz) : ∀ {O : List α} {k : Nat} {p : α}, O[k]? = some p → ∀ j u, (enc p)[j]? = some u → (rowC enc O)[k * sz + j]? = some u
  | [], k, p, h, _, _, _ => by simp at h
  | x :: r, 0, p, h, j, u, hu => by
    have e : x = p := Option.some.inj h
    subst e
    have hj := (List.getElem?_eq_some_iff.1 hu).1
    rw [show x :: r = [x] ++ r from rfl, rowC_app, rowC_one1, Nat.zero_mul, Nat.zero_add, List.getElem?_append_left hj]
    exact hu
  | x :: r, k + 1, p, h, j, u, hu => by
    have ih := rowC_get hz (O := r) (k := k) (p := p) (by simpa using h) j u hu
    rw [show x :: r = [x] ++ r from rfl, rowC_app, rowC_one1, List.getElem?_append_right (by rw [hz, Nat.succ_mul]; omega), hz, show (k + 1) * sz + j - sz = k * sz + j by rw [Nat.succ_mul]; omega]
    exact ih
/-- A slice of structs holds these rows. -/
def RowsAt (sz : Nat) (enc : α → List Value) (w : World) (v : Value) (O : List α) : Prop := ∃ q c, v = .slice q O.length c ∧ ∀ k p, O[k]? = some p → ∃ g o, q = some ⟨g, o, none⟩ ∧ ∀ j u, (enc p)[j]? = some u → w.cell? ⟨g, o + k * sz + j, none⟩ = some u
theorem RowsAt.on {w w' : World} {v : Value} {O : List α} (h : RowsAt sz enc w v O) (hb : Below w.heap.size w w') : RowsAt sz enc w' v O := by
  obtain ⟨q, c, rfl, hr⟩ := h
  refine ⟨q, c, rfl, fun k p hk => ?_⟩
  obtain ⟨g, o, rfl, hc⟩ := hr k p hk
  exact ⟨g, o, rfl, fun j u hu => (hb.cell (World.block_lt_of_cell? w _ (hc j u hu))).trans (hc j u hu)⟩
theorem RowsAt.nil (w : World) : RowsAt sz enc w (.slice none 0 0) [] := ⟨none, 0, rfl, fun k p h => by simp at h⟩
theorem rows_own (hz : ∀ x, (enc x).length = sz) {w : World} {B : Nat} {v : Value} {O : List α} {t : TypeId} (h : w.ownsRow B t sz v O.length (rowC enc O)) : RowsAt sz enc w v O := by
  rcases h.2 with ⟨rfl, e⟩ | ⟨g, cap, cur, rfl, hg, hh, hcap, hm, hs, ht⟩
  · have : O = [] := List.eq_nil_of_length_eq_zero e
    subst this
    exact RowsAt.nil w
  · refine ⟨_, _, rfl, fun k p hk => ⟨g, 0, rfl, fun j u hu => ?_⟩⟩
    have h1 := rowC_get hz hk j u hu
    rw [← ht, List.getElem?_take] at h1
    split at h1
    · rw [Nat.zero_add, cell_of_row _ _ _ _ _ (0, 0) hh, ← Array.getElem?_toList]
      exact h1
    · cases h1
theorem news_row (w : World) (cs : List Value) (t : TypeId) : ∀ j u, cs[j]? = some u → (w.alloc (.cells cs.toArray t)).cell? ((⟨w.heap.size, 0, none⟩ : Addr).add j) = some u := fun j u hu => by
  rw [Addr.add_lit, Nat.zero_add, cell_of_row _ _ _ _ _ (0, 0) (heap_alloc_new w _), List.getElem?_toArray]
  exact hu
end
/-- A note. -/
structure Nte where
  file : ByteArray
  line : Int
  err : Int
  text : ByteArray
def encN (a : Nte) : List Value := [.string a.file, .int .i64 a.line, .int .i64 a.err, .string a.text]
theorem encN_len (a : Nte) : (encN a).length = 4 := rfl
theorem encN_one (a : Nte) : ∀ u ∈ encN a, u.oneCell' = true := fun u hu => by
  unfold encN at hu
  simp only [List.mem_cons, List.mem_nil_iff, or_false] at hu
  rcases hu with rfl | rfl | rfl | rfl <;> rfl
theorem nte_info : (Tryz.prog.info? 51).map (fun i => (i.zero, i.size, i.bytes)) = some (some (.agg #[.string ⟨#[]⟩, .int .i64 0, .int .i64 0, .string ⟨#[]⟩]), 4, 48) := by kernel_rfl
/-- A call, in cells. -/
def encC (c : Cl) : List Value := [.string c.1, .int .u32 (c.2 : Nat)]
theorem encC_len (c : Cl) : (encC c).length = 2 := rfl
theorem encC_one (c : Cl) : ∀ u ∈ encC c, u.oneCell' = true := fun u hu => by
  unfold encC at hu
  simp only [List.mem_cons, List.mem_nil_iff, or_false] at hu
  rcases hu with rfl | rfl <;> rfl
theorem cl_info : (Tryz.prog.info? 71).map (fun i => (i.zero, i.size, i.bytes)) = some (some (.agg #[.string ⟨#[]⟩, .int .u32 0]), 2, 24) := by kernel_rfl
theorem LsAt.of_rows {w : World} {q : Option Addr} {n c : Nat} {L : List Cl} (h : RowsAt 2 encC w (.slice q n c) L) : LsAt w q L := fun k x hk => by
  obtain ⟨q', c', e, hr⟩ := h
  injection e with e1 e2 e3
  subst e1
  obtain ⟨g, o, rfl, hc⟩ := hr k x hk
  exact ⟨g, o, rfl, hc 0 _ rfl, hc 1 _ rfl⟩
theorem LsAt.of_own {w : World} {B n c : Nat} {t : TypeId} {q : Option Addr} {L : List Cl} (h : w.ownsRow B t 2 (.slice q n c) n (rowC encC L)) (hn : n = L.length) : LsAt w q L := by
  subst hn
  exact LsAt.of_rows (rows_own encC_len h)
/-! ### which lists may be -/
def okAt (K : ByteArray → Bool) (L : List Cl) (k : Nat) : Bool := match L[k]? with
  | none => true
  | some c => K c.1 && (decide (k = 0) || (match L[k - 1]? with | some d => lt16 d.1 c.1 | none => true)) && actOk c.2
def mayR (K : ByteArray → Bool) (m : Nat) (L : List Cl) : Bool := decide (m ≤ 2) && (decide (m ≠ 0) || L.isEmpty) && (List.range L.length).all (okAt K L)
theorem okAt_is {K : ByteArray → Bool} {L : List Cl} {k : Nat} {c : Cl} (h : L[k]? = some c) : okAt K L k = (K c.1 && (decide (k = 0) || (match L[k - 1]? with | some d => lt16 d.1 c.1 | none => true)) && actOk c.2) := by unfold okAt; rw [h]
theorem may_head {K : ByteArray → Bool} {m : Nat} {L : List Cl} (h : ¬ m ≤ 2 ∨ (m = 0 ∧ L ≠ [])) : mayR K m L = false := by
  unfold mayR
  rcases h with h | ⟨rfl, h⟩
  · rw [decide_eq_false h]; rfl
  · have : L.isEmpty = false := by cases L with | nil => exact absurd rfl h | cons _ _ => rfl
    rw [this]; simp
theorem may_good {K : ByteArray → Bool} {m : Nat} {L : List Cl} (h : m ≤ 2) (h0 : m = 0 → L = []) (ha : ∀ k, k < L.length → okAt K L k = true) : mayR K m L = true := by
  unfold mayR
  rw [decide_eq_true h, List.all_eq_true.2 (fun k hk => ha k (List.mem_range.1 hk)), Bool.and_true, Bool.true_and]
  by_cases e : m = 0
  · rw [h0 e]; simp
  · simp [e]
theorem asc_of {L : List Cl} (h : ∀ k a b, L[k]? = some a → L[k + 1]? = some b → lt16 a.1 b.1 = true) : Asc16 L := by
  unfold Asc16
  induction L with
  | nil => exact List.Pairwise.nil
  | cons x r ih =>
    have ih := ih fun k a b ha hb => h (k + 1) a b (by simpa using ha) (by simpa using hb)
    refine List.pairwise_cons.2 ⟨?_, ih⟩
    cases r with
    | nil => intro b hb; cases hb
    | cons y r =>
      have hxy := h 0 x y rfl rfl
      intro b hb
      rcases List.mem_cons.1 hb with rfl | hb
      · exact hxy
      · exact lt16_trans hxy ((List.pairwise_cons.1 ih).1 b hb)
theorem asc_at {L : List Cl} (h : Asc16 L) {k : Nat} {a b : Cl} (ha : L[k]? = some a) (hb : L[k + 1]? = some b) : lt16 a.1 b.1 = true := by
  obtain ⟨h1, rfl⟩ := List.getElem?_eq_some_iff.1 ha
  obtain ⟨h2, rfl⟩ := List.getElem?_eq_some_iff.1 hb
  exact List.pairwise_iff_getElem.1 h k (k + 1) h1 h2 (Nat.lt_succ_self k)
theorem may_iff {K : ByteArray → Bool} {m : Nat} {L : List Cl} : mayR K m L = true ↔ Okl K m L := by
  constructor
  · intro h
    unfold mayR at h
    rw [Bool.and_eq_true, Bool.and_eq_true, decide_eq_true_eq, List.all_eq_true] at h
    obtain ⟨⟨h1, h2⟩, h3⟩ := h
    have hat : ∀ k c, L[k]? = some c → okAt K L k = true := fun k c hc => h3 k (List.mem_range.2 (List.getElem?_eq_some_iff.1 hc).1)
    refine ⟨h1, fun e => ?_, asc_of fun k a b ha hb => ?_, fun c hc => ?_⟩
    · subst e
      cases L with
      | nil => rfl
      | cons _ _ => simp at h2
    · have := hat (k + 1) b hb
      rw [okAt_is hb, Nat.add_sub_cancel, ha] at this
      simp at this
      exact this.1.2
    · obtain ⟨k, hk⟩ := List.getElem?_of_mem hc
      have := hat k c hk
      rw [okAt_is hk, Bool.and_eq_true, Bool.and_eq_true] at this
      exact ⟨this.1.1, this.2⟩
  · intro h
    refine may_good h.mode h.none fun k hk => ?_
    have hc : L[k]? = some (L[k]'hk) := List.getElem?_eq_getElem hk
    obtain ⟨h1, h2⟩ := h.each _ (List.getElem_mem hk)
    rw [okAt_is hc, h1, h2, Bool.true_and, Bool.and_true]
    cases k with
    | zero => simp
    | succ j =>
      have hj : L[j]? = some (L[j]'(by omega)) := List.getElem?_eq_getElem _
      rw [Nat.add_sub_cancel, hj]
      simp only
      rw [asc_at h.asc hj hc]; simp
end Go.Proofs.YtanifiobfbfehaaGreatDoor
