/- Rows of structs as slices hold them; assignments and notes; what a file comes to. What the document's own Parse returns. Condition: bytes that lie in memory. -/
import Derived.Test.YtgigdhincpcdbaaGreatDoorYa
import Derived.Test.YtgigdhincpcdbaaGreatDoorLl
import Derived.Deep.AppendLies
import Derived.Test.YtgigdhincpcdbaaGreatDoorLf
import Derived.StillTailTactics
namespace Go.Proofs.YtgigdhincpcdbaaGreatDoor
open Go.RowKit
set_option linter.unusedVariables false

section
variable {α : Type} {sz : Nat} {enc : α → List Value}
def rowC (enc : α → List Value) (O : List α) : List Value := O.flatMap enc
theorem rowC_app (a b : List α) : rowC enc (a ++ b) = rowC enc a ++ rowC enc b := List.flatMap_append
theorem rowC_one1 (x : α) : rowC enc [x] = enc x := by unfold rowC; simp
theorem rowC_length (hz : ∀ x, (enc x).length = sz) (O : List α) : (rowC enc O).length = O.length * sz := by
  induction O with
  | nil => simp [rowC]
  | cons x r ih =>
    rw [show x :: r = [x] ++ r from rfl, rowC_app, rowC_one1, List.length_append, hz, ih, List.length_append, List.length_singleton, Nat.add_mul, Nat.one_mul]
theorem rowC_oneCell (h1 : ∀ x, ∀ u ∈ enc x, u.oneCell' = true) (O : List α) : ∀ u ∈ rowC enc O, u.oneCell' = true := fun u hu => by
  obtain ⟨x, _, hx⟩ := List.mem_flatMap.1 hu
  exact h1 x u hx
theorem rowC_get (hz : ∀ x, (enc x).length = sz) : ∀ {O : List α} {k : Nat} {p : α}, O[k]? = some p → ∀ j u, (enc p)[j]? = some u → (rowC enc O)[k * sz + j]? = some u
  | [], k, p, h, _, _, _ => by simp at h
  | x :: r, 0, p, h, j, u, hu => by
    have e : x = p := Option.some.inj h
    subst e
    have hj := (List.getElem?_eq_some_iff.1 hu).1
    rw [show x :: r = [x] ++ r from rfl, rowC_app, rowC_one1, Nat.zero_mul, Nat.zero_add, List.getElem?_append_left hj]
    exact hu
  | x :: r, k + 1, p, h, j, u, hu => by
    have ih := rowC_get hz (O := r) (k := k) (p := p) (by simpa using h) j u hu
    rw [show x :: r = [x] ++ r from rfl, rowC_app, rowC_one1, List.getElem?_append_right (by rw [hz, Nat.succ_mul]; omega), hz, show (k + 1) * sz + j - sz = k * sz + j by rw [Nat.succ_mul]; omega]
    exact ih
/-- A slice of structs holds these rows. -/
def RowsAt (sz : Nat) (enc : α → List Value) (w : World) (v : Value) (O : List α) : Prop := ∃ q c, v = .slice q O.length c ∧ ∀ k p, O[k]? = some p → ∃ g o, q = some ⟨g, o, none⟩ ∧ ∀ j u, (enc p)[j]? = some u → w.cell? ⟨g, o + k * sz + j, none⟩ = some u
theorem RowsAt.on {w w' : World} {v : Value} {O : List α} (h : RowsAt sz enc w v O) (hb : Below w.heap.size w w') : RowsAt sz enc w' v O := by
  obtain ⟨q, c, rfl, hr⟩ := h
  refine ⟨q, c, rfl, fun k p hk => ?_⟩
  obtain ⟨g, o, rfl, hc⟩ := hr k p hk
  exact ⟨g, o, rfl, fun j u hu => (hb.cell (World.block_lt_of_cell? w _ (hc j u hu))).trans (hc j u hu)⟩
theorem RowsAt.nil (w : World) : RowsAt sz enc w (.slice none 0 0) [] := ⟨none, 0, rfl, fun k p h => by simp at h⟩
theorem rows_own (hz : ∀ x, (enc x).length = sz) {w : World} {B : Nat} {v : Value} {O : List α} {t : TypeId} (h : w.ownsRow B t sz v O.length (rowC enc O)) : RowsAt sz enc w v O := by
  rcases h.2 with ⟨rfl, e⟩ | ⟨g, cap, cur, rfl, hg, hh, hcap, hm, hs, ht⟩
  · have : O = [] := List.eq_nil_of_length_eq_zero e
    subst this
    exact RowsAt.nil w
  · refine ⟨_, _, rfl, fun k p hk => ⟨g, 0, rfl, fun j u hu => ?_⟩⟩
    have h1 := rowC_get hz hk j u hu
    rw [← ht, List.getElem?_take] at h1
    split at h1
    · rw [Nat.zero_add, cell_of_row _ _ _ _ _ (0, 0) hh, ← Array.getElem?_toList]
      exact h1
    · cases h1
theorem rows_lit (hz : ∀ x, (enc x).length = sz) (w : World) (O : List α) (t : TypeId) : RowsAt sz enc (w.alloc (.cells (rowC enc O).toArray t)) (.slice (some ⟨w.heap.size, 0, none⟩) O.length O.length) O := by
  refine ⟨_, _, rfl, fun k p hk => ⟨w.heap.size, 0, rfl, fun j u hu => ?_⟩⟩
  rw [Nat.zero_add, cell_of_row _ _ _ _ _ (0, 0) (heap_alloc_new w _), List.getElem?_toArray]
  exact rowC_get hz hk j u hu
theorem news_row (w : World) (cs : List Value) (t : TypeId) : ∀ j u, cs[j]? = some u → (w.alloc (.cells cs.toArray t)).cell? ((⟨w.heap.size, 0, none⟩ : Addr).add j) = some u := fun j u hu => by
  rw [Addr.add_lit, Nat.zero_add, cell_of_row _ _ _ _ _ (0, 0) (heap_alloc_new w _), List.getElem?_toArray]
  exact hu
end
/-- An assignment. -/
structure Asn where
  file : ByteArray
  line : Int
  sec : ByteArray
  key : ByteArray
  val : ByteArray
/-- A note. -/
structure Nte where
  file : ByteArray
  line : Int
  err : Int
  text : ByteArray
def encA (a : Asn) : List Value := [.string a.file, .int .i64 a.line, .string a.sec, .string a.key, .string a.val]
def encN (a : Nte) : List Value := [.string a.file, .int .i64 a.line, .int .i64 a.err, .string a.text]
theorem encA_len (a : Asn) : (encA a).length = 5 := rfl
theorem encN_len (a : Nte) : (encN a).length = 4 := rfl
theorem encA_one (a : Asn) : ∀ u ∈ encA a, u.oneCell' = true := fun u hu => by
  unfold encA at hu
  simp only [List.mem_cons, List.mem_nil_iff, or_false] at hu
  rcases hu with rfl | rfl | rfl | rfl | rfl <;> rfl
theorem encN_one (a : Nte) : ∀ u ∈ encN a, u.oneCell' = true := fun u hu => by
  unfold encN at hu
  simp only [List.mem_cons, List.mem_nil_iff, or_false] at hu
  rcases hu with rfl | rfl | rfl | rfl <;> rfl
theorem asn_info : (Tryz.prog.info? 60).map (fun i => (i.zero, i.size, i.bytes)) = some (some (.agg #[.string ⟨#[]⟩, .int .i64 0, .string ⟨#[]⟩, .string ⟨#[]⟩, .string ⟨#[]⟩]), 5, 72) := by kernel_rfl
theorem nte_info : (Tryz.prog.info? 47).map (fun i => (i.zero, i.size, i.bytes)) = some (some (.agg #[.string ⟨#[]⟩, .int .i64 0, .int .i64 0, .string ⟨#[]⟩]), 4, 48) := by kernel_rfl
/-- What reading has come to: the section, the assignments, the notes. -/
structure US where
  sec : List UInt8
  asl : List Asn
  nts : List Nte
def stepU (fn : ByteArray) (st : US) (p : Nat × List UInt8) : US :=
  match secL p.2 with
  | some s => ⟨s, st.asl, st.nts⟩
  | none => if (asgL p.2).isSome = true ∧ st.sec ≠ [] then ⟨st.sec, st.asl ++ [⟨fn, (p.1 : Nat), bs st.sec, bs (asgK p.2), bs (asgW p.2)⟩], st.nts⟩ else ⟨st.sec, st.asl, st.nts ++ [⟨fn, (p.1 : Nat), 130, bs (p.2.take 60)⟩]⟩
def stU (fn : ByteArray) (O : List (Nat × List UInt8)) (k : Nat) : US := (O.take k).foldl (stepU fn) ⟨[], [], []⟩
theorem stU_step {fn : ByteArray} {O : List (Nat × List UInt8)} {k : Nat} {p : Nat × List UInt8} (h : O[k]? = some p) : stU fn O (k + 1) = stepU fn (stU fn O k) p := by
  unfold stU
  rw [List.take_add_one, h, List.foldl_append]; rfl
theorem stepU_sec {fn : ByteArray} {st : US} {p : Nat × List UInt8} {s : List UInt8} (h : secL p.2 = some s) : stepU fn st p = ⟨s, st.asl, st.nts⟩ := by unfold stepU; rw [h]
theorem stepU_asg {fn : ByteArray} {st : US} {p : Nat × List UInt8} (h : secL p.2 = none) (h2 : (asgL p.2).isSome = true) (h3 : st.sec ≠ []) : stepU fn st p = ⟨st.sec, st.asl ++ [⟨fn, (p.1 : Nat), bs st.sec, bs (asgK p.2), bs (asgW p.2)⟩], st.nts⟩ := by unfold stepU; rw [h]; simp only; rw [if_pos ⟨h2, h3⟩]
theorem stepU_nte {fn : ByteArray} {st : US} {p : Nat × List UInt8} (h : secL p.2 = none) (h2 : (asgL p.2).isSome = false ∨ st.sec = []) : stepU fn st p = ⟨st.sec, st.asl, st.nts ++ [⟨fn, (p.1 : Nat), 130, bs (p.2.take 60)⟩]⟩ := by
  unfold stepU; rw [h]; simp only
  rw [if_neg]
  rintro ⟨h3, h4⟩
  rcases h2 with h2 | h2
  · rw [h2] at h3; cases h3
  · exact h4 h2
theorem stU_len (fn : ByteArray) (O : List (Nat × List UInt8)) : ∀ k, k ≤ O.length → (stU fn O k).asl.length + (stU fn O k).nts.length ≤ k := by
  intro k
  induction k with
  | zero => intro _; exact Nat.le_refl _
  | succ k ih =>
    intro hk
    obtain ⟨p, hp⟩ : ∃ p, O[k]? = some p := ⟨_, List.getElem?_eq_getElem (by omega)⟩
    rw [stU_step hp]
    have := ih (by omega)
    unfold stepU
    split
    · show (stU fn O k).asl.length + (stU fn O k).nts.length ≤ k + 1; omega
    · split
      · show ((stU fn O k).asl ++ [_]).length + (stU fn O k).nts.length ≤ k + 1
        rw [List.length_append, List.length_singleton]; omega
      · show (stU fn O k).asl.length + ((stU fn O k).nts ++ [_]).length ≤ k + 1
        rw [List.length_append, List.length_singleton]; omega
theorem stU_sec (fn : ByteArray) (O : List (Nat × List UInt8)) (m : Nat) (hm : ∀ p ∈ O, p.2.length ≤ m) : ∀ k, (stU fn O k).sec.length ≤ m := by
  intro k
  induction k with
  | zero => exact Nat.zero_le _
  | succ k ih =>
    cases hp : O[k]? with
    | none =>
      have e : stU fn O (k + 1) = stU fn O k := by
        unfold stU
        rw [List.take_add_one, hp, Option.toList_none, List.append_nil]
      rw [e]; exact ih
    | some p =>
      rw [stU_step hp]
      unfold stepU
      split
      · rename_i s hs
        show s.length ≤ m
        have h1 := sec_len p.2
        unfold secV at h1
        rw [hs] at h1
        exact Nat.le_trans h1 (hm p (List.mem_of_getElem? hp))
      · split <;> exact ih
/-- What a file comes to: its assignments, its notes. -/
def filS (fn : ByteArray) (l : List UInt8) : US := stU fn (splL l) (splL l).length
def usA (st : US) : List Asn := if st.nts = [] then st.asl else []
theorem usA_yes {st : US} (h : st.nts = []) : usA st = st.asl := by unfold usA; rw [if_pos h]
theorem usA_no {st : US} (h : ¬ st.nts = []) : usA st = [] := by unfold usA; rw [if_neg h]
def filA (fn : ByteArray) (l : List UInt8) : List Asn := if splE l ≠ 0 then [] else usA (filS fn l)
def filN (fn : ByteArray) (l : List UInt8) : List Nte := if splE l ≠ 0 then [⟨fn, 0, splE l, ⟨#[]⟩⟩] else (filS fn l).nts
theorem spl_text {l : List UInt8} {p : Nat × List UInt8} (h : p ∈ splL l) : p.2.length ≤ 65537000 := (spl_ok h).len
end Go.Proofs.YtgigdhincpcdbaaGreatDoor
namespace Go.Proofs.YtgigdhincpcdbaaGreatDoor
open Go.RowKit
set_option linter.unusedVariables false
set_option linter.unusedSimpArgs false
attribute [local go_sem ↓] Go.wp_at_zero Go.wp_at_succ

theorem thn13 {w V W : World} (a : Below w.heap.size w V) (b : Below V.heap.size V W) : Below w.heap.size w W := a.trans (b.mono a.size)
/-- A value whose block, if it has one, is none of those below B. -/
def NewV (B : Nat) (v : Value) : Prop := ∀ g, v.ownBlock = some g → B ≤ g
theorem NewV.nil (B n c : Nat) : NewV B (.slice none n c) := fun g h => by cases h
theorem NewV.own {w : World} {B B' n s : Nat} {e : TypeId} {v : Value} {xs : List Value} (h : w.ownsRow B e s v n xs) (hB : B' ≤ B) : NewV B' v := fun g hg => Nat.le_trans hB (h.lt g hg).1
def Apart13 (v4 v5 : Value) : Prop := ∀ g, v4.ownBlock = some g → v5.ownBlock ≠ some g
theorem own_on13 {w w' : World} {B n s : Nat} {e : TypeId} {v : Value} {xs : List Value} (h : w.ownsRow B e s v n xs) (hb : Below w.heap.size w w') : w'.ownsRow B e s v n xs := by
  refine ⟨h.1, ?_⟩
  rcases h.2 with h2 | ⟨g, cap, cur, rfl, hgB, hg, r⟩
  · exact Or.inl h2
  · exact Or.inr ⟨g, cap, cur, rfl, hgB, (hb.block g (h.lt g rfl).2).trans hg, r⟩
theorem apart_new {v v5 : Value} {g n c H : Nat} {w : World} (ha : Apart13 v v5) (h : v.ownBlock = some g ∨ g = H) (hH : ∀ b, v5.ownBlock = some b → b < H) : Apart13 (.slice (some ⟨g, 0, none⟩) n c) v5 := fun b hb e => by
  have hb' : g = b := Option.some.inj hb
  subst hb'
  rcases h with h | h
  · exact ha g h e
  · have := hH g e; omega
theorem apart_new2 {v v5 : Value} {g n c H : Nat} {w : World} (ha : Apart13 v5 v) (h : v.ownBlock = some g ∨ g = H) (hH : ∀ b, v5.ownBlock = some b → b < H) : Apart13 v5 (.slice (some ⟨g, 0, none⟩) n c) := fun b hb e => by
  have hb' : g = b := Option.some.inj e
  subst hb'
  rcases h with h | h
  · exact ha g hb h
  · have := hH g hb; omega
def OutA (base : Nat) (w : World) (v : Value) (O : List Asn) : Prop := w.ownsRow base 60 5 v O.length (rowC encA O)
def OutN (base : Nat) (w : World) (v : Value) (O : List Nte) : Prop := w.ownsRow base 47 4 v O.length (rowC encN O)
set_option maxRecDepth 100000 in
set_option maxHeartbeats 32000000 in
theorem parse_err_n (fn : ByteArray) (dir : Int) (a0 : Option Addr) (n cap : Nat) (l : List UInt8) (w : World) (hl : l.length = n) (hn : n ≤ 1000000) (hc : n ≤ cap) (hm : cap ≤ maxLen) (hr : RdB w w.heap.size a0 l) (hE : splE l ≠ 0) : Calls Tryz.prog 31 #[.agg #[.string fn, .int .i64 dir, .slice a0 n cap]] w fun e w' =>
    ∃ va vn, e = .returned (.tuple #[va, vn]) ∧ RowsAt 5 encA w' va [] ∧ RowsAt 4 encN w' vn [⟨fn, 0, splE l, ⟨#[]⟩⟩] ∧ Below w.heap.size w w' ∧ NewV w.heap.size va ∧ NewV w.heap.size vn := by
  have HS := Lib.hid (fun (W : World) (h : RdB W W.heap.size a0 l) => refSplit a0 n cap l W hl hn hc hm h)
  have HR := Lib.hid hr
  obtain ⟨E, hE2⟩ : ∃ E, E = splE l := ⟨_, rfl⟩
  rw [← hE2] at hE HS ⊢
  have t1 : (E != 0) = true := by rw [bne_iff_ne]; exact hE
  clear hl hn hc hm hr hE2
  go_enter Tryz.func31, Tryz.ntmps31
  go_wp2_with (go_at_call 43; ((with_reducible refine (HS.out _ (HR.out.on ((Below.refl _ _).alloc (Nat.le_refl _) _))).mono ?_); rintro e W ⟨v, rfl, _, b1⟩); have c0 := (cell_of_row W w.heap.size 0 _ _ (0, 0) ((b1.block w.heap.size (by rw [World.size_alloc]; exact Nat.lt_succ_self _)).trans (heap_alloc_new w _))).trans (show _ = some (Value.string fn) from rfl); have B1 := Lib.hid (thn13 ((Below.refl w.heap.size w).alloc (Nat.le_refl _) _) b1); clear b1)
  go_region
  all_goals
    go_wp2
    go_ret2
    exact ⟨_, _, rfl, RowsAt.nil _, rows_lit encN_len _ [⟨fn, 0, E, ⟨#[]⟩⟩] _, (Go.below_drewN B1.out 1).alloc (Go.below_drewN B1.out 1).size _, NewV.nil _ _ _, fun g e => by have e2 : _ = g := Option.some.inj e; rw [← e2]; exact B1.out.size⟩
theorem parse_err (fn : ByteArray) (dir : Int) (a0 : Option Addr) (n cap : Nat) (l : List UInt8) (w : World) (hl : l.length = n) (hn : n ≤ 1000000) (hc : n ≤ cap) (hm : cap ≤ maxLen) (hr : RdB w w.heap.size a0 l) (hE : splE l ≠ 0) : Calls Tryz.prog 31 #[.agg #[.string fn, .int .i64 dir, .slice a0 n cap]] w fun e w' =>
    ∃ va vn, e = .returned (.tuple #[va, vn]) ∧ RowsAt 5 encA w' va [] ∧ RowsAt 4 encN w' vn [⟨fn, 0, splE l, ⟨#[]⟩⟩] ∧ Below w.heap.size w w' :=
  (parse_err_n fn dir a0 n cap l w hl hn hc hm hr hE).mono fun e w' ⟨va, vn, h1, h2, h3, h4, _⟩ => ⟨va, vn, h1, h2, h3, h4⟩
end Go.Proofs.YtgigdhincpcdbaaGreatDoor
