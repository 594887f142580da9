/- Values as the chapter says them: words, truth values, entries; on lists of bytes. Plain lists and numbers, no program. What the document's own Words returns: a value's words. Condition: a string of at most a million bytes. What the document's own Bool, Turned return, and is. Condition: a string that lies in memory. What the document's own Text and Read return. Conditions: a name, a word of at most a million bytes. What the document's own Read returns. Condition: a word of at most a million bytes. -/
import Derived.Test.YtanifiobfbfehaaGreatDoorLa
import Derived.Test.YtanifiobfbfehaaGreatDoorJa
import Derived.Deep.RegionHeld3
namespace Go.Proofs.YtanifiobfbfehaaGreatDoor
open Go.RowKit
set_option linter.unusedVariables false

/-- The words, with a word begun. -/
def wdA : List UInt8 → List UInt8 → List (List UInt8)
  | a, [] => if a = [] then [] else [a]
  | a, c :: r => if blkB c = true then (if a = [] then wdA [] r else a :: wdA [] r) else wdA (a ++ [c]) r
def wdL (l : List UInt8) : List (List UInt8) := wdA [] l
theorem wdA_nil (a : List UInt8) : wdA a [] = if a = [] then [] else [a] := by unfold wdA; rfl
theorem wdA_blk {a r : List UInt8} {c : UInt8} (h : blkB c = true) : wdA a (c :: r) = if a = [] then wdA [] r else a :: wdA [] r := by conv => lhs; unfold wdA; rw [if_pos h]
theorem wdA_go {a r : List UInt8} {c : UInt8} (h : blkB c = false) : wdA a (c :: r) = wdA (a ++ [c]) r := by conv => lhs; unfold wdA; rw [if_neg (by rw [h]; decide)]
/-- How long all words are. -/
theorem wdA_len : ∀ (r a : List UInt8), ((wdA a r).map List.length).sum ≤ a.length + r.length ∧ (wdA a r).length ≤ a.length + r.length
  | [], a => by
    rw [wdA_nil]
    split
    · simp
    · rename_i h
      have : a.length ≠ 0 := fun e => h (List.length_eq_zero_iff.1 e)
      simp; omega
  | c :: r, a => by
    cases hc : blkB c with
    | true =>
      rw [wdA_blk hc]
      have ih := wdA_len r []
      simp only [List.length_nil, Nat.zero_add] at ih
      split
      · simp only [List.length_cons]; omega
      · rename_i h
        have : a.length ≠ 0 := fun e => h (List.length_eq_zero_iff.1 e)
        simp only [List.map_cons, List.sum_cons, List.length_cons]; omega
    | false =>
      rw [wdA_go hc]
      have ih := wdA_len r (a ++ [c])
      rw [List.length_append] at ih
      simp only [List.length_cons, List.length_nil] at ih ⊢
      omega
theorem wdL_len (l : List UInt8) : (wdL l).length ≤ l.length := by have := (wdA_len l []).2; rw [List.length_nil, Nat.zero_add] at this; exact this
theorem wdL_sum (l : List UInt8) : ((wdL l).map List.length).sum ≤ l.length := by have := (wdA_len l []).1; rw [List.length_nil, Nat.zero_add] at this; exact this
theorem wdA_word : ∀ (x a r : List UInt8), (∀ c ∈ x, blkB c = false) → wdA a (x ++ r) = wdA (a ++ x) r
  | [], a, r, h => by rw [List.nil_append, List.append_nil]
  | c :: x, a, r, h => by
    rw [List.cons_append, wdA_go (h c (List.mem_cons_self ..)), wdA_word x (a ++ [c]) r (fun d hd => h d (List.mem_cons_of_mem _ hd)), List.append_assoc]; rfl
/-- An entry. -/
structure Ent where
  nm : ByteArray
  act : Nat
  has : Bool
def e0 : Ent := ⟨⟨#[]⟩, 0, false⟩
def entV (e : Ent) : Value := .agg #[.string e.nm, .int .u32 (e.act : Nat), .bool e.has]
def killB : ByteArray := ⟨#[107, 105, 108, 108]⟩
/-- Where the first colon stands, or the word's end. -/
def colA (l : List UInt8) : Nat := l.findIdx (· == 58)
def rdL (l : List UInt8) : Ent × Int :=
  if colA l = 0 then (e0, 161)
  else if colA l = l.length then (⟨bs l, 0, false⟩, 0)
  else if bs (l.drop (colA l + 1)) = killB then (⟨bs (l.take (colA l)), 2147483648, true⟩, 0)
  else match errnoR (bs (l.drop (colA l + 1))) with
    | none => (e0, 160)
    | some n => (⟨bs (l.take (colA l)), 327680 + n, true⟩, 0)
def rdE (s : ByteArray) : Ent × Int := rdL s.data.toList
def turnR (s : ByteArray) : ByteArray × Bool := if s.data.toList.head? = some 126 then (bs (s.data.toList.drop 1), true) else (s, false)
theorem col_le (l : List UInt8) : colA l ≤ l.length := List.findIdx_le_length
theorem errnoR_lt {s : ByteArray} {n : Nat} (h : errnoR s = some n) : n ≤ 4095 := by
  unfold errnoR at h
  split at h
  · rename_i x hx
    injection h with h; subst h
    have : ∀ l : List En10, (l.all fun e => decide (e.2 ≤ 4095)) = true → findR l s = some x → x ≤ 4095 := by
      intro l
      induction l with
      | nil => intro _ h; cases h
      | cons e r ih =>
        intro ha h
        rw [List.all_cons, Bool.and_eq_true] at ha
        unfold findR at h
        split at h
        · injection h with h; rw [← h]; exact of_decide_eq_true ha.1
        · exact ih ha.2 h
    exact this errnoT (by decide) hx
  · unfold parse4 at h
    split at h
    · split at h
      · rename_i hv; injection h with h; omega
      · cases h
    · cases h
end Go.Proofs.YtanifiobfbfehaaGreatDoor
namespace Go.Proofs.YtanifiobfbfehaaGreatDoor
open Go.RowKit
set_option linter.unusedVariables false
set_option linter.unusedSimpArgs false
attribute [local go_sem ↓] Go.wp_at_zero Go.wp_at_succ

/-- Words that can be read. -/
def WdsAt (w : World) (q : Option Addr) (L : List (List UInt8)) : Prop := ∀ k x, L[k]? = some x → ∃ g o, q = some ⟨g, o, none⟩ ∧ w.cell? ⟨g, o + k, none⟩ = some (.string (bs x))
theorem WdsAt.on {w w' : World} {q : Option Addr} {L : List (List UInt8)} (h : WdsAt w q L) (hb : Below w.heap.size w w') : WdsAt w' q L := fun k x hk => by
  obtain ⟨g, o, e, c⟩ := h k x hk
  exact ⟨g, o, e, (hb.cell (World.block_lt_of_cell? w _ c)).trans c⟩
theorem WdsAt.of_own {w : World} {B n c : Nat} {t : TypeId} {q : Option Addr} {L : List (List UInt8)} (h : w.ownsRow B t 1 (.slice q n c) n (sL L)) (hn : n = L.length) : WdsAt w q L := fun k x hk => by
  have hl : k < n := by rw [hn]; exact (List.getElem?_eq_some_iff.1 hk).1
  obtain ⟨g, cap, hv, _⟩ := h.form (by omega)
  injection hv with e1 e2 e3
  subst e1
  subst e3
  exact ⟨g, 0, rfl, by rw [Nat.zero_add]; exact (h.cellAt k (by omega)).trans (sL_get hk)⟩
end Go.Proofs.YtanifiobfbfehaaGreatDoor
namespace Go.Proofs.YtanifiobfbfehaaGreatDoor
open Go.RowKit
set_option linter.unusedVariables false
set_option linter.unusedSimpArgs false
attribute [local go_sem ↓] Go.wp_at_zero Go.wp_at_succ

end Go.Proofs.YtanifiobfbfehaaGreatDoor
namespace Go.Proofs.YtanifiobfbfehaaGreatDoor
open Go.RowKit
set_option linter.unusedVariables false
set_option linter.unusedSimpArgs false
attribute [local go_sem ↓] Go.wp_at_zero Go.wp_at_succ

end Go.Proofs.YtanifiobfbfehaaGreatDoor
namespace Go.Proofs.YtanifiobfbfehaaGreatDoor
open Go.RowKit
set_option linter.unusedVariables false
set_option linter.unusedSimpArgs false
attribute [local go_sem ↓] Go.wp_at_zero Go.wp_at_succ

theorem rd_0 {l : List UInt8} (h : colA l = 0) : rdL l = (e0, 161) := by unfold rdL; rw [if_pos h]
theorem rd_n {l : List UInt8} (h : ¬ colA l = 0) (h2 : colA l = l.length) : rdL l = (⟨bs l, 0, false⟩, 0) := by unfold rdL; rw [if_neg h, if_pos h2]
theorem rd_k {l : List UInt8} (h : ¬ colA l = 0) (h2 : ¬ colA l = l.length) (h3 : bs (l.drop (colA l + 1)) = killB) : rdL l = (⟨bs (l.take (colA l)), 2147483648, true⟩, 0) := by unfold rdL; rw [if_neg h, if_neg h2, if_pos h3]
theorem rd_x {l : List UInt8} (h : ¬ colA l = 0) (h2 : ¬ colA l = l.length) (h3 : ¬ bs (l.drop (colA l + 1)) = killB) (h4 : errnoR (bs (l.drop (colA l + 1))) = none) : rdL l = (e0, 160) := by unfold rdL; rw [if_neg h, if_neg h2, if_neg h3, h4]
theorem rd_e {l : List UInt8} {x : Nat} (h : ¬ colA l = 0) (h2 : ¬ colA l = l.length) (h3 : ¬ bs (l.drop (colA l + 1)) = killB) (h4 : errnoR (bs (l.drop (colA l + 1))) = some x) : rdL l = (⟨bs (l.take (colA l)), 327680 + x, true⟩, 0) := by unfold rdL; rw [if_neg h, if_neg h2, if_neg h3, h4]
theorem below_setCells15 {w0 : World} {b : Nat} (hb : w0.heap.size ≤ b) : ∀ (vs : List Value) (o : Nat) (w : World), Below w0.heap.size w0 w → Below w0.heap.size w0 (w.setCells b o vs)
  | [], o, w, h => h
  | v :: vs, o, w, h => below_setCells15 hb vs (o + 1) (w.setCell ⟨b, o, none⟩ v) (h.setCell hb v)
theorem results_two15 {fn : Func} {tmps : Array Value} {w : World} {t u : Nat} {ty : TypeId} {p : Addr} {v x : Value} (hr : fn.results = #[.cell t ty, .tmp u]) (ha : tmps.getD t undef = .pointer (some p)) (hu : tmps.getD u undef = x) (hl : (loadVar ty p).run Tryz.prog w = .ok v w) : (results fn tmps).run Tryz.prog w = .ok (.tuple #[v, x]) w := by
  have ha' : tmps[t]?.getD undef = .pointer (some p) := by simpa using ha
  have hu' : tmps[u]?.getD undef = x := by simpa using hu
  simp [results, hr, asAddr, ha', hu', hl]
end Go.Proofs.YtanifiobfbfehaaGreatDoor
