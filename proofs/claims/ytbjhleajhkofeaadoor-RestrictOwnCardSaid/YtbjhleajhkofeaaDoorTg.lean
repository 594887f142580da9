/- Lists of calls, modified by one value after another, as the chapter says them: what is found in a list decides it; what a value does is a row of effects; done twice it is done once. Plain lists; which calls are known (K) and what a group stands for (X) are letters. No program. A value of one known call alone; a call put behind a list and swapped forward is the list with that call. Plain lists, no program. Lists of calls in memory; what the document's own Warns, Find, Same return. Conditions: a list of at most a million calls that can be read. -/
import Derived.Test.YtbjhleajhkofeaaDoorLa
import Derived.Test.YtbjhleajhkofeaaDoorJa
import Derived.Deep.RegionHeld3
import Derived.Sort.Walk0
import Derived.Test.YtbjhleajhkofeaaDoorWd
import Derived.BigQuiet
import Derived.WalkSmall
import Derived.Deep.QuietTactic
namespace Go.Proofs.YtbjhleajhkofeaaDoor
open Go.RowKit
set_option linter.unusedVariables false

/-- The words, with a word begun. -/
def wdA : List UInt8 → List UInt8 → List (List UInt8)
  | a, [] => if a = [] then [] else [a]
  | a, c :: r => if blkB c = true then (if a = [] then wdA [] r else a :: wdA [] r) else wdA (a ++ [c]) r
def wdL (l : List UInt8) : List (List UInt8) := wdA [] l
theorem wdA_nil (a : List UInt8) : wdA a [] = if a = [] then [] else [a] := by unfold wdA; rfl
theorem wdA_blk {a r : List UInt8} {c : UInt8} (h : blkB c = true) : wdA a (c :: r) = if a = [] then wdA [] r else a :: wdA [] r := by conv => lhs; unfold wdA; rw [if_pos h]
theorem wdA_go {a r : List UInt8} {c : UInt8} (h : blkB c = false) : wdA a (c :: r) = wdA (a ++ [c]) r := by conv => lhs; unfold wdA; rw [if_neg (by rw [h]; decide)]
/-- How long all words are. -/
theorem wdA_len : ∀ (r a : List UInt8), ((wdA a r).map List.length).sum ≤ a.length + r.length ∧ (wdA a r).length ≤ a.length + r.length
  | [], a => by
    rw [wdA_nil]
    split
    · simp
    · rename_i h
      have : a.length ≠ 0 := fun e => h (List.length_eq_zero_iff.1 e)
      simp; omega
  | c :: r, a => by
    cases hc : blkB c with
    | true =>
      rw [wdA_blk hc]
      have ih := wdA_len r []
      simp only [List.length_nil, Nat.zero_add] at ih
      split
      · simp only [List.length_cons]; omega
      · rename_i h
        have : a.length ≠ 0 := fun e => h (List.length_eq_zero_iff.1 e)
        simp only [List.map_cons, List.sum_cons, List.length_cons]; omega
    | false =>
      rw [wdA_go hc]
      have ih := wdA_len r (a ++ [c])
      rw [List.length_append] at ih
      simp only [List.length_cons, List.length_nil] at ih ⊢
      omega
theorem wdL_len (l : List UInt8) : (wdL l).length ≤ l.length := by have := (wdA_len l []).2; rw [List.length_nil, Nat.zero_add] at this; exact this
theorem wdA_word : ∀ (x a r : List UInt8), (∀ c ∈ x, blkB c = false) → wdA a (x ++ r) = wdA (a ++ x) r
  | [], a, r, h => by rw [List.nil_append, List.append_nil]
  | c :: x, a, r, h => by
    rw [List.cons_append, wdA_go (h c (List.mem_cons_self ..)), wdA_word x (a ++ [c]) r (fun d hd => h d (List.mem_cons_of_mem _ hd)), List.append_assoc]; rfl
/-- Truth values. -/
def yesT : List ByteArray := [⟨#[121, 101, 115]⟩, ⟨#[116, 114, 117, 101]⟩, ⟨#[111, 110]⟩, ⟨#[49]⟩]
def noT : List ByteArray := [⟨#[110, 111]⟩, ⟨#[102, 97, 108, 115, 101]⟩, ⟨#[111, 102, 102]⟩, ⟨#[48]⟩]
def isIn (l : List ByteArray) (s : ByteArray) : Bool := l.any fun t => decide (t = s)
def boolR (s : ByteArray) : Option Bool := if isIn yesT s = true then some true else if isIn noT s = true then some false else none
def boolE (s : ByteArray) : Int := if (boolR s).isSome = true then 0 else 150

/-- An entry. -/
structure Ent where
  nm : ByteArray
  act : Nat
  has : Bool
def e0 : Ent := ⟨⟨#[]⟩, 0, false⟩
def turnR (s : ByteArray) : ByteArray × Bool := if s.data.toList.head? = some 126 then (bs (s.data.toList.drop 1), true) else (s, false)
end Go.Proofs.YtbjhleajhkofeaaDoor
namespace Go.Proofs.YtbjhleajhkofeaaDoor
open Go.RowKit
set_option linter.unusedVariables false
set_option linter.unusedSimpArgs false
attribute [local go_sem ↓] Go.wp_at_zero Go.wp_at_succ

/-- Words that can be read. -/
def WdsAt (w : World) (q : Option Addr) (L : List (List UInt8)) : Prop := ∀ k x, L[k]? = some x → ∃ g o, q = some ⟨g, o, none⟩ ∧ w.cell? ⟨g, o + k, none⟩ = some (.string (bs x))
theorem WdsAt.on {w w' : World} {q : Option Addr} {L : List (List UInt8)} (h : WdsAt w q L) (hb : Below w.heap.size w w') : WdsAt w' q L := fun k x hk => by
  obtain ⟨g, o, e, c⟩ := h k x hk
  exact ⟨g, o, e, (hb.cell (World.block_lt_of_cell? w _ c)).trans c⟩
theorem WdsAt.of_own {w : World} {B n c : Nat} {t : TypeId} {q : Option Addr} {L : List (List UInt8)} (h : w.ownsRow B t 1 (.slice q n c) n (sL L)) (hn : n = L.length) : WdsAt w q L := fun k x hk => by
  have hl : k < n := by rw [hn]; exact (List.getElem?_eq_some_iff.1 hk).1
  obtain ⟨g, cap, hv, _⟩ := h.form (by omega)
  injection hv with e1 e2 e3
  subst e1
  subst e3
  exact ⟨g, 0, rfl, by rw [Nat.zero_add]; exact (h.cellAt k (by omega)).trans (sL_get hk)⟩
end Go.Proofs.YtbjhleajhkofeaaDoor
namespace Go.Proofs.YtbjhleajhkofeaaDoor
open Go.RowKit
set_option linter.unusedVariables false
set_option linter.unusedSimpArgs false
attribute [local go_sem ↓] Go.wp_at_zero Go.wp_at_succ

theorem isIn_no {l : List ByteArray} {s : ByteArray} (h : ∀ t ∈ l, ¬ s = t) : isIn l s = false := by
  unfold isIn
  rw [List.any_eq_false]
  intro t ht
  rw [decide_eq_true_eq]
  exact fun e => h t ht e.symm
end Go.Proofs.YtbjhleajhkofeaaDoor
namespace Go.Proofs.YtbjhleajhkofeaaDoor
open Go.RowKit
set_option linter.unusedVariables false
set_option linter.unusedSimpArgs false
attribute [local go_sem ↓] Go.wp_at_zero Go.wp_at_succ

end Go.Proofs.YtbjhleajhkofeaaDoor
namespace Go.Proofs.YtbjhleajhkofeaaDoor
open Go.RowKit
set_option linter.unusedVariables false
set_option linter.unusedSimpArgs false
attribute [local go_sem ↓] Go.wp_at_zero Go.wp_at_succ

theorem results_two15 {fn : Func} {tmps : Array Value} {w : World} {t u : Nat} {ty : TypeId} {p : Addr} {v x : Value} (hr : fn.results = #[.cell t ty, .tmp u]) (ha : tmps.getD t undef = .pointer (some p)) (hu : tmps.getD u undef = x) (hl : (loadVar ty p).run Tryd.prog w = .ok v w) : (results fn tmps).run Tryd.prog w = .ok (.tuple #[v, x]) w := by
  have ha' : tmps[t]?.getD undef = .pointer (some p) := by simpa using ha
  have hu' : tmps[u]?.getD undef = x := by simpa using hu
  simp [results, hr, asAddr, ha', hu', hl]
end Go.Proofs.YtbjhleajhkofeaaDoor
namespace Go.Proofs.YtbjhleajhkofeaaDoor
set_option linter.unusedVariables false

abbrev Cl := ByteArray × Nat
/-! ### effects -/
/-! ### a value -/
end Go.Proofs.YtbjhleajhkofeaaDoor
namespace Go.Proofs.YtbjhleajhkofeaaDoor
set_option linter.unusedVariables false

end Go.Proofs.YtbjhleajhkofeaaDoor
namespace Go.Proofs.YtbjhleajhkofeaaDoor
open Go.RowKit
set_option linter.unusedVariables false
set_option linter.unusedSimpArgs false
attribute [local go_sem ↓] Go.wp_at_zero Go.wp_at_succ

/-- Calls that can be read. -/
def LsAt (w : World) (q : Option Addr) (L : List Cl) : Prop := ∀ k c, L[k]? = some c → ∃ g o, q = some ⟨g, o, none⟩ ∧ w.cell? ⟨g, o + k * 2, none⟩ = some (.string c.1) ∧ w.cell? ⟨g, o + k * 2 + 1, none⟩ = some (.int .u32 (c.2 : Nat))
theorem LsAt.on {w w' : World} {q : Option Addr} {L : List Cl} (h : LsAt w q L) (hb : Below w.heap.size w w') : LsAt w' q L := fun k x hk => by
  obtain ⟨g, o, e, c1, c2⟩ := h k x hk
  exact ⟨g, o, e, (hb.cell (World.block_lt_of_cell? w _ c1)).trans c1, (hb.cell (World.block_lt_of_cell? w _ c2)).trans c2⟩
def lsV (m : Nat) (q : Option Addr) (n c : Nat) : Value := .agg #[.int .u8 (m : Nat), .slice q n c]
end Go.Proofs.YtbjhleajhkofeaaDoor
