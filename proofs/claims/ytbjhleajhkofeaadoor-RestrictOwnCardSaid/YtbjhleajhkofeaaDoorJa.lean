/- Names of errnos, families, namespaces as the chapter says them: tables, what is found in one; the document's own tables, Find, Name. No condition. What the document's own Errno, Digits, ErrnoName, All, Flags of the names return. Condition: a text of at most 2^62 bytes. What the document's own Digits, ErrnoName, All, Flags of the names return. Condition: none. What the document's own All, Flags of the namespaces return. No condition. What the calls of the package names have to return, as the chapter says it; the chapter's rows. -/
import Derived.Test.YtbjhleajhkofeaaDoorWd
import Derived.Deep.AppendLies
import Derived.Deep.DrawnRows
import Derived.RegionTactic
import Derived.BigRegion
import Derived.Laws.IdiomStrings
import Derived.Laws.Concat
namespace Go.Proofs.YtbjhleajhkofeaaDoor
open Go.RowKit
set_option linter.unusedVariables false
attribute [local go_sem ↓] Go.wp_at_zero Go.wp_at_succ

abbrev En10 := ByteArray × Nat
def famT : List En10 := [(⟨#[65, 70, 95, 85, 78, 73, 88]⟩, 1), (⟨#[65, 70, 95, 73, 78, 69, 84]⟩, 2), (⟨#[65, 70, 95, 73, 78, 69, 84, 54]⟩, 10), (⟨#[65, 70, 95, 78, 69, 84, 76, 73, 78, 75]⟩, 16), (⟨#[65, 70, 95, 80, 65, 67, 75, 69, 84]⟩, 17), (⟨#[65, 70, 95, 66, 76, 85, 69, 84, 79, 79, 84, 72]⟩, 31), (⟨#[65, 70, 95, 65, 76, 71]⟩, 38), (⟨#[65, 70, 95, 86, 83, 79, 67, 75]⟩, 40)]
def spcT : List En10 := [(⟨#[116, 105, 109, 101]⟩, 128), (⟨#[109, 110, 116]⟩, 131072), (⟨#[99, 103, 114, 111, 117, 112]⟩, 33554432), (⟨#[117, 116, 115]⟩, 67108864), (⟨#[105, 112, 99]⟩, 134217728), (⟨#[117, 115, 101, 114]⟩, 268435456), (⟨#[112, 105, 100]⟩, 536870912), (⟨#[110, 101, 116]⟩, 1073741824)]
/-- The number of a name. -/
def findR : List En10 → ByteArray → Option Nat
  | [], _ => none
  | e :: r, s => if e.1 = s then some e.2 else findR r s
/-- The name of a number. -/
def nameR : List En10 → Nat → Option ByteArray
  | [], _ => none
  | e :: r, n => if e.2 = n then some e.1 else nameR r n
theorem find_at {l : List En10} {k : Nat} {e : En10} (h : l[k]? = some e) (s : ByteArray) : findR (l.drop k) s = if e.1 = s then some e.2 else findR (l.drop (k + 1)) s := by
  obtain ⟨hk, rfl⟩ := List.getElem?_eq_some_iff.1 h
  rw [List.drop_eq_getElem_cons hk]; rfl
theorem name_at {l : List En10} {k : Nat} {e : En10} (h : l[k]? = some e) (n : Nat) : nameR (l.drop k) n = if e.2 = n then some e.1 else nameR (l.drop (k + 1)) n := by
  obtain ⟨hk, rfl⟩ := List.getElem?_eq_some_iff.1 h
  rw [List.drop_eq_getElem_cons hk]; rfl
/-- A table's cells; they lie in memory. -/
def esN (l : List En10) : List Value := l.flatMap fun e => [.string e.1, .int .u64 (e.2 : Nat)]
theorem esN_get : ∀ {l : List En10} {k : Nat} {e : En10}, l[k]? = some e → (esN l)[k * 2]? = some (.string e.1) ∧ (esN l)[k * 2 + 1]? = some (.int .u64 (e.2 : Nat))
  | [], k, e, h => by simp at h
  | x :: r, 0, e, h => by injection h with h; subst h; exact ⟨rfl, rfl⟩
  | x :: r, k + 1, e, h => by
    have := esN_get (l := r) (k := k) (e := e) (by simpa using h)
    have e1 : esN (x :: r) = .string x.1 :: .int .u64 (x.2 : Nat) :: esN r := rfl
    rw [e1, show (k + 1) * 2 = k * 2 + 1 + 1 by omega]
    exact this
def RowsN (w : World) (g : Nat) (l : List En10) : Prop := ∀ k e, l[k]? = some e → w.cell? ⟨g, k * 2, none⟩ = some (.string e.1) ∧ w.cell? ⟨g, k * 2 + 1, none⟩ = some (.int .u64 (e.2 : Nat))
theorem RowsN.on {w w' : World} {g : Nat} {l : List En10} (h : RowsN w g l) (hb : Below w.heap.size w w') : RowsN w' g l := fun k e hk =>
  ⟨(hb.cell (World.block_lt_of_cell? w _ (h k e hk).1)).trans (h k e hk).1, (hb.cell (World.block_lt_of_cell? w _ (h k e hk).2)).trans (h k e hk).2⟩
theorem RowsN.new (w : World) (l : List En10) (t : TypeId) : RowsN (w.alloc (.cells (esN l).toArray t)) w.heap.size l := fun k e hk => by
  obtain ⟨h1, h2⟩ := esN_get hk
  constructor
  · rw [cell_of_row _ _ _ _ _ (0, 0) (heap_alloc_new w _), List.getElem?_toArray]; exact h1
  · rw [cell_of_row _ _ _ _ _ (0, 0) (heap_alloc_new w _), List.getElem?_toArray]; exact h2
theorem list_of_bytes10 {a b : ByteArray} (h : a.toList = b.toList) : a = b := by
  apply ByteArray.ext
  have h2 := congrArg List.toArray h
  simpa [ByteArray.toList_eq] using h2
end Go.Proofs.YtbjhleajhkofeaaDoor
namespace Go.Proofs.YtbjhleajhkofeaaDoor
open Go.RowKit
set_option linter.unusedVariables false
set_option linter.unusedSimpArgs false
attribute [local go_sem ↓] Go.wp_at_zero Go.wp_at_succ

end Go.Proofs.YtbjhleajhkofeaaDoor
namespace Go.Proofs.YtbjhleajhkofeaaDoor
open Go.RowKit
set_option linter.unusedVariables false
set_option linter.unusedSimpArgs false
attribute [local go_sem ↓] Go.wp_at_zero Go.wp_at_succ

end Go.Proofs.YtbjhleajhkofeaaDoor
namespace Go.Proofs.YtbjhleajhkofeaaDoor
open Go.RowKit
set_option linter.unusedVariables false
set_option linter.unusedSimpArgs false
attribute [local go_sem ↓] Go.wp_at_zero Go.wp_at_succ

/-- All flags together. -/
def allN : Nat := 2114060416
def sumTo (k : Nat) : Nat := ((spcT.take k).map (·.2)).foldl (· + ·) 0
theorem spc_at : ∀ k, k < 8 → ∃ e, spcT[k]? = some e ∧ 0 < e.2 ∧ e.2 < 4294967296 := by
  have h : (List.range 8).all (fun k => match spcT[k]? with | some e => decide (0 < e.2) && decide (e.2 < 4294967296) | none => false) = true := by decide +kernel
  intro k hk
  have := List.all_eq_true.1 h k (List.mem_range.2 hk)
  cases he : spcT[k]? with
  | none => rw [he] at this; cases this
  | some e =>
    rw [he] at this
    simp only [Bool.and_eq_true, decide_eq_true_eq] at this
    exact ⟨e, rfl, this.1, this.2⟩
theorem sum_step {k : Nat} {e : En10} (h : spcT[k]? = some e) : sumTo (k + 1) = sumTo k + e.2 := by
  unfold sumTo
  rw [List.take_add_one, h, List.map_append, List.foldl_append]; rfl
theorem sum_lt : ∀ k, k ≤ 8 → sumTo k < 4294967296 := by
  have h : (List.range 9).all (fun k => decide (sumTo k < 4294967296)) = true := by decide +kernel
  intro k hk
  exact of_decide_eq_true (List.all_eq_true.1 h k (List.mem_range.2 (by omega)))
end Go.Proofs.YtbjhleajhkofeaaDoor
namespace Go.Proofs.YtbjhleajhkofeaaDoor
open Go.RowKit
set_option linter.unusedVariables false
set_option linter.unusedSimpArgs false
attribute [local go_sem ↓] Go.wp_at_zero Go.wp_at_succ

end Go.Proofs.YtbjhleajhkofeaaDoor
