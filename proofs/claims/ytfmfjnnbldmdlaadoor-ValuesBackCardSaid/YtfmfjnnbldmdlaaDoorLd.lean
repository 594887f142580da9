/- What the document's own blank, Trim, Comment return. Condition: a string that lies in memory. -/
import Derived.Test.YtfmfjnnbldmdlaaDoorLa
import Derived.Laws.Strings2
import Derived.Laws.Strings3
import Derived.Laws.DeepStrings4
import Derived.Laws.IdiomStrings
import Derived.Deep.AppendLies
import Derived.Deep.DrawnRows
import Derived.RegionTactic
import Derived.BigRegion
namespace Go.Proofs.YtfmfjnnbldmdlaaDoor
open Go.RowKit
set_option linter.unusedVariables false
attribute [local go_sem ↓] Go.wp_at_zero Go.wp_at_succ

/-- White space, on numbers. -/
def blkI (x : Int) : Bool := x == 32 || x == 9 || x == 13
theorem blkI_nat (c : UInt8) : blkI (c.toNat : Int) = blkB c := by
  unfold blkI blkB
  have h : ∀ n : UInt8, ((c.toNat : Int) == (n.toNat : Int)) = (c == n) := fun n => by
    rw [Bool.eq_iff_iff, beq_iff_eq, beq_iff_eq, Int.ofNat_inj, UInt8.toNat_inj]
  rw [← h 32, ← h 9, ← h 13]; rfl
theorem ext_bs (s : ByteArray) (a b : Nat) : s.extract a b = bs ((s.data.toList.take b).drop a) := by
  have h := ByteArray.extract_mk s.data.toList a b
  have e : ByteArray.mk s.data.toList.toArray = s := rfl
  rw [e] at h
  rw [h, ← List.drop_take]
  rfl
theorem get_list {s : ByteArray} {k : Nat} (h : k < s.size) : s.data.toList[k]'(by simpa using h) = s[k]'h := rfl
end Go.Proofs.YtfmfjnnbldmdlaaDoor
