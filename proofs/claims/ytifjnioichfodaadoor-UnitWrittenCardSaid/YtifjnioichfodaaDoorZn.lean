/- The library's two tables as the statements' conditions give them, and a world that meets the conditions. -/
import Derived.Test.YtifjnioichfodaaDoorZf
import Derived.Test.YtifjnioichfodaaDoorLz
import Derived.ProofKit
import Derived.LaidMore
import Derived.OpenShut
import Derived.Stop.Joined
import Derived.MakeChecks
import Derived.Lay
import Derived.Test.YtifjnioichfodaaDoorRows
namespace Go.Proofs.YtifjnioichfodaaDoor
open Go.ChangeShapes Go.WideShapes Go.ChangeAt Go.RowKit
set_option linter.unusedVariables false

abbrev listed12 : List (String × DataW Unit) := [("unicode/utf8.acceptRanges", Rows.laid_unicode_utf8_acceptRanges), ("unicode/utf8.first", Rows.laid_unicode_utf8_first)]
def firstL12 : List Value := (List.range 256).map fun c => .int .u8 ((Lib.firstT c : Nat) : Int)
def rangeL12 : List Value := (List.range 32).map fun c => .int .u8 (((if c % 2 = 0 then Lib.accLo (c / 2) else Lib.accHi (c / 2)) : Nat) : Int)
theorem first_flat : flatD Tryd.prog 4 113 (Rows.laid_unicode_utf8_first : DataW Unit) = some firstL12 := by kernel_rfl
theorem range_flat : flatD Tryd.prog 4 116 (Rows.laid_unicode_utf8_acceptRanges : DataW Unit) = some rangeL12 := by kernel_rfl
theorem of_laid12 {W : World} (h : laidMetH Tryd.prog listed12 W) : G12 W := by
  rw [MakeChecks.laidMetH_plain _ _ _ (by kernel_rfl)] at h
  obtain ⟨ps, ⟨g0, t0, cs0, f0, p0, q0, hg0, ht0, hv0, hd0, ⟨g1, t1, cs1, f1, p1, q1, hg1, ht1, hv1, hd1, _, _⟩, _⟩, _, _⟩ := h
  have H0 := laidAt_of (g := 2) (t := 116) (by kernel_rfl) (by kernel_rfl) hg0 ht0 hv0 hd0 4 range_flat
  have H1 := laidAt_of (g := 1) (t := 113) (by kernel_rfl) (by kernel_rfl) hg1 ht1 hv1 hd1 4 first_flat
  refine ⟨fun c hc => H1 c _ ?_, fun i hi => ⟨H0 (2 * i) _ ?_, H0 (2 * i + 1) _ ?_⟩⟩
  · unfold firstL12
    rw [List.getElem?_map, List.getElem?_range hc]; rfl
  · unfold rangeL12
    rw [List.getElem?_map, List.getElem?_range (by omega)]
    show some (Value.int .u8 (((if 2 * i % 2 = 0 then Lib.accLo (2 * i / 2) else Lib.accHi (2 * i / 2)) : Nat) : Int)) = _
    rw [if_pos (by omega), show 2 * i / 2 = i by omega]
  · unfold rangeL12
    rw [List.getElem?_map, List.getElem?_range (by omega)]
    show some (Value.int .u8 (((if (2 * i + 1) % 2 = 0 then Lib.accLo ((2 * i + 1) / 2) else Lib.accHi ((2 * i + 1) / 2)) : Nat) : Int)) = _
    rw [if_neg (by omega), show (2 * i + 1) / 2 = i by omega]
end Go.Proofs.YtifjnioichfodaaDoor
