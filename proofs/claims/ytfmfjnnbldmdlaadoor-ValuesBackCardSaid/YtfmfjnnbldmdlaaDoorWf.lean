/- What the function Cat of the package words returns, of slices that read as lists of bytes: all of them, one behind the other, in new memory. Condition: the lengths together are at most 2 to the 46th. -/
import Derived.Test.YtfmfjnnbldmdlaaDoorWe
namespace Go.Proofs.YtfmfjnnbldmdlaaDoor
open Go.RowKit
set_option linter.unusedVariables false

theorem RdL.news {w : World} {B : Nat} {q : Option Addr} {c : Nat} {xs : List Int} (h : Rd w B q xs) (hq : q = none → c = 0) :
    (q = none → xs.length = 0 ∧ c = 0) ∧ ∀ ad, q = some ad → ∀ j u, (bv xs)[j]? = some u → w.cell? (ad.add j) = some u := by
  refine ⟨fun e => ⟨?_, hq e⟩, fun ad e j u hu => ?_⟩
  · rcases Nat.eq_zero_or_pos xs.length with h0 | h0
    · exact h0
    · obtain ⟨b, o, e', _⟩ := h h0
      rw [e] at e'; cases e'
  · have hj : j < xs.length := by
      have := (List.getElem?_eq_some_iff.1 hu).1
      rwa [bv_length] at this
    obtain ⟨ad', e', hc⟩ := h.news (by rw [bv_length]; omega)
    rw [e] at e'
    obtain rfl := Option.some.inj e'
    exact hc j u hu
end Go.Proofs.YtfmfjnnbldmdlaaDoor
