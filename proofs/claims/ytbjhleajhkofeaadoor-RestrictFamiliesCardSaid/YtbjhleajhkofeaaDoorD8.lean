/- What the eight families that RestrictFamilies names come to. Plain lists and numbers. -/
import Derived.Test.YtbjhleajhkofeaaDoorD6
namespace Go.Proofs.YtbjhleajhkofeaaDoor
open Go.RowKit
set_option linter.unusedVariables false
set_option linter.unusedSimpArgs false

def fnl18 : List Nat := [1, 2, 10, 16, 17, 31, 38, 40]
structure Fam18 (m f : Nat) (wd : ByteArray) : Prop where
  at_ : fnl18[m]? = some f
  lt : f < 4294967296
  nm : (nameR famT f).getD ⟨#[]⟩ = wd
  ne : (wd.toList == []) = false
  sz : wd.size ≤ 100
  rn : runA18 kFam [wd] 1 = ({ PZ18 with fa := [f], fm := 1 }, 0) ∧ runA18 kFam [wd, (til18 wd)] 2 = ({ PZ18 with fm := 1 }, 0) ∧ runA18 kFam [wd, (til18 wd), wd] 3 = ({ PZ18 with fa := [f], fm := 1 }, 0) ∧ runA18 kFam [wd, ⟨#[]⟩] 2 = (PZ18, 0) ∧ runA18 kFam [(til18 wd)] 1 = ({ PZ18 with fa := [f], fm := 2 }, 0) ∧ runA18 kFam [(til18 wd), wd] 2 = ({ PZ18 with fm := 2 }, 0) ∧ runA18 kFam [(til18 wd), wd, (til18 wd)] 3 = ({ PZ18 with fa := [f], fm := 2 }, 0) ∧ runA18 kFam [(til18 wd), ⟨#[]⟩] 2 = (PZ18, 0)
set_option maxRecDepth 100000 in
theorem fam18_0 : Fam18 0 1 ⟨#[65, 70, 95, 85, 78, 73, 88]⟩ := ⟨by kernel_rfl, by decide, by kernel_rfl, by kernel_rfl, by decide, by kernel_rfl, by kernel_rfl, by kernel_rfl, by kernel_rfl, by kernel_rfl, by kernel_rfl, by kernel_rfl, by kernel_rfl⟩
set_option maxRecDepth 100000 in
theorem fam18_1 : Fam18 1 2 ⟨#[65, 70, 95, 73, 78, 69, 84]⟩ := ⟨by kernel_rfl, by decide, by kernel_rfl, by kernel_rfl, by decide, by kernel_rfl, by kernel_rfl, by kernel_rfl, by kernel_rfl, by kernel_rfl, by kernel_rfl, by kernel_rfl, by kernel_rfl⟩
set_option maxRecDepth 100000 in
theorem fam18_2 : Fam18 2 10 ⟨#[65, 70, 95, 73, 78, 69, 84, 54]⟩ := ⟨by kernel_rfl, by decide, by kernel_rfl, by kernel_rfl, by decide, by kernel_rfl, by kernel_rfl, by kernel_rfl, by kernel_rfl, by kernel_rfl, by kernel_rfl, by kernel_rfl, by kernel_rfl⟩
set_option maxRecDepth 100000 in
theorem fam18_3 : Fam18 3 16 ⟨#[65, 70, 95, 78, 69, 84, 76, 73, 78, 75]⟩ := ⟨by kernel_rfl, by decide, by kernel_rfl, by kernel_rfl, by decide, by kernel_rfl, by kernel_rfl, by kernel_rfl, by kernel_rfl, by kernel_rfl, by kernel_rfl, by kernel_rfl, by kernel_rfl⟩
set_option maxRecDepth 100000 in
theorem fam18_4 : Fam18 4 17 ⟨#[65, 70, 95, 80, 65, 67, 75, 69, 84]⟩ := ⟨by kernel_rfl, by decide, by kernel_rfl, by kernel_rfl, by decide, by kernel_rfl, by kernel_rfl, by kernel_rfl, by kernel_rfl, by kernel_rfl, by kernel_rfl, by kernel_rfl, by kernel_rfl⟩
set_option maxRecDepth 100000 in
theorem fam18_5 : Fam18 5 31 ⟨#[65, 70, 95, 66, 76, 85, 69, 84, 79, 79, 84, 72]⟩ := ⟨by kernel_rfl, by decide, by kernel_rfl, by kernel_rfl, by decide, by kernel_rfl, by kernel_rfl, by kernel_rfl, by kernel_rfl, by kernel_rfl, by kernel_rfl, by kernel_rfl, by kernel_rfl⟩
set_option maxRecDepth 100000 in
theorem fam18_6 : Fam18 6 38 ⟨#[65, 70, 95, 65, 76, 71]⟩ := ⟨by kernel_rfl, by decide, by kernel_rfl, by kernel_rfl, by decide, by kernel_rfl, by kernel_rfl, by kernel_rfl, by kernel_rfl, by kernel_rfl, by kernel_rfl, by kernel_rfl, by kernel_rfl⟩
set_option maxRecDepth 100000 in
theorem fam18_7 : Fam18 7 40 ⟨#[65, 70, 95, 86, 83, 79, 67, 75]⟩ := ⟨by kernel_rfl, by decide, by kernel_rfl, by kernel_rfl, by decide, by kernel_rfl, by kernel_rfl, by kernel_rfl, by kernel_rfl, by kernel_rfl, by kernel_rfl, by kernel_rfl, by kernel_rfl⟩
theorem fam18_all : ∀ m, m < 8 → ∃ f wd, Fam18 m f wd
  | 0, _ => ⟨_, _, fam18_0⟩
  | 1, _ => ⟨_, _, fam18_1⟩
  | 2, _ => ⟨_, _, fam18_2⟩
  | 3, _ => ⟨_, _, fam18_3⟩
  | 4, _ => ⟨_, _, fam18_4⟩
  | 5, _ => ⟨_, _, fam18_5⟩
  | 6, _ => ⟨_, _, fam18_6⟩
  | 7, _ => ⟨_, _, fam18_7⟩
  | n + 8, h => absurd h (by omega)
end Go.Proofs.YtbjhleajhkofeaaDoor
