/- The chapter's rows, over what the calls of the package arch have to return. -/
import Derived.Test.YtjfoipjifjblmaaDoorBb
namespace Go.Proofs.YtjfoipjifjblmaaDoor
open Go.ChangeShapes Go.WideShapes Go.ChangeAt Go.RowKit
open Go.ChangeMaps (open_string shut_string)
set_option linter.unusedVariables false
attribute [local go_sem ↓] Go.wp_at_zero Go.wp_at_succ
theorem par8_0 : parR ⟨#[120, 51, 50]⟩ = (2, 0) := by kernel_rfl
theorem par8_1 : parR ⟨#[110, 97, 116, 105, 118, 101]⟩ = (0, 0) := by kernel_rfl
theorem par8_2 : parR ⟨#[88, 56, 54]⟩ = (0, 80) := by kernel_rfl
theorem of8_0 : ofR 3221225534 5 = (0, true) := by kernel_rfl
theorem of8_1 : ofR 3221225534 1073741829 = (2, true) := by kernel_rfl
theorem of8_2 : ofR 1073741864 1073741829 = (3, true) := by kernel_rfl
theorem of8_3 : ofR 7 5 = (0, false) := by kernel_rfl
theorem nm8_0 : nameR 0 = ⟨#[120, 56, 54, 45, 54, 52]⟩ := by kernel_rfl
theorem nm8_1 : nameR 5 = ⟨#[114, 105, 115, 99, 118, 54, 52]⟩ := by kernel_rfl
theorem nm8_2 : nameR 6 = ⟨#[]⟩ := by kernel_rfl
set_option maxRecDepth 100000 in
set_option maxHeartbeats 16000000 in
theorem awake8_any {G : World → Prop} (HC : ArchC G) (w : World) (hG : G w) : Calls Tryd.prog 12 #[] w fun e w' => e = .returned (.bool true) ∧ Below w.heap.size w w' := by
  have HON := Lib.hid (fun (w w' : World) => HC.on (w := w) (w' := w'))
  have HG := Lib.hid hG
  have P0 := Lib.hid (fun (W : World) (g : G W) => HC.parse ⟨#[120, 51, 50]⟩ W g (by unfold maxLen; decide))
  rw [par8_0] at P0
  have P1 := Lib.hid (fun (W : World) (g : G W) => HC.parse ⟨#[110, 97, 116, 105, 118, 101]⟩ W g (by unfold maxLen; decide))
  rw [par8_1] at P1
  have P2 := Lib.hid (fun (W : World) (g : G W) => HC.parse ⟨#[88, 56, 54]⟩ W g (by unfold maxLen; decide))
  rw [par8_2] at P2
  have O0 := Lib.hid (fun (W : World) (g : G W) => HC.of_ 3221225534 5 W g (by decide) (by decide) (by decide) (by decide))
  rw [of8_0] at O0
  have O1 := Lib.hid (fun (W : World) (g : G W) => HC.of_ 3221225534 1073741829 W g (by decide) (by decide) (by decide) (by decide))
  rw [of8_1] at O1
  have O2 := Lib.hid (fun (W : World) (g : G W) => HC.of_ 1073741864 1073741829 W g (by decide) (by decide) (by decide) (by decide))
  rw [of8_2] at O2
  have O3 := Lib.hid (fun (W : World) (g : G W) => HC.of_ 7 5 W g (by decide) (by decide) (by decide) (by decide))
  rw [of8_3] at O3
  have N0 := Lib.hid (fun (W : World) (g : G W) => HC.name 0 W g (by decide) (by decide))
  rw [nm8_0] at N0
  have N1 := Lib.hid (fun (W : World) (g : G W) => HC.name 5 W g (by decide) (by decide))
  rw [nm8_1] at N1
  have N2 := Lib.hid (fun (W : World) (g : G W) => HC.name 6 W g (by decide) (by decide))
  rw [nm8_2] at N2
  clear HC hG
  go_enter Tryd.func12, Tryd.ntmps12
  go_wp2_with (first
    | (go_at_call 9; ((with_reducible refine (P0.out _ HG.out).mono ?_); rintro e v1 ⟨rfl, p1⟩); have G1 := HON.out _ _ HG.out p1; have B1 := p1)
    | (go_at_call 9; ((with_reducible refine (P1.out _ G1).mono ?_); rintro e v2 ⟨rfl, p2⟩); have G2 := HON.out _ _ G1 p2; have B2 := thn B1 p2)
    | (go_at_call 9; ((with_reducible refine (P2.out _ G2).mono ?_); rintro e v3 ⟨rfl, p3⟩); have G3 := HON.out _ _ G2 p3; have B3 := thn B2 p3)
    | (go_at_call 16; ((with_reducible refine (O0.out _ G3).mono ?_); rintro e v4 ⟨rfl, p4⟩); have G4 := HON.out _ _ G3 p4; have B4 := thn B3 p4)
    | (go_at_call 16; ((with_reducible refine (O1.out _ G4).mono ?_); rintro e v5 ⟨rfl, p5⟩); have G5 := HON.out _ _ G4 p5; have B5 := thn B4 p5)
    | (go_at_call 16; ((with_reducible refine (O2.out _ G5).mono ?_); rintro e v6 ⟨rfl, p6⟩); have G6 := HON.out _ _ G5 p6; have B6 := thn B5 p6)
    | (go_at_call 16; ((with_reducible refine (O3.out _ G6).mono ?_); rintro e v7 ⟨rfl, p7⟩); have G7 := HON.out _ _ G6 p7; have B7 := thn B6 p7)
    | (go_at_call 11; ((with_reducible refine (N0.out _ G7).mono ?_); rintro e v8 ⟨rfl, p8⟩); have G8 := HON.out _ _ G7 p8; have B8 := thn B7 p8)
    | (go_at_call 11; ((with_reducible refine (N1.out _ G8).mono ?_); rintro e v9 ⟨rfl, p9⟩); have G9 := HON.out _ _ G8 p9; have B9 := thn B8 p9)
    | (go_at_call 11; ((with_reducible refine (N2.out _ G9).mono ?_); rintro e v10 ⟨rfl, p10⟩); have G10 := HON.out _ _ G9 p10; have B10 := thn B9 p10))
  go_ret
  exact ⟨rfl, B10⟩
end Go.Proofs.YtjfoipjifjblmaaDoor
