/- What the calls of the package calls have to return, as the chapter says it; the chapter's rows. -/
import Derived.Test.YtijnkhenplmghaaDoorCd
namespace Go.Proofs.YtijnkhenplmghaaDoor
open Go.RowKit
set_option linter.unusedVariables false
attribute [local go_sem ↓] Go.wp_at_zero Go.wp_at_succ

/-- What calls.Names, Known, Number, Name, All have to return, over what must lie in memory. -/
structure CallsC (G : World → Prop) : Prop where
  on : ∀ {w w' : World}, G w → Below w.heap.size w w' → G w'
  names : ∀ (w : World), G w → Calls Tryd.prog 9 #[] w fun e w' => ∃ q c, e = .returned (.slice q 40 c) ∧ w'.ownsRow w.heap.size 9 1 (.slice q 40 c) 40 (sV callN) ∧ Below w.heap.size w w'
  known : ∀ (s : ByteArray) (w : World), G w → s.size ≤ maxLen → Calls Tryd.prog 11 #[.string s] w fun e w' => e = .returned (.bool (knownR s)) ∧ Below w.heap.size w w'
  number : ∀ (a : Int) (s : ByteArray) (w : World), G w → -9223372036854775808 ≤ a → a ≤ 9223372036854775807 → s.size ≤ maxLen → Calls Tryd.prog 7 #[.int .i64 a, .string s] w fun e w' => e = .returned (.tuple #[.int .u32 (numR a s).1, .int .i64 (numR a s).2]) ∧ Below w.heap.size w w'
  name : ∀ (a nr : Int) (w : World), G w → -9223372036854775808 ≤ a → a ≤ 9223372036854775807 → 0 ≤ nr → nr < 4294967296 → Calls Tryd.prog 13 #[.int .i64 a, .int .u32 nr] w fun e w' => e = .returned (.string (namR a nr)) ∧ Below w.heap.size w w'
  all : ∀ (a : Int) (w : World), G w → -9223372036854775808 ≤ a → a ≤ 9223372036854775807 → Calls Tryd.prog 16 #[.int .i64 a] w fun e w' => ∃ q c, e = .returned (.slice q (allT a 40).length c) ∧ w'.ownsRow w.heap.size 37 2 (.slice q (allT a 40).length c) (allT a 40).length (esV (allT a 40)) ∧ Below w.heap.size w w'
theorem num9_0 : numR 0 ⟨#[114, 101, 97, 100]⟩ = (0, 0) := by kernel_rfl
theorem num9_1 : numR 2 ⟨#[114, 101, 97, 100]⟩ = (1073741824, 0) := by kernel_rfl
theorem num9_2 : numR 2 ⟨#[115, 104, 109, 97, 116]⟩ = (0, 90) := by kernel_rfl
theorem num9_3 : numR 3 ⟨#[109, 109, 97, 112]⟩ = (0, 90) := by kernel_rfl
theorem nam9_0 : namR 5 57 = ⟨#[99, 108, 111, 115, 101]⟩ := by kernel_rfl
theorem nam9_1 : namR 0 57 = ⟨#[102, 111, 114, 107]⟩ := by kernel_rfl
theorem nam9_2 : namR 2 57 = ⟨#[]⟩ := by kernel_rfl
theorem kn9_0 : knownR ⟨#[119, 114, 105, 116, 101]⟩ = true := by kernel_rfl
theorem kn9_1 : knownR ⟨#[87, 114, 105, 116, 101]⟩ = false := by kernel_rfl
set_option maxRecDepth 100000 in
set_option maxHeartbeats 16000000 in
theorem awake9_any {G : World → Prop} (HC : CallsC G) (w : World) (hG : G w) : Calls Tryd.prog 15 #[] w fun e w' => e = .returned (.bool true) ∧ Below w.heap.size w w' := by
  have HON := Lib.hid (fun (w w' : World) => HC.on (w := w) (w' := w'))
  have HG := Lib.hid hG
  have U0 := Lib.hid (fun (W : World) (g : G W) => HC.number 0 ⟨#[114, 101, 97, 100]⟩ W g (by decide) (by decide) (by unfold maxLen; decide))
  rw [num9_0] at U0
  have U1 := Lib.hid (fun (W : World) (g : G W) => HC.number 2 ⟨#[114, 101, 97, 100]⟩ W g (by decide) (by decide) (by unfold maxLen; decide))
  rw [num9_1] at U1
  have U2 := Lib.hid (fun (W : World) (g : G W) => HC.number 2 ⟨#[115, 104, 109, 97, 116]⟩ W g (by decide) (by decide) (by unfold maxLen; decide))
  rw [num9_2] at U2
  have U3 := Lib.hid (fun (W : World) (g : G W) => HC.number 3 ⟨#[109, 109, 97, 112]⟩ W g (by decide) (by decide) (by unfold maxLen; decide))
  rw [num9_3] at U3
  have M0 := Lib.hid (fun (W : World) (g : G W) => HC.name 5 57 W g (by decide) (by decide) (by decide) (by decide))
  rw [nam9_0] at M0
  have M1 := Lib.hid (fun (W : World) (g : G W) => HC.name 0 57 W g (by decide) (by decide) (by decide) (by decide))
  rw [nam9_1] at M1
  have M2 := Lib.hid (fun (W : World) (g : G W) => HC.name 2 57 W g (by decide) (by decide) (by decide) (by decide))
  rw [nam9_2] at M2
  have K0 := Lib.hid (fun (W : World) (g : G W) => HC.known ⟨#[119, 114, 105, 116, 101]⟩ W g (by unfold maxLen; decide))
  rw [kn9_0] at K0
  have K1 := Lib.hid (fun (W : World) (g : G W) => HC.known ⟨#[87, 114, 105, 116, 101]⟩ W g (by unfold maxLen; decide))
  rw [kn9_1] at K1
  clear HC hG
  go_enter Tryd.func15, Tryd.ntmps15
  go_wp2_with (first
    | (go_at_call 7; ((with_reducible refine (U0.out _ HG.out).mono ?_); rintro e v1 ⟨rfl, p1⟩); have G1 := HON.out _ _ HG.out p1; have B1 := p1)
    | (go_at_call 7; ((with_reducible refine (U1.out _ G1).mono ?_); rintro e v2 ⟨rfl, p2⟩); have G2 := HON.out _ _ G1 p2; have B2 := B1.trans (p2.mono B1.size))
    | (go_at_call 7; ((with_reducible refine (U2.out _ G2).mono ?_); rintro e v3 ⟨rfl, p3⟩); have G3 := HON.out _ _ G2 p3; have B3 := B2.trans (p3.mono B2.size))
    | (go_at_call 7; ((with_reducible refine (U3.out _ G3).mono ?_); rintro e v4 ⟨rfl, p4⟩); have G4 := HON.out _ _ G3 p4; have B4 := B3.trans (p4.mono B3.size))
    | (go_at_call 13; ((with_reducible refine (M0.out _ G4).mono ?_); rintro e v5 ⟨rfl, p5⟩); have G5 := HON.out _ _ G4 p5; have B5 := B4.trans (p5.mono B4.size))
    | (go_at_call 13; ((with_reducible refine (M1.out _ G5).mono ?_); rintro e v6 ⟨rfl, p6⟩); have G6 := HON.out _ _ G5 p6; have B6 := B5.trans (p6.mono B5.size))
    | (go_at_call 13; ((with_reducible refine (M2.out _ G6).mono ?_); rintro e v7 ⟨rfl, p7⟩); have G7 := HON.out _ _ G6 p7; have B7 := B6.trans (p7.mono B6.size))
    | (go_at_call 11; ((with_reducible refine (K0.out _ G7).mono ?_); rintro e v8 ⟨rfl, p8⟩); have G8 := HON.out _ _ G7 p8; have B8 := B7.trans (p8.mono B7.size))
    | (go_at_call 11; ((with_reducible refine (K1.out _ G8).mono ?_); rintro e v9 ⟨rfl, p9⟩); have G9 := HON.out _ _ G8 p9; have B9 := B8.trans (p9.mono B8.size)))
  go_ret
  exact ⟨rfl, B9⟩
end Go.Proofs.YtijnkhenplmghaaDoor
