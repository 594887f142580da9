/- What the calls of the package names have to return, as the chapter says it; the chapter's rows. -/
import Derived.Test.YtnjbmccimdlcmaaDoorJd
namespace Go.Proofs.YtnjbmccimdlcmaaDoor
open Go.RowKit
set_option linter.unusedVariables false
set_option linter.unusedSimpArgs false
attribute [local go_sem ↓] Go.wp_at_zero Go.wp_at_succ

def errE (o : Option Nat) (e : Int) : Int := if o.isSome = true then 0 else e
def nmS (o : Option ByteArray) : ByteArray := o.getD ⟨#[]⟩
/-- What names.Errno and so on have to return, over what must lie in memory. -/
structure NamesC (G : World → Prop) : Prop where
  on : ∀ {w w' : World}, G w → Below w.heap.size w w' → G w'
  errno : ∀ (s : ByteArray) (w : World), G w → s.size ≤ maxLen → Calls Tryd.prog 7 #[.string s] w fun e w' => e = .returned (.tuple #[.int .u32 ((errnoR s).getD 0 : Nat), .int .i64 (errE (errnoR s) 160)]) ∧ Below w.heap.size w w'
  family : ∀ (s : ByteArray) (w : World), G w → s.size ≤ maxLen → Calls Tryd.prog 8 #[.string s] w fun e w' => e = .returned (.tuple #[.int .u32 ((findR famT s).getD 0 : Nat), .int .i64 (errE (findR famT s) 180)]) ∧ Below w.heap.size w w'
  space : ∀ (s : ByteArray) (w : World), G w → s.size ≤ maxLen → Calls Tryd.prog 9 #[.string s] w fun e w' => e = .returned (.tuple #[.int .u64 ((findR spcT s).getD 0 : Nat), .int .i64 (errE (findR spcT s) 181)]) ∧ Below w.heap.size w w'
  spaces : ∀ (w : World), G w → Calls Tryd.prog 17 #[] w fun e w' => e = .returned (.int .u64 allN) ∧ Below w.heap.size w w'
  flags : ∀ (x : Nat) (w : World), G w → x < 18446744073709551616 → Calls Tryd.prog 15 #[.int .u64 x] w fun e w' => ∃ q c, e = .returned (.slice q (flagsR x).length c) ∧ w'.ownsRow w.heap.size 26 1 (.slice q (flagsR x).length c) (flagsR x).length (u64N (flagsR x)) ∧ Below w.heap.size w w'
  errnoName : ∀ (n : Nat) (w : World), G w → n < 4294967296 → Calls Tryd.prog 19 #[.int .u32 n] w fun e w' => e = .returned (.string (errnoNameR n)) ∧ Below w.heap.size w w'
  familyName : ∀ (n : Nat) (w : World), G w → n < 4294967296 → Calls Tryd.prog 21 #[.int .u32 n] w fun e w' => e = .returned (.string (nmS (nameR famT n))) ∧ Below w.heap.size w w'
  spaceName : ∀ (x : Nat) (w : World), G w → x < 18446744073709551616 → Calls Tryd.prog 23 #[.int .u64 x] w fun e w' => e = .returned (.string (nmS (nameR spcT x))) ∧ Below w.heap.size w w'
theorem u64N_get {l : List Nat} {k x : Nat} (h : l[k]? = some x) : (u64N l)[k]? = some (.int .u64 (x : Nat)) := by
  unfold u64N; rw [List.getElem?_map, h]; rfl
theorem er10_0 : (((errnoR ⟨#[69, 80, 69, 82, 77]⟩).getD 0 : Nat) : Int) = 1 ∧ errE (errnoR ⟨#[69, 80, 69, 82, 77]⟩) 160 = 0 := by constructor <;> kernel_rfl
theorem er10_1 : (((errnoR ⟨#[52, 48, 57, 53]⟩).getD 0 : Nat) : Int) = 4095 ∧ errE (errnoR ⟨#[52, 48, 57, 53]⟩) 160 = 0 := by constructor <;> kernel_rfl
theorem er10_2 : (((errnoR ⟨#[48]⟩).getD 0 : Nat) : Int) = 0 ∧ errE (errnoR ⟨#[48]⟩) 160 = 0 := by constructor <;> kernel_rfl
theorem er10_3 : (((errnoR ⟨#[52, 48, 57, 54]⟩).getD 0 : Nat) : Int) = 0 ∧ errE (errnoR ⟨#[52, 48, 57, 54]⟩) 160 = 160 := by constructor <;> kernel_rfl
theorem er10_4 : (((errnoR ⟨#[48, 48, 48, 48, 49]⟩).getD 0 : Nat) : Int) = 0 ∧ errE (errnoR ⟨#[48, 48, 48, 48, 49]⟩) 160 = 160 := by constructor <;> kernel_rfl
theorem er10_5 : (((errnoR ⟨#[101, 112, 101, 114, 109]⟩).getD 0 : Nat) : Int) = 0 ∧ errE (errnoR ⟨#[101, 112, 101, 114, 109]⟩) 160 = 160 := by constructor <;> kernel_rfl
theorem fa10_0 : (((findR famT ⟨#[65, 70, 95, 73, 78, 69, 84, 54]⟩).getD 0 : Nat) : Int) = 10 ∧ errE (findR famT ⟨#[65, 70, 95, 73, 78, 69, 84, 54]⟩) 180 = 0 := by constructor <;> kernel_rfl
theorem fa10_1 : (((findR famT ⟨#[73, 78, 69, 84, 54]⟩).getD 0 : Nat) : Int) = 0 ∧ errE (findR famT ⟨#[73, 78, 69, 84, 54]⟩) 180 = 180 := by constructor <;> kernel_rfl
theorem sp10_0 : (((findR spcT ⟨#[110, 101, 116]⟩).getD 0 : Nat) : Int) = 1073741824 ∧ errE (findR spcT ⟨#[110, 101, 116]⟩) 181 = 0 := by constructor <;> kernel_rfl
theorem sp10_1 : (((findR spcT ⟨#[78, 101, 116]⟩).getD 0 : Nat) : Int) = 0 ∧ errE (findR spcT ⟨#[78, 101, 116]⟩) 181 = 181 := by constructor <;> kernel_rfl
theorem en10_0 : errnoNameR 38 = ⟨#[69, 78, 79, 83, 89, 83]⟩ := by kernel_rfl
theorem en10_1 : errnoNameR 39 = ⟨#[51, 57]⟩ := by kernel_rfl
theorem en10_2 : errnoNameR 4096 = ⟨#[]⟩ := by kernel_rfl
theorem fl10 : flagsR 131201 = [128, 131072] := by kernel_rfl
set_option maxRecDepth 100000 in
set_option maxHeartbeats 16000000 in
theorem awake10_any {G : World → Prop} (HC : NamesC G) (w : World) (hG : G w) : Calls Tryd.prog 14 #[] w fun e w' => e = .returned (.bool true) ∧ Below w.heap.size w w' := by
  have HON := Lib.hid (fun (w w' : World) => HC.on (w := w) (w' := w'))
  have HG := Lib.hid hG
  have U0 := Lib.hid (fun (W : World) (g : G W) => HC.errno ⟨#[69, 80, 69, 82, 77]⟩ W g (by unfold maxLen; decide))
  rw [er10_0.1, er10_0.2] at U0
  have U1 := Lib.hid (fun (W : World) (g : G W) => HC.errno ⟨#[52, 48, 57, 53]⟩ W g (by unfold maxLen; decide))
  rw [er10_1.1, er10_1.2] at U1
  have U2 := Lib.hid (fun (W : World) (g : G W) => HC.errno ⟨#[48]⟩ W g (by unfold maxLen; decide))
  rw [er10_2.1, er10_2.2] at U2
  have U3 := Lib.hid (fun (W : World) (g : G W) => HC.errno ⟨#[52, 48, 57, 54]⟩ W g (by unfold maxLen; decide))
  rw [er10_3.1, er10_3.2] at U3
  have U4 := Lib.hid (fun (W : World) (g : G W) => HC.errno ⟨#[48, 48, 48, 48, 49]⟩ W g (by unfold maxLen; decide))
  rw [er10_4.1, er10_4.2] at U4
  have U5 := Lib.hid (fun (W : World) (g : G W) => HC.errno ⟨#[101, 112, 101, 114, 109]⟩ W g (by unfold maxLen; decide))
  rw [er10_5.1, er10_5.2] at U5
  have V0 := Lib.hid (fun (W : World) (g : G W) => HC.family ⟨#[65, 70, 95, 73, 78, 69, 84, 54]⟩ W g (by unfold maxLen; decide))
  rw [fa10_0.1, fa10_0.2] at V0
  have V1 := Lib.hid (fun (W : World) (g : G W) => HC.family ⟨#[73, 78, 69, 84, 54]⟩ W g (by unfold maxLen; decide))
  rw [fa10_1.1, fa10_1.2] at V1
  have X0 := Lib.hid (fun (W : World) (g : G W) => HC.space ⟨#[110, 101, 116]⟩ W g (by unfold maxLen; decide))
  rw [sp10_0.1, sp10_0.2] at X0
  have X1 := Lib.hid (fun (W : World) (g : G W) => HC.space ⟨#[78, 101, 116]⟩ W g (by unfold maxLen; decide))
  rw [sp10_1.1, sp10_1.2] at X1
  have M0 := Lib.hid (fun (W : World) (g : G W) => HC.errnoName 38 W g (by decide))
  rw [en10_0, show ((38 : Nat) : Int) = 38 from rfl] at M0
  have M1 := Lib.hid (fun (W : World) (g : G W) => HC.errnoName 39 W g (by decide))
  rw [en10_1, show ((39 : Nat) : Int) = 39 from rfl] at M1
  have M2 := Lib.hid (fun (W : World) (g : G W) => HC.errnoName 4096 W g (by decide))
  rw [en10_2, show ((4096 : Nat) : Int) = 4096 from rfl] at M2
  have L0 := Lib.hid (fun (W : World) (g : G W) => HC.flags 131201 W g (by decide))
  rw [fl10, show ((131201 : Nat) : Int) = 131201 from rfl] at L0
  clear HC hG
  go_enter Tryd.func14, Tryd.ntmps14
  go_wp2_with (first
    | (go_at_call 7; ((with_reducible refine (U0.out _ HG.out).mono ?_); rintro e v1 ⟨rfl, p1⟩); have G1 := HON.out _ _ HG.out p1; have B1 := p1)
    | (go_at_call 7; ((with_reducible refine (U1.out _ G1).mono ?_); rintro e v2 ⟨rfl, p2⟩); have G2 := HON.out _ _ G1 p2; have B2 := B1.trans (p2.mono B1.size))
    | (go_at_call 7; ((with_reducible refine (U2.out _ G2).mono ?_); rintro e v3 ⟨rfl, p3⟩); have G3 := HON.out _ _ G2 p3; have B3 := B2.trans (p3.mono B2.size))
    | (go_at_call 7; ((with_reducible refine (U3.out _ G3).mono ?_); rintro e v4 ⟨rfl, p4⟩); have G4 := HON.out _ _ G3 p4; have B4 := B3.trans (p4.mono B3.size))
    | (go_at_call 7; ((with_reducible refine (U4.out _ G4).mono ?_); rintro e v5 ⟨rfl, p5⟩); have G5 := HON.out _ _ G4 p5; have B5 := B4.trans (p5.mono B4.size))
    | (go_at_call 7; ((with_reducible refine (U5.out _ G5).mono ?_); rintro e v6 ⟨rfl, p6⟩); have G6 := HON.out _ _ G5 p6; have B6 := B5.trans (p6.mono B5.size))
    | (go_at_call 8; ((with_reducible refine (V0.out _ G6).mono ?_); rintro e v7 ⟨rfl, p7⟩); have G7 := HON.out _ _ G6 p7; have B7 := B6.trans (p7.mono B6.size))
    | (go_at_call 8; ((with_reducible refine (V1.out _ G7).mono ?_); rintro e v8 ⟨rfl, p8⟩); have G8 := HON.out _ _ G7 p8; have B8 := B7.trans (p8.mono B7.size))
    | (go_at_call 9; ((with_reducible refine (X0.out _ G8).mono ?_); rintro e v9 ⟨rfl, p9⟩); have G9 := HON.out _ _ G8 p9; have B9 := B8.trans (p9.mono B8.size))
    | (go_at_call 9; ((with_reducible refine (X1.out _ G9).mono ?_); rintro e v10 ⟨rfl, p10⟩); have G10 := HON.out _ _ G9 p10; have B10 := B9.trans (p10.mono B9.size))
    | (go_at_call 15; ((with_reducible refine (L0.out _ G10).mono ?_); rintro e v11 ⟨q, c, rfl, o11, p11⟩); obtain ⟨g1, d1, e1, f1, h1⟩ := o11.form (by decide); injection e1 with e11 e12 e13; subst e11 e13; clear e12 h1; have c110 := (o11.cellAt 0 (by decide)).trans (u64N_get (l := [128, 131072]) (k := 0) rfl); have c111 := (o11.cellAt 1 (by decide)).trans (u64N_get (l := [128, 131072]) (k := 1) rfl); have G11 := HON.out _ _ G10 p11; have B11 := B10.trans (p11.mono B10.size))
    | (go_at_call 19; ((with_reducible refine (M0.out _ G11).mono ?_); rintro e v12 ⟨rfl, p12⟩); have G12 := HON.out _ _ G11 p12; have B12 := B11.trans (p12.mono B11.size))
    | (go_at_call 19; ((with_reducible refine (M1.out _ G12).mono ?_); rintro e v13 ⟨rfl, p13⟩); have G13 := HON.out _ _ G12 p13; have B13 := B12.trans (p13.mono B12.size))
    | (go_at_call 19; ((with_reducible refine (M2.out _ G13).mono ?_); rintro e v14 ⟨rfl, p14⟩); have G14 := HON.out _ _ G13 p14; have B14 := B13.trans (p14.mono B13.size)))
  go_ret
  exact ⟨by first | rfl | simp, B14⟩
end Go.Proofs.YtnjbmccimdlcmaaDoor
