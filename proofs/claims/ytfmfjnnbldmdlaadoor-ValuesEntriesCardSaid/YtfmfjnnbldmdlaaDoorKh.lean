/- What the calls of the package values have to return, as the chapter says it; the chapter's rows. -/
import Derived.Test.YtfmfjnnbldmdlaaDoorKg
namespace Go.Proofs.YtfmfjnnbldmdlaaDoor
open Go.RowKit
set_option linter.unusedVariables false
set_option linter.unusedSimpArgs false
attribute [local go_sem ↓] Go.wp_at_zero Go.wp_at_succ

/-- What values.Words and so on have to return, over what must lie in memory. -/
structure ValuesC (G : World → Prop) : Prop where
  on : ∀ {w w' : World}, G w → Below w.heap.size w w' → G w'
  words : ∀ (s : ByteArray) (w : World), G w → s.size ≤ 1000000 → Calls Tryd.prog 7 #[.string s] w fun e w' => ∃ q c, e = .returned (.slice q (wdL s.data.toList).length c) ∧ WdsAt w' q (wdL s.data.toList) ∧ Below w.heap.size w w'
  bool : ∀ (s : ByteArray) (w : World), G w → s.size ≤ 1000000 → Calls Tryd.prog 9 #[.string s] w fun e w' => e = .returned (.tuple #[.bool ((boolR s).getD false), .int .i64 (boolE s)]) ∧ Below w.heap.size w w'
  read : ∀ (s : ByteArray) (w : World), G w → s.size ≤ 1000000 → Calls Tryd.prog 14 #[.string s] w fun e w' => e = .returned (.tuple #[entV (rdE s).1, .int .i64 (rdE s).2]) ∧ Below w.heap.size w w'
  turned : ∀ (s : ByteArray) (w : World), G w → s.size ≤ 1000000 → Calls Tryd.prog 11 #[.string s] w fun e w' => e = .returned (.tuple #[.string (turnR s).1, .bool (turnR s).2]) ∧ Below w.heap.size w w'
  text : ∀ (e : Ent) (w : World), G w → e.nm.size ≤ 1000000 → e.act < 4294967296 → Calls Tryd.prog 17 #[entV e] w fun r w' => r = .returned (.string (textR e)) ∧ Below w.heap.size w w'
/-- names.ErrnoName, as stage 10 has it. -/
abbrev NameC15 (G : World → Prop) : Prop := ∀ (n : Nat) (w : World), G w → n < 4294967296 → Calls Tryd.prog 19 #[.int .u32 n] w fun e w' => e = .returned (.string (errnoNameR n)) ∧ Below w.heap.size w w'
set_option maxHeartbeats 1600000 in
theorem reads_ok {G : World → Prop} (HC : ValuesC G) (s : ByteArray) (e : Ent) (f : Int) (he : rdE s = (e, f)) (hs : s.size ≤ 1000000) (w : World) (hG : G w) : Calls Tryd.prog 23 #[.string s] w fun r w' => r = .returned (.tuple #[.int .u32 (if f = 0 then (e.act : Int) else 7), .int .i64 f]) ∧ Below w.heap.size w w' := by
  have HR := Lib.hid (HC.read s w hG hs)
  rw [he] at HR
  obtain ⟨nm, act, has⟩ := e
  unfold entV at HR
  simp only at HR ⊢
  obtain ⟨x, hx⟩ : ∃ x, x = ((act : Nat) : Int) := ⟨_, rfl⟩
  rw [← hx] at HR ⊢
  clear HC hG he hs hx
  by_cases h0 : f = 0
  · subst h0
    go_enter Tryd.func23, Tryd.ntmps23
    go_wp2_with (go_at_call 14; ((with_reducible refine (HR.out).mono ?_); rintro e w1 ⟨rfl, b1⟩))
    go_ret2
    exact ⟨rfl, b1.alloc b1.size _⟩
  · rw [if_neg h0]
    have e1 : (f == 0) = false := beq_eq_false_iff_ne.2 h0
    go_enter Tryd.func23, Tryd.ntmps23
    go_wp2_with (go_at_call 14; ((with_reducible refine (HR.out).mono ?_); rintro e w1 ⟨rfl, b1⟩))
    go_ret2
    exact ⟨rfl, b1.alloc b1.size _⟩
theorem wd15 : wdL (⟨#[32, 97, 32, 32, 98]⟩ : ByteArray).data.toList = [[97], [98]] := by kernel_rfl
theorem bo15_0 : (boolR ⟨#[111, 110]⟩).getD false = true ∧ boolE ⟨#[111, 110]⟩ = 0 := by constructor <;> kernel_rfl
theorem bo15_1 : (boolR ⟨#[48]⟩).getD false = false ∧ boolE ⟨#[48]⟩ = 0 := by constructor <;> kernel_rfl
theorem bo15_2 : (boolR ⟨#[89, 101, 115]⟩).getD false = false ∧ boolE ⟨#[89, 101, 115]⟩ = 150 := by constructor <;> kernel_rfl
theorem rd15_0 : rdE ⟨#[114, 101, 97, 100]⟩ = (⟨⟨#[114, 101, 97, 100]⟩, 0, false⟩, 0) := by kernel_rfl
theorem rd15_1 : rdE ⟨#[114, 101, 97, 100, 58, 69, 80, 69, 82, 77]⟩ = (⟨⟨#[114, 101, 97, 100]⟩, 327681, true⟩, 0) := by kernel_rfl
theorem rd15_2 : rdE ⟨#[114, 101, 97, 100, 58, 107, 105, 108, 108]⟩ = (⟨⟨#[114, 101, 97, 100]⟩, 2147483648, true⟩, 0) := by kernel_rfl
theorem rd15_3 : rdE ⟨#[58, 53]⟩ = (e0, 161) := by kernel_rfl
theorem rd15_4 : rdE ⟨#[114, 101, 97, 100, 58, 120]⟩ = (e0, 160) := by kernel_rfl
theorem rd15_5 : rdE ⟨#[97, 58, 53, 58, 54]⟩ = (e0, 160) := by kernel_rfl
theorem tu15_0 : turnR ⟨#[126, 97, 32, 98]⟩ = (⟨#[97, 32, 98]⟩, true) := by kernel_rfl
theorem tu15_1 : turnR ⟨#[32, 126, 97]⟩ = (⟨#[32, 126, 97]⟩, false) := by kernel_rfl
set_option maxRecDepth 100000 in
set_option maxHeartbeats 16000000 in
theorem awake15_any {G : World → Prop} (HC : ValuesC G) (w : World) (hG : G w) : Calls Tryd.prog 13 #[] w fun e w' => e = .returned (.bool true) ∧ Below w.heap.size w w' := by
  have HON := Lib.hid (fun (w w' : World) => HC.on (w := w) (w' := w'))
  have HG := Lib.hid hG
  have W0 := Lib.hid (fun (W : World) (g : G W) => HC.words ⟨#[32, 97, 32, 32, 98]⟩ W g (by decide))
  rw [wd15] at W0
  have U0 := Lib.hid (fun (W : World) (g : G W) => HC.bool ⟨#[111, 110]⟩ W g (by decide))
  rw [bo15_0.1, bo15_0.2] at U0
  have U1 := Lib.hid (fun (W : World) (g : G W) => HC.bool ⟨#[48]⟩ W g (by decide))
  rw [bo15_1.1, bo15_1.2] at U1
  have U2 := Lib.hid (fun (W : World) (g : G W) => HC.bool ⟨#[89, 101, 115]⟩ W g (by decide))
  rw [bo15_2.1, bo15_2.2] at U2
  have X0 := Lib.hid (fun (W : World) (g : G W) => reads_ok HC ⟨#[114, 101, 97, 100]⟩ ⟨⟨#[114, 101, 97, 100]⟩, 0, false⟩ 0 rd15_0 (by decide) W g)
  rw [if_pos rfl, show ((((⟨⟨#[114, 101, 97, 100]⟩, 0, false⟩ : Ent).act) : Nat) : Int) = 0 from rfl] at X0
  have X1 := Lib.hid (fun (W : World) (g : G W) => reads_ok HC ⟨#[114, 101, 97, 100, 58, 69, 80, 69, 82, 77]⟩ ⟨⟨#[114, 101, 97, 100]⟩, 327681, true⟩ 0 rd15_1 (by decide) W g)
  rw [if_pos rfl, show ((((⟨⟨#[114, 101, 97, 100]⟩, 327681, true⟩ : Ent).act) : Nat) : Int) = 327681 from rfl] at X1
  have X2 := Lib.hid (fun (W : World) (g : G W) => reads_ok HC ⟨#[114, 101, 97, 100, 58, 107, 105, 108, 108]⟩ ⟨⟨#[114, 101, 97, 100]⟩, 2147483648, true⟩ 0 rd15_2 (by decide) W g)
  rw [if_pos rfl, show ((((⟨⟨#[114, 101, 97, 100]⟩, 2147483648, true⟩ : Ent).act) : Nat) : Int) = 2147483648 from rfl] at X2
  have X3 := Lib.hid (fun (W : World) (g : G W) => reads_ok HC ⟨#[58, 53]⟩ e0 161 rd15_3 (by decide) W g)
  rw [if_neg (by decide)] at X3
  have X4 := Lib.hid (fun (W : World) (g : G W) => reads_ok HC ⟨#[114, 101, 97, 100, 58, 120]⟩ e0 160 rd15_4 (by decide) W g)
  rw [if_neg (by decide)] at X4
  have X5 := Lib.hid (fun (W : World) (g : G W) => reads_ok HC ⟨#[97, 58, 53, 58, 54]⟩ e0 160 rd15_5 (by decide) W g)
  rw [if_neg (by decide)] at X5
  have Y0 := Lib.hid (fun (W : World) (g : G W) => HC.turned ⟨#[126, 97, 32, 98]⟩ W g (by decide))
  rw [tu15_0] at Y0
  have Y1 := Lib.hid (fun (W : World) (g : G W) => HC.turned ⟨#[32, 126, 97]⟩ W g (by decide))
  rw [tu15_1] at Y1
  clear HC hG
  go_enter Tryd.func13, Tryd.ntmps13
  go_wp2_with (first
    | (go_at_call 7; ((with_reducible refine (W0.out _ HG.out).mono ?_); rintro e v1 ⟨q, c, rfl, o, p1⟩); have G1 := HON.out _ _ HG.out p1; have B1 := p1)
    | (go_at_call 9; ((with_reducible refine (U0.out _ G1).mono ?_); rintro e v2 ⟨rfl, p2⟩); have G2 := HON.out _ _ G1 p2; have B2 := B1.trans (p2.mono B1.size))
    | (go_at_call 9; ((with_reducible refine (U1.out _ G2).mono ?_); rintro e v3 ⟨rfl, p3⟩); have G3 := HON.out _ _ G2 p3; have B3 := B2.trans (p3.mono B2.size))
    | (go_at_call 9; ((with_reducible refine (U2.out _ G3).mono ?_); rintro e v4 ⟨rfl, p4⟩); have G4 := HON.out _ _ G3 p4; have B4 := B3.trans (p4.mono B3.size))
    | (go_at_call 23; ((with_reducible refine (X0.out _ G4).mono ?_); rintro e v5 ⟨rfl, p5⟩); have G5 := HON.out _ _ G4 p5; have B5 := B4.trans (p5.mono B4.size))
    | (go_at_call 23; ((with_reducible refine (X1.out _ G5).mono ?_); rintro e v6 ⟨rfl, p6⟩); have G6 := HON.out _ _ G5 p6; have B6 := B5.trans (p6.mono B5.size))
    | (go_at_call 23; ((with_reducible refine (X2.out _ G6).mono ?_); rintro e v7 ⟨rfl, p7⟩); have G7 := HON.out _ _ G6 p7; have B7 := B6.trans (p7.mono B6.size))
    | (go_at_call 23; ((with_reducible refine (X3.out _ G7).mono ?_); rintro e v8 ⟨rfl, p8⟩); have G8 := HON.out _ _ G7 p8; have B8 := B7.trans (p8.mono B7.size))
    | (go_at_call 23; ((with_reducible refine (X4.out _ G8).mono ?_); rintro e v9 ⟨rfl, p9⟩); have G9 := HON.out _ _ G8 p9; have B9 := B8.trans (p9.mono B8.size))
    | (go_at_call 23; ((with_reducible refine (X5.out _ G9).mono ?_); rintro e v10 ⟨rfl, p10⟩); have G10 := HON.out _ _ G9 p10; have B10 := B9.trans (p10.mono B9.size))
    | (go_at_call 11; ((with_reducible refine (Y0.out _ G10).mono ?_); rintro e v11 ⟨rfl, p11⟩); have G11 := HON.out _ _ G10 p11; have B11 := B10.trans (p11.mono B10.size))
    | (go_at_call 11; ((with_reducible refine (Y1.out _ G11).mono ?_); rintro e v12 ⟨rfl, p12⟩); obtain ⟨ga, oa, ea, ca0⟩ := o 0 _ rfl; obtain ⟨gb, ob, eb, cb0⟩ := o 1 _ rfl; subst ea; obtain ⟨rfl, rfl⟩ : ga = gb ∧ oa = ob := (by injection eb with eb; injection eb with e1 e2; exact ⟨e1, e2⟩); have BB := (thn (thn (thn (thn (thn (thn (thn (thn (thn (thn p2 p3) p4) p5) p6) p7) p8) p9) p10) p11) p12); have ca := (show v12.cell? ⟨ga, oa, none⟩ = some (.string ⟨#[97]⟩) from (BB.cell (World.block_lt_of_cell? v1 _ ca0)).trans ca0); have cb := (show v12.cell? ⟨ga, oa + 1, none⟩ = some (.string ⟨#[98]⟩) from (BB.cell (World.block_lt_of_cell? v1 _ cb0)).trans cb0); have G12 := HON.out _ _ G11 p12; have B12 := B11.trans (p12.mono B11.size)))
  go_ret
  exact ⟨by first | rfl | simp, B12⟩
end Go.Proofs.YtfmfjnnbldmdlaaDoor
