/- The examples of the chapter on instructions, as the statements begin with them, and what two codes' names are: over what the calls of the package insn have to return. No condition. -/
import Derived.Test.YtekmbhjdacaphaaDoorIs
import Derived.Test.YtekmbhjdacaphaaDoorIh
import Derived.Test.YtekmbhjdacaphaaDoorWg
import Derived.Deep.RegionHeld3
import Derived.Deep.DrawnRows
namespace Go.Proofs.YtekmbhjdacaphaaDoor
open Go.RowKit
set_option linter.unusedVariables false
attribute [local go_sem ↓] Go.wp_at_zero Go.wp_at_succ

theorem iEx : (Ins.mk 21 1 2 3221225534).Ok := ⟨by decide, by decide, by decide, by decide, by decide, by decide, by decide, by decide⟩
theorem encEx : encL ⟨21, 1, 2, 3221225534⟩ = [21, 0, 1, 2, 62, 0, 0, 192] := by decide
theorem codeRet : codeV ⟨#[114, 101, 116]⟩ = 6 ∧ codeB ⟨#[114, 101, 116]⟩ = true := by decide +kernel
theorem codeMod : codeB ⟨#[109, 111, 100]⟩ = false := by decide +kernel
theorem name20 : (ofL allL 32).name = ⟨#[108, 100, 97, 98, 115]⟩ := by decide +kernel
theorem name87 : (ofL allL 135).name = ⟨#[116, 120, 97]⟩ := by decide +kernel
theorem name94 : (ofL allL 148).name = ⟨#[]⟩ := by decide +kernel
theorem bytes_refl (s : ByteArray) : (s.toList == s.toList) = true := by simp
theorem wx29 : withXB 29 = true := by
  unfold withXB
  refine decide_eq_true ⟨?_, ?_⟩
  · decide +kernel
  · have : (ofL allL 29).name = ⟨#[106, 101, 113, 120]⟩ := by decide +kernel
    rw [this, ByteArray.toList_eq]; rfl
theorem wx7 : withXB 7 = false := by
  unfold withXB
  refine decide_eq_false (fun h => ?_)
  have : ¬ ((ofL allL 7).cls = 3 ∨ (ofL allL 7).cls = 4) := by decide +kernel
  exact this h.1
theorem make7 (w : World) : (Instr.makeSlice 34 (.int .i64 7) (.int .i64 7)).run Tryd.prog w = .ok (.slice (some ⟨w.heap.size, 0, none⟩) 7 7) (w.alloc (.cells #[.int .u8 0, .int .u8 0, .int .u8 0, .int .u8 0, .int .u8 0, .int .u8 0, .int .u8 0] 5)) := by kernel_rfl
theorem aw2_parse7 (HC : InsnC) (w : World) : Calls Tryd.prog 18 #[.slice (some ⟨w.heap.size, 0, none⟩) 7 7] (w.alloc (.cells #[.int .u8 0, .int .u8 0, .int .u8 0, .int .u8 0, .int .u8 0, .int .u8 0, .int .u8 0] 5)) fun e w' =>
    e = .returned (.tuple #[.slice none 0 0, .int .i64 20]) ∧ Below w.heap.size w w' :=
  (HC.parseBad _ 7 7 _ (by decide) (by decide)).mono fun _ _ ⟨h1, h2⟩ => ⟨h1, ((Below.refl _ _).alloc (Nat.le_refl _) _).trans (h2.mono (by simp))⟩
theorem aw2_parse0 (HC : InsnC) (w : World) : Calls Tryd.prog 18 #[.slice none 0 0] w fun e w' => ∃ q d, e = .returned (.tuple #[.slice q 0 d, .int .i64 0]) ∧ Below w.heap.size w w' :=
  (HC.parse none 0 0 0 [] w rfl Byt.nil rfl (by decide) (by decide) (by unfold maxLen; omega) (fun _ => rfl) (Rd.nil _ _ _)).mono fun _ _ ⟨q, d, h1, _, h3⟩ => ⟨q, d, h1, h3⟩
theorem aw2_encode (HC : InsnC) (w : World) : Calls Tryd.prog 22 #[.agg #[.int .u16 21, .int .u8 1, .int .u8 2, .int .u32 3221225534]] w fun e w' => ∃ p d, e = .returned (.slice p 8 d) ∧ Rd w' w'.heap.size p [21, 0, 1, 2, 62, 0, 0, 192] ∧ Below w.heap.size w w' :=
  (HC.encode ⟨21, 1, 2, 3221225534⟩ w iEx).mono fun _ _ ⟨p, d, h1, h2, h3⟩ => ⟨p, d, h1, encEx ▸ (own_shape' h2).1, h3⟩
theorem aw2_same {p : Option Addr} {d : Nat} {w : World} (h : Rd w w.heap.size p [21, 0, 1, 2, 62, 0, 0, 192]) :
    Calls Tryd.prog 20 #[.slice p 8 d, .slice (some ⟨w.heap.size, 0, none⟩) 8 8] (w.alloc (.cells #[.int .u8 21, .int .u8 0, .int .u8 1, .int .u8 2, .int .u8 62, .int .u8 0, .int .u8 0, .int .u8 192] 5)) fun e w' => e = .returned (.bool true) ∧ Below w.heap.size w w' :=
  (Same_yes _ _ 8 _ 8 _ _ [21, 0, 1, 2, 62, 0, 0, 192] [21, 0, 1, 2, 62, 0, 0, 192] _ rfl rfl (byt_dec (by decide)) (h.alloc (Nat.le_refl _) _) (Rd.lit w _ _ _ rfl)).mono fun _ _ ⟨h1, h2⟩ => ⟨h1, h2 ▸ ((Below.refl _ _).alloc (Nat.le_refl _) _)⟩
set_option maxRecDepth 100000 in
set_option maxHeartbeats 4000000 in
theorem awake2_any (HC : InsnC) (w : World) (hG : GW w) : Calls Tryd.prog 16 #[] w fun e w' => e = .returned (.bool true) ∧ Below w.heap.size w w' := by
  have hmk := make7
  have K1 := Lib.hid (fun W hG => codeRet.1 ▸ codeRet.2 ▸ HC.code ⟨#[114, 101, 116]⟩ W hG (by unfold maxLen; decide))
  have K2 := Lib.hid (fun W hG => codeMod ▸ HC.code ⟨#[109, 111, 100]⟩ W hG (by unfold maxLen; decide))
  obtain ⟨mv, hmv⟩ : ∃ v, v = codeV ⟨#[109, 111, 100]⟩ := ⟨_, rfl⟩
  rw [← hmv] at K2
  have K3 := Lib.hid (fun W => aw2_parse7 HC W)
  have K4 := Lib.hid (fun W => aw2_parse0 HC W)
  have K5 := Lib.hid (fun W => aw2_encode HC W)
  have K6 := Lib.hid (fun W hG => name20 ▸ HC.name_ 32 W hG (by decide) (by decide))
  have K7 := Lib.hid (fun W hG => name87 ▸ HC.name_ 135 W hG (by decide) (by decide))
  have K8 := Lib.hid (fun W hG => name94 ▸ HC.name_ 148 W hG (by decide) (by decide))
  have K9 := Lib.hid (fun W hG => wx29 ▸ HC.withX 29 W hG (by decide) (by decide))
  have K10 := Lib.hid (fun W hG => wx7 ▸ HC.withX 7 W hG (by decide) (by decide))
  have r1 := bytes_refl ⟨#[108, 100, 97, 98, 115]⟩
  have r2 := bytes_refl ⟨#[116, 120, 97]⟩
  have r3 : (ByteArray.mk #[]).toList.isEmpty = true := by rw [ByteArray.toList_eq]; rfl
  have HG := Lib.hid hG
  clear hmv HC hG
  go_enter Tryd.func16, Tryd.ntmps16
  go_wp2_with (first
    | (go_at_call 8; ((with_reducible refine (K1.out _ HG.out).mono ?_); rintro e w1 ⟨rfl, b1⟩; have G1 := HG.out.on b1))
    | (go_at_call 8; ((with_reducible refine (K2.out _ G1).mono ?_); rintro e w2 ⟨rfl, b2⟩; have G2 := G1.on b2))
    | (go_at_call 18; ((with_reducible refine (K3.out _).mono ?_); rintro e w3 ⟨rfl, b3⟩; have G3 := G2.on b3))
    | (go_at_call 18; ((with_reducible refine (K4.out _).mono ?_); rintro e w4 ⟨q4, d4, rfl, b4⟩; have G4 := G3.on b4))
    | (go_at_call 22; ((with_reducible refine (K5.out _).mono ?_); rintro e w5 ⟨q5, d5, rfl, r5, b5⟩; have G5 := G4.on b5))
    | (go_at_call 20; ((with_reducible refine (aw2_same r5).mono ?_); rintro e w6 ⟨rfl, b6⟩; have G6 := G5.on b6))
    | (go_at_call 13; ((with_reducible refine (K6.out _ G6).mono ?_); rintro e w7 ⟨rfl, b7⟩; have G7 := G6.on b7))
    | (go_at_call 13; ((with_reducible refine (K7.out _ G7).mono ?_); rintro e w8 ⟨rfl, b8⟩; have G8 := G7.on b8))
    | (go_at_call 13; ((with_reducible refine (K8.out _ G8).mono ?_); rintro e w9 ⟨rfl, b9⟩; have G9 := G8.on b9))
    | (go_at_call 14; ((with_reducible refine (K9.out _ G9).mono ?_); rintro e w10 ⟨rfl, b10⟩; have G10 := G9.on b10))
    | (go_at_call 14; ((with_reducible refine (K10.out _ G10).mono ?_); rintro e w11 ⟨rfl, b11⟩; have G11 := G10.on b11)))
  go_ret
  exact ⟨rfl, thn (thn (thn (thn (thn (thn (thn (thn (thn (thn b1 b2) b3) b4) b5) b6) b7) b8) b9) b10) b11⟩
end Go.Proofs.YtekmbhjdacaphaaDoor
