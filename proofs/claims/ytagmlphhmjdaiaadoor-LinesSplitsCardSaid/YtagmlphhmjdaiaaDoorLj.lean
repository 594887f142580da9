/- The chapter's examples, over what the calls of the package lines have to return. -/
import Derived.Test.YtagmlphhmjdaiaaDoorLi
namespace Go.Proofs.YtagmlphhmjdaiaaDoor
open Go.RowKit
set_option linter.unusedVariables false
set_option linter.unusedSimpArgs false
attribute [local go_sem ↓] Go.wp_at_zero Go.wp_at_succ

theorem ex12_0 : splE [97, 61, 32, 49, 32, 10, 32, 35, 32, 99, 32, 10, 32, 98] = 0 ∧ splL [97, 61, 32, 49, 32, 10, 32, 35, 32, 99, 32, 10, 32, 98] = [(1, [97, 61, 32, 49]), (3, [98])] := by constructor <;> kernel_rfl
theorem lit12_0 {G : World → Prop} (HC : LinesC G) (X : World) (g : G X) : Calls Tryd.prog 18 #[.string ⟨#[97, 61, 32, 49, 32, 10, 32, 35, 32, 99, 32, 10, 32, 98]⟩, .slice (some ⟨X.heap.size, 0, none⟩) 2 2] (X.alloc (.cells #[.int .i64 1, .string ⟨#[97, 61, 32, 49]⟩, .int .i64 3, .string ⟨#[98]⟩] 35)) fun e w' => e = .returned (.bool true) ∧ Below X.heap.size X w' := by
  have hA : Below X.heap.size X (X.alloc (.cells (lnC [(1, [97, 61, 32, 49]), (3, [98])]).toArray 35)) := (Below.refl _ X).alloc (Nat.le_refl _) _
  refine (is_yes HC [97, 61, 32, 49, 32, 10, 32, 35, 32, 99, 32, 10, 32, 98] (by decide) (.slice (some ⟨X.heap.size, 0, none⟩) 2 2) [(1, [97, 61, 32, 49]), (3, [98])] ex12_0.1 ex12_0.2 (X.alloc (.cells (lnC [(1, [97, 61, 32, 49]), (3, [98])]).toArray 35)) (HC.on g hA) (lns_lit X [(1, [97, 61, 32, 49]), (3, [98])] _)).mono ?_
  rintro e w' ⟨rfl, b⟩
  exact ⟨rfl, hA.trans (b.mono hA.size)⟩
theorem ex12_1 : splE [97, 32, 92, 10, 32, 98, 92, 10, 99, 10, 100] = 0 ∧ splL [97, 32, 92, 10, 32, 98, 92, 10, 99, 10, 100] = [(1, [97, 32, 32, 32, 98, 32, 99]), (4, [100])] := by constructor <;> kernel_rfl
theorem lit12_1 {G : World → Prop} (HC : LinesC G) (X : World) (g : G X) : Calls Tryd.prog 18 #[.string ⟨#[97, 32, 92, 10, 32, 98, 92, 10, 99, 10, 100]⟩, .slice (some ⟨X.heap.size, 0, none⟩) 2 2] (X.alloc (.cells #[.int .i64 1, .string ⟨#[97, 32, 32, 32, 98, 32, 99]⟩, .int .i64 4, .string ⟨#[100]⟩] 35)) fun e w' => e = .returned (.bool true) ∧ Below X.heap.size X w' := by
  have hA : Below X.heap.size X (X.alloc (.cells (lnC [(1, [97, 32, 32, 32, 98, 32, 99]), (4, [100])]).toArray 35)) := (Below.refl _ X).alloc (Nat.le_refl _) _
  refine (is_yes HC [97, 32, 92, 10, 32, 98, 92, 10, 99, 10, 100] (by decide) (.slice (some ⟨X.heap.size, 0, none⟩) 2 2) [(1, [97, 32, 32, 32, 98, 32, 99]), (4, [100])] ex12_1.1 ex12_1.2 (X.alloc (.cells (lnC [(1, [97, 32, 32, 32, 98, 32, 99]), (4, [100])]).toArray 35)) (HC.on g hA) (lns_lit X [(1, [97, 32, 32, 32, 98, 32, 99]), (4, [100])] _)).mono ?_
  rintro e w' ⟨rfl, b⟩
  exact ⟨rfl, hA.trans (b.mono hA.size)⟩
theorem ex12_2 : splE [97, 92, 10, 59, 120, 10, 98] = 0 ∧ splL [97, 92, 10, 59, 120, 10, 98] = [(1, [97, 32, 98])] := by constructor <;> kernel_rfl
theorem lit12_2 {G : World → Prop} (HC : LinesC G) (X : World) (g : G X) : Calls Tryd.prog 18 #[.string ⟨#[97, 92, 10, 59, 120, 10, 98]⟩, .slice (some ⟨X.heap.size, 0, none⟩) 1 1] (X.alloc (.cells #[.int .i64 1, .string ⟨#[97, 32, 98]⟩] 35)) fun e w' => e = .returned (.bool true) ∧ Below X.heap.size X w' := by
  have hA : Below X.heap.size X (X.alloc (.cells (lnC [(1, [97, 32, 98])]).toArray 35)) := (Below.refl _ X).alloc (Nat.le_refl _) _
  refine (is_yes HC [97, 92, 10, 59, 120, 10, 98] (by decide) (.slice (some ⟨X.heap.size, 0, none⟩) 1 1) [(1, [97, 32, 98])] ex12_2.1 ex12_2.2 (X.alloc (.cells (lnC [(1, [97, 32, 98])]).toArray 35)) (HC.on g hA) (lns_lit X [(1, [97, 32, 98])] _)).mono ?_
  rintro e w' ⟨rfl, b⟩
  exact ⟨rfl, hA.trans (b.mono hA.size)⟩
theorem ex12_3 : splE [97, 92] = 0 ∧ splL [97, 92] = [(1, [97])] := by constructor <;> kernel_rfl
theorem lit12_3 {G : World → Prop} (HC : LinesC G) (X : World) (g : G X) : Calls Tryd.prog 18 #[.string ⟨#[97, 92]⟩, .slice (some ⟨X.heap.size, 0, none⟩) 1 1] (X.alloc (.cells #[.int .i64 1, .string ⟨#[97]⟩] 35)) fun e w' => e = .returned (.bool true) ∧ Below X.heap.size X w' := by
  have hA : Below X.heap.size X (X.alloc (.cells (lnC [(1, [97])]).toArray 35)) := (Below.refl _ X).alloc (Nat.le_refl _) _
  refine (is_yes HC [97, 92] (by decide) (.slice (some ⟨X.heap.size, 0, none⟩) 1 1) [(1, [97])] ex12_3.1 ex12_3.2 (X.alloc (.cells (lnC [(1, [97])]).toArray 35)) (HC.on g hA) (lns_lit X [(1, [97])] _)).mono ?_
  rintro e w' ⟨rfl, b⟩
  exact ⟨rfl, hA.trans (b.mono hA.size)⟩
theorem ex12_4 : splE [10, 32, 10] = 0 ∧ splL [10, 32, 10] = [] := by constructor <;> kernel_rfl
theorem cm12_0 : comL [32, 59, 120] = true := by kernel_rfl
theorem cm12_1 : comL [97, 59] = false := by kernel_rfl
theorem tr12_0 : bs (trimL [32, 9, 97, 32, 98, 13]) = ⟨#[97, 32, 98]⟩ := by kernel_rfl
theorem cnt12 {G : World → Prop} (HC : LinesC G) (X : World) (g : G X) : Calls Tryd.prog 10 #[.slice (some ⟨X.heap.size, 0, none⟩) 2 2] (X.alloc (.cells #[.int .u8 97, .int .u8 10] 5 (2, 3))) fun e w' => e = .returned (.int .i64 1) ∧ Below X.heap.size X w' := by
  have hA : Below X.heap.size X (X.alloc (.cells #[.int .u8 97, .int .u8 10] 5 (2, 3))) := (Below.refl _ X).alloc (Nat.le_refl _) _
  refine (HC.count (some ⟨X.heap.size, 0, none⟩) 2 2 [97, 10] _ (HC.on g hA) rfl (by decide) (Nat.le_refl _) (by unfold maxLen; decide) (fun h => by cases h) (fun _ => ⟨X.heap.size, 0, rfl, by simp, fun i hi => ?_⟩)).mono ?_
  · rw [Nat.zero_add, World.cell?_alloc_mark]
    match i, hi with
    | 0, _ => rfl
    | 1, _ => rfl
  · rintro e w' ⟨rfl, b⟩
    exact ⟨by rw [show (linL [97, 10]).length = 1 from by kernel_rfl]; rfl, hA.trans (b.mono hA.size)⟩
set_option maxRecDepth 100000 in
set_option maxHeartbeats 16000000 in
theorem awake12_any {G : World → Prop} (HC : LinesC G) (w : World) (hG : G w) : Calls Tryd.prog 12 #[] w fun e w' => e = .returned (.bool true) ∧ Below w.heap.size w w' := by
  have HON := Lib.hid (fun (w w' : World) => HC.on (w := w) (w' := w'))
  have HG := Lib.hid hG
  have L0 := Lib.hid (fun (X : World) (g : G X) => lit12_0 HC X g)
  have L1 := Lib.hid (fun (X : World) (g : G X) => lit12_1 HC X g)
  have L2 := Lib.hid (fun (X : World) (g : G X) => lit12_2 HC X g)
  have L3 := Lib.hid (fun (X : World) (g : G X) => lit12_3 HC X g)
  have L4 := Lib.hid (fun (X : World) (g : G X) => is_yes HC [10, 32, 10] (by decide) (.slice none 0 0) [] ex12_4.1 ex12_4.2 X g (LnsAt.nil X))
  rw [show bs [10, 32, 10] = ⟨#[10, 32, 10]⟩ from rfl] at L4
  have C0 := Lib.hid (fun (X : World) (g : G X) => HC.comment ⟨#[32, 59, 120]⟩ X g (by unfold maxLen; decide))
  have C1 := Lib.hid (fun (X : World) (g : G X) => HC.comment ⟨#[97, 59]⟩ X g (by unfold maxLen; decide))
  have T0 := Lib.hid (fun (X : World) (g : G X) => HC.trim ⟨#[32, 9, 97, 32, 98, 13]⟩ X g (by unfold maxLen; decide))
  have N0 := Lib.hid (fun (X : World) (g : G X) => cnt12 HC X g)
  rw [show (⟨#[32, 59, 120]⟩ : ByteArray).data.toList = [32, 59, 120] from rfl, cm12_0] at C0
  rw [show (⟨#[97, 59]⟩ : ByteArray).data.toList = [97, 59] from rfl, cm12_1] at C1
  rw [show (⟨#[32, 9, 97, 32, 98, 13]⟩ : ByteArray).data.toList = [32, 9, 97, 32, 98, 13] from rfl, tr12_0] at T0
  have kc := fun (w : World) (C : Array Value) (n c : Nat) => Lib.run_convert_bytes_const (P := Tryd.prog) w 22 5 C n c Tryd.underlying22 Tryd.underlying5
  clear HC hG
  go_enter Tryd.func12, Tryd.ntmps12
  go_wp2_with (first
    | (go_at_call 17; ((with_reducible refine (of_c 1 ⟨#[97, 61, 32, 49]⟩ _).mono ?_); rintro e v1 ⟨rfl, b1⟩); have G1 := HON.out _ _ HG.out b1; have B1 := b1)
    | (go_at_call 17; ((with_reducible refine (of_c 3 ⟨#[98]⟩ _).mono ?_); rintro e v2 ⟨rfl, b2⟩); have G2 := HON.out _ _ G1 b2; have B2 := thn B1 b2)
    | (go_at_call 18; ((with_reducible refine (L0.out _ G2).mono ?_); rintro e v3 ⟨rfl, b3⟩); have G3 := HON.out _ _ G2 b3; have B3 := thn B2 b3)
    | (go_at_call 17; ((with_reducible refine (of_c 1 ⟨#[97, 32, 32, 32, 98, 32, 99]⟩ _).mono ?_); rintro e v4 ⟨rfl, b4⟩); have G4 := HON.out _ _ G3 b4; have B4 := thn B3 b4)
    | (go_at_call 17; ((with_reducible refine (of_c 4 ⟨#[100]⟩ _).mono ?_); rintro e v5 ⟨rfl, b5⟩); have G5 := HON.out _ _ G4 b5; have B5 := thn B4 b5)
    | (go_at_call 18; ((with_reducible refine (L1.out _ G5).mono ?_); rintro e v6 ⟨rfl, b6⟩); have G6 := HON.out _ _ G5 b6; have B6 := thn B5 b6)
    | (go_at_call 17; ((with_reducible refine (of_c 1 ⟨#[97, 32, 98]⟩ _).mono ?_); rintro e v7 ⟨rfl, b7⟩); have G7 := HON.out _ _ G6 b7; have B7 := thn B6 b7)
    | (go_at_call 18; ((with_reducible refine (L2.out _ G7).mono ?_); rintro e v8 ⟨rfl, b8⟩); have G8 := HON.out _ _ G7 b8; have B8 := thn B7 b8)
    | (go_at_call 17; ((with_reducible refine (of_c 1 ⟨#[97]⟩ _).mono ?_); rintro e v9 ⟨rfl, b9⟩); have G9 := HON.out _ _ G8 b9; have B9 := thn B8 b9)
    | (go_at_call 18; ((with_reducible refine (L3.out _ G9).mono ?_); rintro e v10 ⟨rfl, b10⟩); have G10 := HON.out _ _ G9 b10; have B10 := thn B9 b10)
    | (go_at_call 18; ((with_reducible refine (L4.out _ G10).mono ?_); rintro e v11 ⟨rfl, b11⟩); have G11 := HON.out _ _ G10 b11; have B11 := thn B10 b11)
    | (go_at_call 15; ((with_reducible refine (C0.out _ G11).mono ?_); rintro e v12 ⟨rfl, b12⟩); have G12 := HON.out _ _ G11 b12; have B12 := thn B11 b12)
    | (go_at_call 15; ((with_reducible refine (C1.out _ G12).mono ?_); rintro e v13 ⟨rfl, b13⟩); have G13 := HON.out _ _ G12 b13; have B13 := thn B12 b13)
    | (go_at_call 13; ((with_reducible refine (T0.out _ G13).mono ?_); rintro e v14 ⟨rfl, b14⟩); have G14 := HON.out _ _ G13 b14; have B14 := thn B13 b14)
    | (go_at_call 10; ((with_reducible refine (N0.out _ G14).mono ?_); rintro e v15 ⟨rfl, b15⟩); have G15 := HON.out _ _ G14 b15; have B15 := thn B14 b15))
  go_ret
  exact ⟨by first | rfl | simp, B15⟩
end Go.Proofs.YtagmlphhmjdaiaaDoor
