/- The calls of the landed package calls, but for its lists: as the chapter says, of a world in which the table of architectures lies. -/
import Derived.Test.YtijnkhenplmghaaDoorCm
import Derived.Test.YtijnkhenplmghaaDoorBk
import Derived.Deep.QuietTactic
import Derived.BigQuiet
import Derived.Laws.BitsAllLaws
import Derived.WalkSmall
namespace Go.Proofs.YtijnkhenplmghaaDoor
open Go.RowKit
set_option linter.unusedVariables false
attribute [local go_sem ↓] Go.wp_at_zero Go.wp_at_succ

theorem thn9 {w V W : World} (a : Below w.heap.size w V) (b : Below V.heap.size V W) : Below w.heap.size w W := a.trans (b.mono a.size)
/-- The number that a row holds, as the program keeps it. -/
def mN (j i : Nat) : Int := if 1073741824 ≤ nrT j i then nrT j i - 1073741824 else nrT j i
theorem rL_is : ∀ j, j < 40 → rL j = [.string (nmT j), .int .i16 (mN j 0), .int .i16 (mN j 1), .int .i16 (mN j 2), .int .i16 (mN j 3), .int .i16 (mN j 4), .int .i16 (mN j 5)] := by
  intro j hj
  match j, hj with
  | 0, _ => show _ = _; kernel_rfl
  | 1, _ => show _ = _; kernel_rfl
  | 2, _ => show _ = _; kernel_rfl
  | 3, _ => show _ = _; kernel_rfl
  | 4, _ => show _ = _; kernel_rfl
  | 5, _ => show _ = _; kernel_rfl
  | 6, _ => show _ = _; kernel_rfl
  | 7, _ => show _ = _; kernel_rfl
  | 8, _ => show _ = _; kernel_rfl
  | 9, _ => show _ = _; kernel_rfl
  | 10, _ => show _ = _; kernel_rfl
  | 11, _ => show _ = _; kernel_rfl
  | 12, _ => show _ = _; kernel_rfl
  | 13, _ => show _ = _; kernel_rfl
  | 14, _ => show _ = _; kernel_rfl
  | 15, _ => show _ = _; kernel_rfl
  | 16, _ => show _ = _; kernel_rfl
  | 17, _ => show _ = _; kernel_rfl
  | 18, _ => show _ = _; kernel_rfl
  | 19, _ => show _ = _; kernel_rfl
  | 20, _ => show _ = _; kernel_rfl
  | 21, _ => show _ = _; kernel_rfl
  | 22, _ => show _ = _; kernel_rfl
  | 23, _ => show _ = _; kernel_rfl
  | 24, _ => show _ = _; kernel_rfl
  | 25, _ => show _ = _; kernel_rfl
  | 26, _ => show _ = _; kernel_rfl
  | 27, _ => show _ = _; kernel_rfl
  | 28, _ => show _ = _; kernel_rfl
  | 29, _ => show _ = _; kernel_rfl
  | 30, _ => show _ = _; kernel_rfl
  | 31, _ => show _ = _; kernel_rfl
  | 32, _ => show _ = _; kernel_rfl
  | 33, _ => show _ = _; kernel_rfl
  | 34, _ => show _ = _; kernel_rfl
  | 35, _ => show _ = _; kernel_rfl
  | 36, _ => show _ = _; kernel_rfl
  | 37, _ => show _ = _; kernel_rfl
  | 38, _ => show _ = _; kernel_rfl
  | 39, _ => show _ = _; kernel_rfl
  | j + 40, hj => omega
theorem mN_lim : ∀ j, j < 40 → ∀ i, i < 6 → -1 ≤ mN j i ∧ mN j i < 32768 ∧ (mN j i = -1 ↔ nrT j i = -1) ∧ (mN j i ≠ -1 → nrT j i = mN j i + if i = 2 then 1073741824 else 0) := by decide +kernel
theorem nmT_inj : ∀ i, i < 40 → ∀ j, j < 40 → nmT i = nmT j → i = j := by decide +kernel
/-- A row's number on an architecture. -/
def onN (a : Int) (j : Nat) : Int := if okT a j = true then nrT j a.toNat else 0
theorem tokE_is (a : Int) : tokE a = if inA8 a = true then 0 else 80 := by
  unfold tokE inA8
  by_cases h : 0 ≤ a ∧ a < 6
  · rw [if_pos h, if_pos (decide_eq_true h)]
  · rw [if_neg h, if_neg (by rw [decide_eq_false h]; decide)]
theorem or30 (m : Nat) (h : m < 1073741824) : bits .or .u32 (m : Int) 1073741824 = (m : Int) + 1073741824 := by
  have e := Nat.two_pow_add_eq_or_of_lt (i := 30) (b := m) (by simpa using h) 1
  rw [show (2 : Nat) ^ 30 * 1 = 1073741824 from by decide] at e
  rw [show (1073741824 : Int) = ((1073741824 : Nat) : Int) from rfl, u32_or_nat m 1073741824 (by omega) (by decide), Nat.or_comm, ← e]
  omega
theorem on9_out (x : ByteArray) (n0 n1 n2 n3 n4 n5 a : Int) (ha : ¬ (0 ≤ a ∧ a < 6)) (w : World) (hG : GA8 w) : Calls Tryd.prog 19 #[.agg #[.string x, .int .i16 n0, .int .i16 n1, .int .i16 n2, .int .i16 n3, .int .i16 n4, .int .i16 n5], .int .i64 a] w fun e w' => e = .returned (.tuple #[.int .u32 0, .bool false]) ∧ Below w.heap.size w w' := by
  have HT := Lib.hid (fun W g => token8 a W g)
  rw [tokE_is, if_neg (show ¬ inA8 a = true from by unfold inA8; rw [decide_eq_false ha]; decide)] at HT
  generalize tokR a = t at HT
  have HG := Lib.hid (fun o => hG.al o)
  clear hG ha
  go_enter Tryd.func19, Tryd.ntmps19
  go_wp2_with (go_at_call 28; ((with_reducible refine (HT.out _ (HG.out _)).mono ?_); rintro e w1 ⟨rfl, b1⟩))
  go_ret2
  exact ⟨rfl, thn9 ((Below.refl _ _).alloc (Nat.le_refl _) _) b1⟩
theorem on9_0_0 (x : ByteArray) (n0 n1 n2 n3 n4 n5 : Int) (h0 : n0 = -1) (w : World) (hG : GA8 w) : Calls Tryd.prog 19 #[.agg #[.string x, .int .i16 n0, .int .i16 n1, .int .i16 n2, .int .i16 n3, .int .i16 n4, .int .i16 n5], .int .i64 0] w fun e w' => e = .returned (.tuple #[.int .u32 0, .bool false]) ∧ Below w.heap.size w w' := by
  have HT := Lib.hid (fun W g => token8 0 W g)
  rw [show tokE 0 = 0 from by kernel_rfl] at HT
  generalize tokR 0 = t at HT
  have HG := Lib.hid (fun o => hG.al o)
  clear hG
  subst h0
  go_enter Tryd.func19, Tryd.ntmps19
  go_wp2_with (go_at_call 28; ((with_reducible refine (HT.out _ (HG.out _)).mono ?_); rintro e w1 ⟨rfl, b1⟩); have c0 := (b1.cell (p := ⟨w.heap.size, 1, none⟩) (by rw [World.size_alloc]; exact Nat.lt_succ_self _)).trans (show _ = some (Value.int .i16 (-1)) from by rw [cell_of_row _ _ _ _ _ (0, 0) (heap_alloc_new w _)]; rfl))
  go_ret2
  exact ⟨rfl, thn9 ((Below.refl _ _).alloc (Nat.le_refl _) _) b1⟩
theorem on9_0_1 (x : ByteArray) (n0 n1 n2 n3 n4 n5 : Int) (h0 : 0 ≤ n0) (h1 : n0 < 32768) (w : World) (hG : GA8 w) : Calls Tryd.prog 19 #[.agg #[.string x, .int .i16 n0, .int .i16 n1, .int .i16 n2, .int .i16 n3, .int .i16 n4, .int .i16 n5], .int .i64 0] w fun e w' => e = .returned (.tuple #[.int .u32 n0, .bool true]) ∧ Below w.heap.size w w' := by
  have HT := Lib.hid (fun W g => token8 0 W g)
  rw [show tokE 0 = 0 from by kernel_rfl] at HT
  generalize tokR 0 = t at HT
  have HG := Lib.hid (fun o => hG.al o)
  clear hG
  obtain ⟨m, rfl⟩ := Int.eq_ofNat_of_zero_le h0
  have k1 : ((m : Int) == -1) = false := beq_eq_false_iff_ne.2 (by omega)
  have k2 : IntKind.u32.wrap (m : Int) = m := by simp [IntKind.wrap, IntKind.bits, IntKind.signed]; omega
  clear h0 h1
  go_enter Tryd.func19, Tryd.ntmps19
  go_wp2_with (go_at_call 28; ((with_reducible refine (HT.out _ (HG.out _)).mono ?_); rintro e w1 ⟨rfl, b1⟩); have c0 := (b1.cell (p := ⟨w.heap.size, 1, none⟩) (by rw [World.size_alloc]; exact Nat.lt_succ_self _)).trans (show _ = some (Value.int .i16 m) from by rw [cell_of_row _ _ _ _ _ (0, 0) (heap_alloc_new w _)]; rfl))
  go_ret2
  exact ⟨rfl, thn9 ((Below.refl _ _).alloc (Nat.le_refl _) _) b1⟩
theorem on9_1_0 (x : ByteArray) (n0 n1 n2 n3 n4 n5 : Int) (h0 : n1 = -1) (w : World) (hG : GA8 w) : Calls Tryd.prog 19 #[.agg #[.string x, .int .i16 n0, .int .i16 n1, .int .i16 n2, .int .i16 n3, .int .i16 n4, .int .i16 n5], .int .i64 1] w fun e w' => e = .returned (.tuple #[.int .u32 0, .bool false]) ∧ Below w.heap.size w w' := by
  have HT := Lib.hid (fun W g => token8 1 W g)
  rw [show tokE 1 = 0 from by kernel_rfl] at HT
  generalize tokR 1 = t at HT
  have HG := Lib.hid (fun o => hG.al o)
  clear hG
  subst h0
  go_enter Tryd.func19, Tryd.ntmps19
  go_wp2_with (go_at_call 28; ((with_reducible refine (HT.out _ (HG.out _)).mono ?_); rintro e w1 ⟨rfl, b1⟩); have c0 := (b1.cell (p := ⟨w.heap.size, 2, none⟩) (by rw [World.size_alloc]; exact Nat.lt_succ_self _)).trans (show _ = some (Value.int .i16 (-1)) from by rw [cell_of_row _ _ _ _ _ (0, 0) (heap_alloc_new w _)]; rfl))
  go_ret2
  exact ⟨rfl, thn9 ((Below.refl _ _).alloc (Nat.le_refl _) _) b1⟩
theorem on9_1_1 (x : ByteArray) (n0 n1 n2 n3 n4 n5 : Int) (h0 : 0 ≤ n1) (h1 : n1 < 32768) (w : World) (hG : GA8 w) : Calls Tryd.prog 19 #[.agg #[.string x, .int .i16 n0, .int .i16 n1, .int .i16 n2, .int .i16 n3, .int .i16 n4, .int .i16 n5], .int .i64 1] w fun e w' => e = .returned (.tuple #[.int .u32 n1, .bool true]) ∧ Below w.heap.size w w' := by
  have HT := Lib.hid (fun W g => token8 1 W g)
  rw [show tokE 1 = 0 from by kernel_rfl] at HT
  generalize tokR 1 = t at HT
  have HG := Lib.hid (fun o => hG.al o)
  clear hG
  obtain ⟨m, rfl⟩ := Int.eq_ofNat_of_zero_le h0
  have k1 : ((m : Int) == -1) = false := beq_eq_false_iff_ne.2 (by omega)
  have k2 : IntKind.u32.wrap (m : Int) = m := by simp [IntKind.wrap, IntKind.bits, IntKind.signed]; omega
  clear h0 h1
  go_enter Tryd.func19, Tryd.ntmps19
  go_wp2_with (go_at_call 28; ((with_reducible refine (HT.out _ (HG.out _)).mono ?_); rintro e w1 ⟨rfl, b1⟩); have c0 := (b1.cell (p := ⟨w.heap.size, 2, none⟩) (by rw [World.size_alloc]; exact Nat.lt_succ_self _)).trans (show _ = some (Value.int .i16 m) from by rw [cell_of_row _ _ _ _ _ (0, 0) (heap_alloc_new w _)]; rfl))
  go_ret2
  exact ⟨rfl, thn9 ((Below.refl _ _).alloc (Nat.le_refl _) _) b1⟩
theorem on9_2_0 (x : ByteArray) (n0 n1 n2 n3 n4 n5 : Int) (h0 : n2 = -1) (w : World) (hG : GA8 w) : Calls Tryd.prog 19 #[.agg #[.string x, .int .i16 n0, .int .i16 n1, .int .i16 n2, .int .i16 n3, .int .i16 n4, .int .i16 n5], .int .i64 2] w fun e w' => e = .returned (.tuple #[.int .u32 0, .bool false]) ∧ Below w.heap.size w w' := by
  have HT := Lib.hid (fun W g => token8 2 W g)
  rw [show tokE 2 = 0 from by kernel_rfl] at HT
  generalize tokR 2 = t at HT
  have HG := Lib.hid (fun o => hG.al o)
  clear hG
  subst h0
  go_enter Tryd.func19, Tryd.ntmps19
  go_wp2_with (go_at_call 28; ((with_reducible refine (HT.out _ (HG.out _)).mono ?_); rintro e w1 ⟨rfl, b1⟩); have c0 := (b1.cell (p := ⟨w.heap.size, 3, none⟩) (by rw [World.size_alloc]; exact Nat.lt_succ_self _)).trans (show _ = some (Value.int .i16 (-1)) from by rw [cell_of_row _ _ _ _ _ (0, 0) (heap_alloc_new w _)]; rfl))
  go_ret2
  exact ⟨rfl, thn9 ((Below.refl _ _).alloc (Nat.le_refl _) _) b1⟩
theorem on9_2_1 (x : ByteArray) (n0 n1 n2 n3 n4 n5 : Int) (h0 : 0 ≤ n2) (h1 : n2 < 32768) (w : World) (hG : GA8 w) : Calls Tryd.prog 19 #[.agg #[.string x, .int .i16 n0, .int .i16 n1, .int .i16 n2, .int .i16 n3, .int .i16 n4, .int .i16 n5], .int .i64 2] w fun e w' => e = .returned (.tuple #[.int .u32 (n2 + 1073741824), .bool true]) ∧ Below w.heap.size w w' := by
  have HT := Lib.hid (fun W g => token8 2 W g)
  rw [show tokE 2 = 0 from by kernel_rfl] at HT
  generalize tokR 2 = t at HT
  have HG := Lib.hid (fun o => hG.al o)
  clear hG
  obtain ⟨m, rfl⟩ := Int.eq_ofNat_of_zero_le h0
  have k1 : ((m : Int) == -1) = false := beq_eq_false_iff_ne.2 (by omega)
  have k2 : IntKind.u32.wrap (m : Int) = m := by simp [IntKind.wrap, IntKind.bits, IntKind.signed]; omega
  have k3 : bits .or .u32 (m : Int) 1073741824 = (m : Int) + 1073741824 := or30 m (by omega)
  clear h0 h1
  go_enter Tryd.func19, Tryd.ntmps19
  go_wp2_with (go_at_call 28; ((with_reducible refine (HT.out _ (HG.out _)).mono ?_); rintro e w1 ⟨rfl, b1⟩); have c0 := (b1.cell (p := ⟨w.heap.size, 3, none⟩) (by rw [World.size_alloc]; exact Nat.lt_succ_self _)).trans (show _ = some (Value.int .i16 m) from by rw [cell_of_row _ _ _ _ _ (0, 0) (heap_alloc_new w _)]; rfl))
  go_ret2
  exact ⟨rfl, thn9 ((Below.refl _ _).alloc (Nat.le_refl _) _) b1⟩
theorem on9_3_0 (x : ByteArray) (n0 n1 n2 n3 n4 n5 : Int) (h0 : n3 = -1) (w : World) (hG : GA8 w) : Calls Tryd.prog 19 #[.agg #[.string x, .int .i16 n0, .int .i16 n1, .int .i16 n2, .int .i16 n3, .int .i16 n4, .int .i16 n5], .int .i64 3] w fun e w' => e = .returned (.tuple #[.int .u32 0, .bool false]) ∧ Below w.heap.size w w' := by
  have HT := Lib.hid (fun W g => token8 3 W g)
  rw [show tokE 3 = 0 from by kernel_rfl] at HT
  generalize tokR 3 = t at HT
  have HG := Lib.hid (fun o => hG.al o)
  clear hG
  subst h0
  go_enter Tryd.func19, Tryd.ntmps19
  go_wp2_with (go_at_call 28; ((with_reducible refine (HT.out _ (HG.out _)).mono ?_); rintro e w1 ⟨rfl, b1⟩); have c0 := (b1.cell (p := ⟨w.heap.size, 4, none⟩) (by rw [World.size_alloc]; exact Nat.lt_succ_self _)).trans (show _ = some (Value.int .i16 (-1)) from by rw [cell_of_row _ _ _ _ _ (0, 0) (heap_alloc_new w _)]; rfl))
  go_ret2
  exact ⟨rfl, thn9 ((Below.refl _ _).alloc (Nat.le_refl _) _) b1⟩
theorem on9_3_1 (x : ByteArray) (n0 n1 n2 n3 n4 n5 : Int) (h0 : 0 ≤ n3) (h1 : n3 < 32768) (w : World) (hG : GA8 w) : Calls Tryd.prog 19 #[.agg #[.string x, .int .i16 n0, .int .i16 n1, .int .i16 n2, .int .i16 n3, .int .i16 n4, .int .i16 n5], .int .i64 3] w fun e w' => e = .returned (.tuple #[.int .u32 n3, .bool true]) ∧ Below w.heap.size w w' := by
  have HT := Lib.hid (fun W g => token8 3 W g)
  rw [show tokE 3 = 0 from by kernel_rfl] at HT
  generalize tokR 3 = t at HT
  have HG := Lib.hid (fun o => hG.al o)
  clear hG
  obtain ⟨m, rfl⟩ := Int.eq_ofNat_of_zero_le h0
  have k1 : ((m : Int) == -1) = false := beq_eq_false_iff_ne.2 (by omega)
  have k2 : IntKind.u32.wrap (m : Int) = m := by simp [IntKind.wrap, IntKind.bits, IntKind.signed]; omega
  clear h0 h1
  go_enter Tryd.func19, Tryd.ntmps19
  go_wp2_with (go_at_call 28; ((with_reducible refine (HT.out _ (HG.out _)).mono ?_); rintro e w1 ⟨rfl, b1⟩); have c0 := (b1.cell (p := ⟨w.heap.size, 4, none⟩) (by rw [World.size_alloc]; exact Nat.lt_succ_self _)).trans (show _ = some (Value.int .i16 m) from by rw [cell_of_row _ _ _ _ _ (0, 0) (heap_alloc_new w _)]; rfl))
  go_ret2
  exact ⟨rfl, thn9 ((Below.refl _ _).alloc (Nat.le_refl _) _) b1⟩
theorem on9_4_0 (x : ByteArray) (n0 n1 n2 n3 n4 n5 : Int) (h0 : n4 = -1) (w : World) (hG : GA8 w) : Calls Tryd.prog 19 #[.agg #[.string x, .int .i16 n0, .int .i16 n1, .int .i16 n2, .int .i16 n3, .int .i16 n4, .int .i16 n5], .int .i64 4] w fun e w' => e = .returned (.tuple #[.int .u32 0, .bool false]) ∧ Below w.heap.size w w' := by
  have HT := Lib.hid (fun W g => token8 4 W g)
  rw [show tokE 4 = 0 from by kernel_rfl] at HT
  generalize tokR 4 = t at HT
  have HG := Lib.hid (fun o => hG.al o)
  clear hG
  subst h0
  go_enter Tryd.func19, Tryd.ntmps19
  go_wp2_with (go_at_call 28; ((with_reducible refine (HT.out _ (HG.out _)).mono ?_); rintro e w1 ⟨rfl, b1⟩); have c0 := (b1.cell (p := ⟨w.heap.size, 5, none⟩) (by rw [World.size_alloc]; exact Nat.lt_succ_self _)).trans (show _ = some (Value.int .i16 (-1)) from by rw [cell_of_row _ _ _ _ _ (0, 0) (heap_alloc_new w _)]; rfl))
  go_ret2
  exact ⟨rfl, thn9 ((Below.refl _ _).alloc (Nat.le_refl _) _) b1⟩
theorem on9_4_1 (x : ByteArray) (n0 n1 n2 n3 n4 n5 : Int) (h0 : 0 ≤ n4) (h1 : n4 < 32768) (w : World) (hG : GA8 w) : Calls Tryd.prog 19 #[.agg #[.string x, .int .i16 n0, .int .i16 n1, .int .i16 n2, .int .i16 n3, .int .i16 n4, .int .i16 n5], .int .i64 4] w fun e w' => e = .returned (.tuple #[.int .u32 n4, .bool true]) ∧ Below w.heap.size w w' := by
  have HT := Lib.hid (fun W g => token8 4 W g)
  rw [show tokE 4 = 0 from by kernel_rfl] at HT
  generalize tokR 4 = t at HT
  have HG := Lib.hid (fun o => hG.al o)
  clear hG
  obtain ⟨m, rfl⟩ := Int.eq_ofNat_of_zero_le h0
  have k1 : ((m : Int) == -1) = false := beq_eq_false_iff_ne.2 (by omega)
  have k2 : IntKind.u32.wrap (m : Int) = m := by simp [IntKind.wrap, IntKind.bits, IntKind.signed]; omega
  clear h0 h1
  go_enter Tryd.func19, Tryd.ntmps19
  go_wp2_with (go_at_call 28; ((with_reducible refine (HT.out _ (HG.out _)).mono ?_); rintro e w1 ⟨rfl, b1⟩); have c0 := (b1.cell (p := ⟨w.heap.size, 5, none⟩) (by rw [World.size_alloc]; exact Nat.lt_succ_self _)).trans (show _ = some (Value.int .i16 m) from by rw [cell_of_row _ _ _ _ _ (0, 0) (heap_alloc_new w _)]; rfl))
  go_ret2
  exact ⟨rfl, thn9 ((Below.refl _ _).alloc (Nat.le_refl _) _) b1⟩
theorem on9_5_0 (x : ByteArray) (n0 n1 n2 n3 n4 n5 : Int) (h0 : n5 = -1) (w : World) (hG : GA8 w) : Calls Tryd.prog 19 #[.agg #[.string x, .int .i16 n0, .int .i16 n1, .int .i16 n2, .int .i16 n3, .int .i16 n4, .int .i16 n5], .int .i64 5] w fun e w' => e = .returned (.tuple #[.int .u32 0, .bool false]) ∧ Below w.heap.size w w' := by
  have HT := Lib.hid (fun W g => token8 5 W g)
  rw [show tokE 5 = 0 from by kernel_rfl] at HT
  generalize tokR 5 = t at HT
  have HG := Lib.hid (fun o => hG.al o)
  clear hG
  subst h0
  go_enter Tryd.func19, Tryd.ntmps19
  go_wp2_with (go_at_call 28; ((with_reducible refine (HT.out _ (HG.out _)).mono ?_); rintro e w1 ⟨rfl, b1⟩); have c0 := (b1.cell (p := ⟨w.heap.size, 6, none⟩) (by rw [World.size_alloc]; exact Nat.lt_succ_self _)).trans (show _ = some (Value.int .i16 (-1)) from by rw [cell_of_row _ _ _ _ _ (0, 0) (heap_alloc_new w _)]; rfl))
  go_ret2
  exact ⟨rfl, thn9 ((Below.refl _ _).alloc (Nat.le_refl _) _) b1⟩
theorem on9_5_1 (x : ByteArray) (n0 n1 n2 n3 n4 n5 : Int) (h0 : 0 ≤ n5) (h1 : n5 < 32768) (w : World) (hG : GA8 w) : Calls Tryd.prog 19 #[.agg #[.string x, .int .i16 n0, .int .i16 n1, .int .i16 n2, .int .i16 n3, .int .i16 n4, .int .i16 n5], .int .i64 5] w fun e w' => e = .returned (.tuple #[.int .u32 n5, .bool true]) ∧ Below w.heap.size w w' := by
  have HT := Lib.hid (fun W g => token8 5 W g)
  rw [show tokE 5 = 0 from by kernel_rfl] at HT
  generalize tokR 5 = t at HT
  have HG := Lib.hid (fun o => hG.al o)
  clear hG
  obtain ⟨m, rfl⟩ := Int.eq_ofNat_of_zero_le h0
  have k1 : ((m : Int) == -1) = false := beq_eq_false_iff_ne.2 (by omega)
  have k2 : IntKind.u32.wrap (m : Int) = m := by simp [IntKind.wrap, IntKind.bits, IntKind.signed]; omega
  clear h0 h1
  go_enter Tryd.func19, Tryd.ntmps19
  go_wp2_with (go_at_call 28; ((with_reducible refine (HT.out _ (HG.out _)).mono ?_); rintro e w1 ⟨rfl, b1⟩); have c0 := (b1.cell (p := ⟨w.heap.size, 6, none⟩) (by rw [World.size_alloc]; exact Nat.lt_succ_self _)).trans (show _ = some (Value.int .i16 m) from by rw [cell_of_row _ _ _ _ _ (0, 0) (heap_alloc_new w _)]; rfl))
  go_ret2
  exact ⟨rfl, thn9 ((Below.refl _ _).alloc (Nat.le_refl _) _) b1⟩
end Go.Proofs.YtijnkhenplmghaaDoor
