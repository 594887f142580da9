/- What the document's own plain returns: whether the fields that an instruction doesn't use are 0. No condition. -/
import Derived.Test.YtlneiiljdghmjaaDoorAc
namespace Go.Proofs.YtlneiiljdghmjaaDoor
open Go.RowKit
set_option linter.unusedVariables false
attribute [local go_sem ↓] Go.wp_at_zero Go.wp_at_succ

theorem shapeI_five (c : Int) : shapeI c = 0 ∨ shapeI c = 1 ∨ shapeI c = 2 ∨ shapeI c = 3 ∨ shapeI c = 4 := by
  unfold shapeI
  by_cases h1 : c = 128 ∨ c = 129 ∨ c = 132 ∨ c = 22
  · rw [if_pos h1]; simp
  rw [if_neg h1]
  by_cases h2 : c = 5
  · rw [if_pos h2]; simp
  rw [if_neg h2]
  by_cases h3 : clsA c = 1 ∨ clsA c = 2 ∨ clsA c = 5
  · rw [if_pos h3]; simp
  rw [if_neg h3]
  by_cases h4 : clsA c = 3
  · rw [if_pos h4]; cases withXB c <;> simp
  rw [if_neg h4]
  by_cases h5 : clsA c = 4
  · rw [if_pos h5]; cases withXB c <;> simp
  rw [if_neg h5]; simp
theorem plain_unk (c jt jf k : Int) (w : World) (s : Int) (H : ∀ W, Calls Tryd.prog 26 #[.int .u16 c] W fun e w' => e = .returned (.int .i64 s) ∧ Below W.heap.size W w') (HK : ∀ W, Calls Tryd.prog 45 #[.int .u16 c] W fun e w' => e = .returned (.bool false) ∧ Below W.heap.size W w') :
    Calls Tryd.prog 27 #[.agg #[.int .u16 c, .int .u8 jt, .int .u8 jf, .int .u32 k]] w fun e w' => e = .returned (.bool false) ∧ Below w.heap.size w w' := by
  have HO := Lib.hid H
  have HN := Lib.hid HK
  clear H HK
  go_enter Tryd.func27, Tryd.ntmps27
  go_wp2_with (first
    | (go_at_call 26; ((with_reducible refine (HO.out _).mono ?_); rintro e w1 ⟨rfl, b1⟩); have q0 := box_cells b1 0 _ rfl; have q1 := box_cells b1 1 _ rfl; have q2 := box_cells b1 2 _ rfl; have q3 := box_cells b1 3 _ rfl)
    | (go_at_call 45; ((with_reducible refine (HN.out _).mono ?_); rintro e w2 ⟨rfl, b2⟩); have p1 := (b2.cell (World.block_lt_of_cell? _ _ q1)).trans q1; have p2 := (b2.cell (World.block_lt_of_cell? _ _ q2)).trans q2; have p3 := (b2.cell (World.block_lt_of_cell? _ _ q3)).trans q3))
  go_ret
  exact ⟨rfl, ((Below.refl _ _).alloc (Nat.le_refl _) _).trans ((b1.trans (b2.mono b1.size)).mono (by simp))⟩
theorem plain_0a (c jt jf k : Int) (w : World) (hjt : jt ≠ 0) (H : ∀ W, Calls Tryd.prog 26 #[.int .u16 c] W fun e w' => e = .returned (.int .i64 0) ∧ Below W.heap.size W w') (HK : ∀ W, Calls Tryd.prog 45 #[.int .u16 c] W fun e w' => e = .returned (.bool true) ∧ Below W.heap.size W w') :
    Calls Tryd.prog 27 #[.agg #[.int .u16 c, .int .u8 jt, .int .u8 jf, .int .u32 k]] w fun e w' => e = .returned (.bool false) ∧ Below w.heap.size w w' := by
  have HO := Lib.hid H
  have HN := Lib.hid HK
  clear H HK
  have tjt : (jt != 0) = true := by simp [hjt]
  go_enter Tryd.func27, Tryd.ntmps27
  go_wp2_with (first
    | (go_at_call 26; ((with_reducible refine (HO.out _).mono ?_); rintro e w1 ⟨rfl, b1⟩); have q0 := box_cells b1 0 _ rfl; have q1 := box_cells b1 1 _ rfl; have q2 := box_cells b1 2 _ rfl; have q3 := box_cells b1 3 _ rfl)
    | (go_at_call 45; ((with_reducible refine (HN.out _).mono ?_); rintro e w2 ⟨rfl, b2⟩); have p1 := (b2.cell (World.block_lt_of_cell? _ _ q1)).trans q1; have p2 := (b2.cell (World.block_lt_of_cell? _ _ q2)).trans q2; have p3 := (b2.cell (World.block_lt_of_cell? _ _ q3)).trans q3))
  go_ret
  exact ⟨rfl, ((Below.refl _ _).alloc (Nat.le_refl _) _).trans ((b1.trans (b2.mono b1.size)).mono (by simp))⟩
theorem plain_0b (c jf k : Int) (w : World) (hjf : jf ≠ 0) (H : ∀ W, Calls Tryd.prog 26 #[.int .u16 c] W fun e w' => e = .returned (.int .i64 0) ∧ Below W.heap.size W w') (HK : ∀ W, Calls Tryd.prog 45 #[.int .u16 c] W fun e w' => e = .returned (.bool true) ∧ Below W.heap.size W w') :
    Calls Tryd.prog 27 #[.agg #[.int .u16 c, .int .u8 0, .int .u8 jf, .int .u32 k]] w fun e w' => e = .returned (.bool false) ∧ Below w.heap.size w w' := by
  have HO := Lib.hid H
  have HN := Lib.hid HK
  clear H HK
  have tjf : (jf != 0) = true := by simp [hjf]
  go_enter Tryd.func27, Tryd.ntmps27
  go_wp2_with (first
    | (go_at_call 26; ((with_reducible refine (HO.out _).mono ?_); rintro e w1 ⟨rfl, b1⟩); have q0 := box_cells b1 0 _ rfl; have q1 := box_cells b1 1 _ rfl; have q2 := box_cells b1 2 _ rfl; have q3 := box_cells b1 3 _ rfl)
    | (go_at_call 45; ((with_reducible refine (HN.out _).mono ?_); rintro e w2 ⟨rfl, b2⟩); have p1 := (b2.cell (World.block_lt_of_cell? _ _ q1)).trans q1; have p2 := (b2.cell (World.block_lt_of_cell? _ _ q2)).trans q2; have p3 := (b2.cell (World.block_lt_of_cell? _ _ q3)).trans q3))
  go_ret
  exact ⟨rfl, ((Below.refl _ _).alloc (Nat.le_refl _) _).trans ((b1.trans (b2.mono b1.size)).mono (by simp))⟩
theorem plain_0c (c k : Int) (w : World)  (H : ∀ W, Calls Tryd.prog 26 #[.int .u16 c] W fun e w' => e = .returned (.int .i64 0) ∧ Below W.heap.size W w') (HK : ∀ W, Calls Tryd.prog 45 #[.int .u16 c] W fun e w' => e = .returned (.bool true) ∧ Below W.heap.size W w') :
    Calls Tryd.prog 27 #[.agg #[.int .u16 c, .int .u8 0, .int .u8 0, .int .u32 k]] w fun e w' => e = .returned (.bool (k == 0)) ∧ Below w.heap.size w w' := by
  have HO := Lib.hid H
  have HN := Lib.hid HK
  clear H HK
  go_enter Tryd.func27, Tryd.ntmps27
  go_wp2_with (first
    | (go_at_call 26; ((with_reducible refine (HO.out _).mono ?_); rintro e w1 ⟨rfl, b1⟩); have q0 := box_cells b1 0 _ rfl; have q1 := box_cells b1 1 _ rfl; have q2 := box_cells b1 2 _ rfl; have q3 := box_cells b1 3 _ rfl)
    | (go_at_call 45; ((with_reducible refine (HN.out _).mono ?_); rintro e w2 ⟨rfl, b2⟩); have p1 := (b2.cell (World.block_lt_of_cell? _ _ q1)).trans q1; have p2 := (b2.cell (World.block_lt_of_cell? _ _ q2)).trans q2; have p3 := (b2.cell (World.block_lt_of_cell? _ _ q3)).trans q3))
  go_ret
  exact ⟨rfl, ((Below.refl _ _).alloc (Nat.le_refl _) _).trans ((b1.trans (b2.mono b1.size)).mono (by simp))⟩
theorem plain_1a (c jt jf k : Int) (w : World) (hjt : jt ≠ 0) (H : ∀ W, Calls Tryd.prog 26 #[.int .u16 c] W fun e w' => e = .returned (.int .i64 1) ∧ Below W.heap.size W w') (HK : ∀ W, Calls Tryd.prog 45 #[.int .u16 c] W fun e w' => e = .returned (.bool true) ∧ Below W.heap.size W w') :
    Calls Tryd.prog 27 #[.agg #[.int .u16 c, .int .u8 jt, .int .u8 jf, .int .u32 k]] w fun e w' => e = .returned (.bool false) ∧ Below w.heap.size w w' := by
  have HO := Lib.hid H
  have HN := Lib.hid HK
  clear H HK
  have tjt : (jt != 0) = true := by simp [hjt]
  go_enter Tryd.func27, Tryd.ntmps27
  go_wp2_with (first
    | (go_at_call 26; ((with_reducible refine (HO.out _).mono ?_); rintro e w1 ⟨rfl, b1⟩); have q0 := box_cells b1 0 _ rfl; have q1 := box_cells b1 1 _ rfl; have q2 := box_cells b1 2 _ rfl; have q3 := box_cells b1 3 _ rfl)
    | (go_at_call 45; ((with_reducible refine (HN.out _).mono ?_); rintro e w2 ⟨rfl, b2⟩); have p1 := (b2.cell (World.block_lt_of_cell? _ _ q1)).trans q1; have p2 := (b2.cell (World.block_lt_of_cell? _ _ q2)).trans q2; have p3 := (b2.cell (World.block_lt_of_cell? _ _ q3)).trans q3))
  go_ret
  exact ⟨rfl, ((Below.refl _ _).alloc (Nat.le_refl _) _).trans ((b1.trans (b2.mono b1.size)).mono (by simp))⟩
theorem plain_1b (c jf k : Int) (w : World) (hjf : jf ≠ 0) (H : ∀ W, Calls Tryd.prog 26 #[.int .u16 c] W fun e w' => e = .returned (.int .i64 1) ∧ Below W.heap.size W w') (HK : ∀ W, Calls Tryd.prog 45 #[.int .u16 c] W fun e w' => e = .returned (.bool true) ∧ Below W.heap.size W w') :
    Calls Tryd.prog 27 #[.agg #[.int .u16 c, .int .u8 0, .int .u8 jf, .int .u32 k]] w fun e w' => e = .returned (.bool false) ∧ Below w.heap.size w w' := by
  have HO := Lib.hid H
  have HN := Lib.hid HK
  clear H HK
  have tjf : (jf != 0) = true := by simp [hjf]
  go_enter Tryd.func27, Tryd.ntmps27
  go_wp2_with (first
    | (go_at_call 26; ((with_reducible refine (HO.out _).mono ?_); rintro e w1 ⟨rfl, b1⟩); have q0 := box_cells b1 0 _ rfl; have q1 := box_cells b1 1 _ rfl; have q2 := box_cells b1 2 _ rfl; have q3 := box_cells b1 3 _ rfl)
    | (go_at_call 45; ((with_reducible refine (HN.out _).mono ?_); rintro e w2 ⟨rfl, b2⟩); have p1 := (b2.cell (World.block_lt_of_cell? _ _ q1)).trans q1; have p2 := (b2.cell (World.block_lt_of_cell? _ _ q2)).trans q2; have p3 := (b2.cell (World.block_lt_of_cell? _ _ q3)).trans q3))
  go_ret
  exact ⟨rfl, ((Below.refl _ _).alloc (Nat.le_refl _) _).trans ((b1.trans (b2.mono b1.size)).mono (by simp))⟩
theorem plain_1c (c k : Int) (w : World)  (H : ∀ W, Calls Tryd.prog 26 #[.int .u16 c] W fun e w' => e = .returned (.int .i64 1) ∧ Below W.heap.size W w') (HK : ∀ W, Calls Tryd.prog 45 #[.int .u16 c] W fun e w' => e = .returned (.bool true) ∧ Below W.heap.size W w') :
    Calls Tryd.prog 27 #[.agg #[.int .u16 c, .int .u8 0, .int .u8 0, .int .u32 k]] w fun e w' => e = .returned (.bool true) ∧ Below w.heap.size w w' := by
  have HO := Lib.hid H
  have HN := Lib.hid HK
  clear H HK
  go_enter Tryd.func27, Tryd.ntmps27
  go_wp2_with (first
    | (go_at_call 26; ((with_reducible refine (HO.out _).mono ?_); rintro e w1 ⟨rfl, b1⟩); have q0 := box_cells b1 0 _ rfl; have q1 := box_cells b1 1 _ rfl; have q2 := box_cells b1 2 _ rfl; have q3 := box_cells b1 3 _ rfl)
    | (go_at_call 45; ((with_reducible refine (HN.out _).mono ?_); rintro e w2 ⟨rfl, b2⟩); have p1 := (b2.cell (World.block_lt_of_cell? _ _ q1)).trans q1; have p2 := (b2.cell (World.block_lt_of_cell? _ _ q2)).trans q2; have p3 := (b2.cell (World.block_lt_of_cell? _ _ q3)).trans q3))
  go_ret
  exact ⟨rfl, ((Below.refl _ _).alloc (Nat.le_refl _) _).trans ((b1.trans (b2.mono b1.size)).mono (by simp))⟩
theorem plain_2a (c jt jf k : Int) (w : World) (hjt : jt ≠ 0) (H : ∀ W, Calls Tryd.prog 26 #[.int .u16 c] W fun e w' => e = .returned (.int .i64 2) ∧ Below W.heap.size W w') (HK : ∀ W, Calls Tryd.prog 45 #[.int .u16 c] W fun e w' => e = .returned (.bool true) ∧ Below W.heap.size W w') :
    Calls Tryd.prog 27 #[.agg #[.int .u16 c, .int .u8 jt, .int .u8 jf, .int .u32 k]] w fun e w' => e = .returned (.bool false) ∧ Below w.heap.size w w' := by
  have HO := Lib.hid H
  have HN := Lib.hid HK
  clear H HK
  have tjt : (jt != 0) = true := by simp [hjt]
  go_enter Tryd.func27, Tryd.ntmps27
  go_wp2_with (first
    | (go_at_call 26; ((with_reducible refine (HO.out _).mono ?_); rintro e w1 ⟨rfl, b1⟩); have q0 := box_cells b1 0 _ rfl; have q1 := box_cells b1 1 _ rfl; have q2 := box_cells b1 2 _ rfl; have q3 := box_cells b1 3 _ rfl)
    | (go_at_call 45; ((with_reducible refine (HN.out _).mono ?_); rintro e w2 ⟨rfl, b2⟩); have p1 := (b2.cell (World.block_lt_of_cell? _ _ q1)).trans q1; have p2 := (b2.cell (World.block_lt_of_cell? _ _ q2)).trans q2; have p3 := (b2.cell (World.block_lt_of_cell? _ _ q3)).trans q3))
  go_ret
  exact ⟨rfl, ((Below.refl _ _).alloc (Nat.le_refl _) _).trans ((b1.trans (b2.mono b1.size)).mono (by simp))⟩
theorem plain_2b (c jf k : Int) (w : World) (hjf : jf ≠ 0) (H : ∀ W, Calls Tryd.prog 26 #[.int .u16 c] W fun e w' => e = .returned (.int .i64 2) ∧ Below W.heap.size W w') (HK : ∀ W, Calls Tryd.prog 45 #[.int .u16 c] W fun e w' => e = .returned (.bool true) ∧ Below W.heap.size W w') :
    Calls Tryd.prog 27 #[.agg #[.int .u16 c, .int .u8 0, .int .u8 jf, .int .u32 k]] w fun e w' => e = .returned (.bool false) ∧ Below w.heap.size w w' := by
  have HO := Lib.hid H
  have HN := Lib.hid HK
  clear H HK
  have tjf : (jf != 0) = true := by simp [hjf]
  go_enter Tryd.func27, Tryd.ntmps27
  go_wp2_with (first
    | (go_at_call 26; ((with_reducible refine (HO.out _).mono ?_); rintro e w1 ⟨rfl, b1⟩); have q0 := box_cells b1 0 _ rfl; have q1 := box_cells b1 1 _ rfl; have q2 := box_cells b1 2 _ rfl; have q3 := box_cells b1 3 _ rfl)
    | (go_at_call 45; ((with_reducible refine (HN.out _).mono ?_); rintro e w2 ⟨rfl, b2⟩); have p1 := (b2.cell (World.block_lt_of_cell? _ _ q1)).trans q1; have p2 := (b2.cell (World.block_lt_of_cell? _ _ q2)).trans q2; have p3 := (b2.cell (World.block_lt_of_cell? _ _ q3)).trans q3))
  go_ret
  exact ⟨rfl, ((Below.refl _ _).alloc (Nat.le_refl _) _).trans ((b1.trans (b2.mono b1.size)).mono (by simp))⟩
theorem plain_2c (c k : Int) (w : World)  (H : ∀ W, Calls Tryd.prog 26 #[.int .u16 c] W fun e w' => e = .returned (.int .i64 2) ∧ Below W.heap.size W w') (HK : ∀ W, Calls Tryd.prog 45 #[.int .u16 c] W fun e w' => e = .returned (.bool true) ∧ Below W.heap.size W w') :
    Calls Tryd.prog 27 #[.agg #[.int .u16 c, .int .u8 0, .int .u8 0, .int .u32 k]] w fun e w' => e = .returned (.bool true) ∧ Below w.heap.size w w' := by
  have HO := Lib.hid H
  have HN := Lib.hid HK
  clear H HK
  go_enter Tryd.func27, Tryd.ntmps27
  go_wp2_with (first
    | (go_at_call 26; ((with_reducible refine (HO.out _).mono ?_); rintro e w1 ⟨rfl, b1⟩); have q0 := box_cells b1 0 _ rfl; have q1 := box_cells b1 1 _ rfl; have q2 := box_cells b1 2 _ rfl; have q3 := box_cells b1 3 _ rfl)
    | (go_at_call 45; ((with_reducible refine (HN.out _).mono ?_); rintro e w2 ⟨rfl, b2⟩); have p1 := (b2.cell (World.block_lt_of_cell? _ _ q1)).trans q1; have p2 := (b2.cell (World.block_lt_of_cell? _ _ q2)).trans q2; have p3 := (b2.cell (World.block_lt_of_cell? _ _ q3)).trans q3))
  go_ret
  exact ⟨rfl, ((Below.refl _ _).alloc (Nat.le_refl _) _).trans ((b1.trans (b2.mono b1.size)).mono (by simp))⟩
theorem plain_3 (c jt jf k : Int) (w : World)  (H : ∀ W, Calls Tryd.prog 26 #[.int .u16 c] W fun e w' => e = .returned (.int .i64 3) ∧ Below W.heap.size W w') (HK : ∀ W, Calls Tryd.prog 45 #[.int .u16 c] W fun e w' => e = .returned (.bool true) ∧ Below W.heap.size W w') :
    Calls Tryd.prog 27 #[.agg #[.int .u16 c, .int .u8 jt, .int .u8 jf, .int .u32 k]] w fun e w' => e = .returned (.bool true) ∧ Below w.heap.size w w' := by
  have HO := Lib.hid H
  have HN := Lib.hid HK
  clear H HK
  go_enter Tryd.func27, Tryd.ntmps27
  go_wp2_with (first
    | (go_at_call 26; ((with_reducible refine (HO.out _).mono ?_); rintro e w1 ⟨rfl, b1⟩); have q0 := box_cells b1 0 _ rfl; have q1 := box_cells b1 1 _ rfl; have q2 := box_cells b1 2 _ rfl; have q3 := box_cells b1 3 _ rfl)
    | (go_at_call 45; ((with_reducible refine (HN.out _).mono ?_); rintro e w2 ⟨rfl, b2⟩); have p1 := (b2.cell (World.block_lt_of_cell? _ _ q1)).trans q1; have p2 := (b2.cell (World.block_lt_of_cell? _ _ q2)).trans q2; have p3 := (b2.cell (World.block_lt_of_cell? _ _ q3)).trans q3))
  go_ret
  exact ⟨rfl, ((Below.refl _ _).alloc (Nat.le_refl _) _).trans ((b1.trans (b2.mono b1.size)).mono (by simp))⟩
theorem plain_4 (c jt jf k : Int) (w : World)  (H : ∀ W, Calls Tryd.prog 26 #[.int .u16 c] W fun e w' => e = .returned (.int .i64 4) ∧ Below W.heap.size W w') (HK : ∀ W, Calls Tryd.prog 45 #[.int .u16 c] W fun e w' => e = .returned (.bool true) ∧ Below W.heap.size W w') :
    Calls Tryd.prog 27 #[.agg #[.int .u16 c, .int .u8 jt, .int .u8 jf, .int .u32 k]] w fun e w' => e = .returned (.bool (k == 0)) ∧ Below w.heap.size w w' := by
  have HO := Lib.hid H
  have HN := Lib.hid HK
  clear H HK
  go_enter Tryd.func27, Tryd.ntmps27
  go_wp2_with (first
    | (go_at_call 26; ((with_reducible refine (HO.out _).mono ?_); rintro e w1 ⟨rfl, b1⟩); have q0 := box_cells b1 0 _ rfl; have q1 := box_cells b1 1 _ rfl; have q2 := box_cells b1 2 _ rfl; have q3 := box_cells b1 3 _ rfl)
    | (go_at_call 45; ((with_reducible refine (HN.out _).mono ?_); rintro e w2 ⟨rfl, b2⟩); have p1 := (b2.cell (World.block_lt_of_cell? _ _ q1)).trans q1; have p2 := (b2.cell (World.block_lt_of_cell? _ _ q2)).trans q2; have p3 := (b2.cell (World.block_lt_of_cell? _ _ q3)).trans q3))
  go_ret
  exact ⟨rfl, ((Below.refl _ _).alloc (Nat.le_refl _) _).trans ((b1.trans (b2.mono b1.size)).mono (by simp))⟩
theorem refPlain (i : Ins) (w : World) : Calls Tryd.prog 27 #[.agg #[.int .u16 i.c, .int .u8 i.jt, .int .u8 i.jf, .int .u32 i.k]] w fun e w' => e = .returned (.bool (plainI i)) ∧ Below w.heap.size w w' := by
  obtain ⟨c, jt, jf, k⟩ := i
  have H := fun W => refShape c W
  have HK := fun W => refKnown_any c W
  unfold plainI
  simp only
  have h5 := shapeI_five c
  obtain ⟨sh, hs⟩ : ∃ x, x = shapeI c := ⟨_, rfl⟩
  obtain ⟨kb, hk⟩ : ∃ x, x = knownB c := ⟨_, rfl⟩
  rw [← hs] at H h5
  rw [← hk] at HK
  rw [← hs, ← hk]
  clear hs hk
  cases kb with
  | false => exact plain_unk c jt jf k w sh H HK
  | true =>
    rcases h5 with rfl | rfl | rfl | rfl | rfl
    · by_cases h1 : jt = 0
      · subst h1
        by_cases h2 : jf = 0
        · subst h2; exact plain_0c c k w H HK
        · have := plain_0b c jf k w h2 H HK
          simpa [show (jf != 0) = true from bne_iff_ne.2 h2] using this
      · have := plain_0a c jt jf k w h1 H HK
        simpa [show (jt != 0) = true from bne_iff_ne.2 h1] using this
    · by_cases h1 : jt = 0
      · subst h1
        by_cases h2 : jf = 0
        · subst h2; exact plain_1c c k w H HK
        · have := plain_1b c jf k w h2 H HK
          simpa [show (jf != 0) = true from bne_iff_ne.2 h2] using this
      · have := plain_1a c jt jf k w h1 H HK
        simpa [show (jt != 0) = true from bne_iff_ne.2 h1] using this
    · by_cases h1 : jt = 0
      · subst h1
        by_cases h2 : jf = 0
        · subst h2; exact plain_2c c k w H HK
        · have := plain_2b c jf k w h2 H HK
          simpa [show (jf != 0) = true from bne_iff_ne.2 h2] using this
      · have := plain_2a c jt jf k w h1 H HK
        simpa [show (jt != 0) = true from bne_iff_ne.2 h1] using this
    · exact plain_3 c jt jf k w H HK
    · exact plain_4 c jt jf k w H HK
end Go.Proofs.YtlneiiljdghmjaaDoor
