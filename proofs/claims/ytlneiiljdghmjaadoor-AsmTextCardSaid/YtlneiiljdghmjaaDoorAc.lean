/- What the document's own shape and plain return: which fields a code uses, and whether the others are 0. No condition. -/
import Derived.Test.YtlneiiljdghmjaaDoorAa
import Derived.Deep.RegionHeld3
namespace Go.Proofs.YtlneiiljdghmjaaDoor
open Go.RowKit
set_option linter.unusedVariables false
attribute [local go_sem ↓] Go.wp_at_zero Go.wp_at_succ

theorem name_code : ∀ o ∈ allL, (o.name.toList = [108, 100, 108, 101, 110] → o.code = 128) ∧ (o.name.toList = [108, 100, 120, 108, 101, 110] → o.code = 129) ∧ (o.name.toList = [110, 101, 103] → o.code = 132) ∧ (o.name.toList = [114, 101, 116, 97] → o.code = 22) ∧ (o.name.toList = [106, 97] → o.code = 5) := by
  have h : allL.all (fun o => decide ((o.name.toList = [108, 100, 108, 101, 110] → o.code = 128) ∧ (o.name.toList = [108, 100, 120, 108, 101, 110] → o.code = 129) ∧ (o.name.toList = [110, 101, 103] → o.code = 132) ∧ (o.name.toList = [114, 101, 116, 97] → o.code = 22) ∧ (o.name.toList = [106, 97] → o.code = 5))) = true := by decide +kernel
  intro o ho
  exact of_decide_eq_true (List.all_eq_true.1 h o ho)
theorem ofL_code {l : List One} {c : Int} (h : ofL l c ≠ noOne) : (ofL l c).code = c := by
  induction l with
  | nil => exact absurd rfl h
  | cons o r ih =>
    unfold ofL at h ⊢
    by_cases e : o.code = c
    · rw [if_pos e]; exact e
    · rw [if_neg e] at h ⊢; exact ih h
theorem name_ne {c : Int} (h128 : c ≠ 128) (h129 : c ≠ 129) (h132 : c ≠ 132) (h22 : c ≠ 22) (h5 : c ≠ 5) : ((ofL allL c).name.toList == [108, 100, 108, 101, 110]) = false ∧ ((ofL allL c).name.toList == [108, 100, 120, 108, 101, 110]) = false ∧ ((ofL allL c).name.toList == [110, 101, 103]) = false ∧ ((ofL allL c).name.toList == [114, 101, 116, 97]) = false ∧ ((ofL allL c).name.toList == [106, 97]) = false := by
  by_cases h : ofL allL c = noOne
  · rw [h]; exact ⟨by decide +kernel, by decide +kernel, by decide +kernel, by decide +kernel, by decide +kernel⟩
  · have hc := ofL_code h
    have hm := (ofL_cases allL c).resolve_left h
    obtain ⟨k128, k129, k132, k22, k5⟩ := name_code _ hm
    rw [hc] at k128 k129 k132 k22 k5
    exact ⟨beq_eq_false_iff_ne.2 (fun e => h128 (k128 e)), beq_eq_false_iff_ne.2 (fun e => h129 (k129 e)), beq_eq_false_iff_ne.2 (fun e => h132 (k132 e)), beq_eq_false_iff_ne.2 (fun e => h22 (k22 e)), beq_eq_false_iff_ne.2 (fun e => h5 (k5 e))⟩
theorem shape_ldlen (w : World) : Calls Tryd.prog 26 #[.int .u16 128] w fun e w' => e = .returned (.int .i64 0) ∧ Below w.heap.size w w' := by
  have HO := Lib.hid (refOf_any 128 w)
  rw [show ofL allL 128 = ⟨128, ⟨#[108, 100, 108, 101, 110]⟩, 1⟩ from by kernel_rfl] at HO
  simp only at HO
  go_enter Tryd.func26, Tryd.ntmps26
  go_wp2_with (go_at_call 33; ((with_reducible refine HO.out.mono ?_); rintro e w1 ⟨rfl, b1⟩))
  go_ret
  exact ⟨rfl, b1.alloc b1.size _⟩
theorem shape_ldxlen (w : World) : Calls Tryd.prog 26 #[.int .u16 129] w fun e w' => e = .returned (.int .i64 0) ∧ Below w.heap.size w w' := by
  have HO := Lib.hid (refOf_any 129 w)
  rw [show ofL allL 129 = ⟨129, ⟨#[108, 100, 120, 108, 101, 110]⟩, 1⟩ from by kernel_rfl] at HO
  simp only at HO
  go_enter Tryd.func26, Tryd.ntmps26
  go_wp2_with (go_at_call 33; ((with_reducible refine HO.out.mono ?_); rintro e w1 ⟨rfl, b1⟩))
  go_ret
  exact ⟨rfl, b1.alloc b1.size _⟩
theorem shape_neg (w : World) : Calls Tryd.prog 26 #[.int .u16 132] w fun e w' => e = .returned (.int .i64 0) ∧ Below w.heap.size w w' := by
  have HO := Lib.hid (refOf_any 132 w)
  rw [show ofL allL 132 = ⟨132, ⟨#[110, 101, 103]⟩, 3⟩ from by kernel_rfl] at HO
  simp only at HO
  go_enter Tryd.func26, Tryd.ntmps26
  go_wp2_with (go_at_call 33; ((with_reducible refine HO.out.mono ?_); rintro e w1 ⟨rfl, b1⟩))
  go_ret
  exact ⟨rfl, b1.alloc b1.size _⟩
theorem shape_reta (w : World) : Calls Tryd.prog 26 #[.int .u16 22] w fun e w' => e = .returned (.int .i64 0) ∧ Below w.heap.size w w' := by
  have HO := Lib.hid (refOf_any 22 w)
  rw [show ofL allL 22 = ⟨22, ⟨#[114, 101, 116, 97]⟩, 5⟩ from by kernel_rfl] at HO
  simp only at HO
  go_enter Tryd.func26, Tryd.ntmps26
  go_wp2_with (go_at_call 33; ((with_reducible refine HO.out.mono ?_); rintro e w1 ⟨rfl, b1⟩))
  go_ret
  exact ⟨rfl, b1.alloc b1.size _⟩
theorem shape_ja (w : World) : Calls Tryd.prog 26 #[.int .u16 5] w fun e w' => e = .returned (.int .i64 2) ∧ Below w.heap.size w w' := by
  have HO := Lib.hid (refOf_any 5 w)
  rw [show ofL allL 5 = ⟨5, ⟨#[106, 97]⟩, 4⟩ from by kernel_rfl] at HO
  simp only at HO
  go_enter Tryd.func26, Tryd.ntmps26
  go_wp2_with (go_at_call 33; ((with_reducible refine HO.out.mono ?_); rintro e w1 ⟨rfl, b1⟩))
  go_ret
  exact ⟨rfl, b1.alloc b1.size _⟩
theorem shape_c1 (c xc : Int) (xn : ByteArray) (b : Bool) (w : World) (e128 : (xn.toList == [108, 100, 108, 101, 110]) = false) (e129 : (xn.toList == [108, 100, 120, 108, 101, 110]) = false) (e132 : (xn.toList == [110, 101, 103]) = false) (e22 : (xn.toList == [114, 101, 116, 97]) = false) (e5 : (xn.toList == [106, 97]) = false)
    (H : Calls Tryd.prog 33 #[.int .u16 c] w fun e w' => e = .returned (.agg #[.int .u16 xc, .string xn, .int .u8 1]) ∧ Below w.heap.size w w') (HX : ∀ W, Calls Tryd.prog 44 #[.int .u16 c] W fun e w' => e = .returned (.bool b) ∧ Below W.heap.size W w') :
    Calls Tryd.prog 26 #[.int .u16 c] w fun e w' => e = .returned (.int .i64 1) ∧ Below w.heap.size w w' := by
  have HO := Lib.hid H
  have HW := Lib.hid HX
  clear H HX
  go_enter Tryd.func26, Tryd.ntmps26
  go_wp2_with (first
    | (go_at_call 33; ((with_reducible refine HO.out.mono ?_); rintro e w1 ⟨rfl, b1⟩))
    | (go_at_call 44; ((with_reducible refine (HW.out _).mono ?_); rintro e w2 ⟨rfl, b2⟩); have q0 := box_cells b2 0 _ rfl; have q1 := box_cells b2 1 _ rfl; have q2 := box_cells b2 2 _ rfl))
  go_ret
  exact ⟨rfl, (b1.alloc b1.size _).trans (b2.mono (by have := b1.size; rw [World.size_alloc]; omega))⟩
theorem shape_c2 (c xc : Int) (xn : ByteArray) (b : Bool) (w : World) (e128 : (xn.toList == [108, 100, 108, 101, 110]) = false) (e129 : (xn.toList == [108, 100, 120, 108, 101, 110]) = false) (e132 : (xn.toList == [110, 101, 103]) = false) (e22 : (xn.toList == [114, 101, 116, 97]) = false) (e5 : (xn.toList == [106, 97]) = false)
    (H : Calls Tryd.prog 33 #[.int .u16 c] w fun e w' => e = .returned (.agg #[.int .u16 xc, .string xn, .int .u8 2]) ∧ Below w.heap.size w w') (HX : ∀ W, Calls Tryd.prog 44 #[.int .u16 c] W fun e w' => e = .returned (.bool b) ∧ Below W.heap.size W w') :
    Calls Tryd.prog 26 #[.int .u16 c] w fun e w' => e = .returned (.int .i64 1) ∧ Below w.heap.size w w' := by
  have HO := Lib.hid H
  have HW := Lib.hid HX
  clear H HX
  go_enter Tryd.func26, Tryd.ntmps26
  go_wp2_with (first
    | (go_at_call 33; ((with_reducible refine HO.out.mono ?_); rintro e w1 ⟨rfl, b1⟩))
    | (go_at_call 44; ((with_reducible refine (HW.out _).mono ?_); rintro e w2 ⟨rfl, b2⟩); have q0 := box_cells b2 0 _ rfl; have q1 := box_cells b2 1 _ rfl; have q2 := box_cells b2 2 _ rfl))
  go_ret
  exact ⟨rfl, (b1.alloc b1.size _).trans (b2.mono (by have := b1.size; rw [World.size_alloc]; omega))⟩
theorem shape_c5 (c xc : Int) (xn : ByteArray) (b : Bool) (w : World) (e128 : (xn.toList == [108, 100, 108, 101, 110]) = false) (e129 : (xn.toList == [108, 100, 120, 108, 101, 110]) = false) (e132 : (xn.toList == [110, 101, 103]) = false) (e22 : (xn.toList == [114, 101, 116, 97]) = false) (e5 : (xn.toList == [106, 97]) = false)
    (H : Calls Tryd.prog 33 #[.int .u16 c] w fun e w' => e = .returned (.agg #[.int .u16 xc, .string xn, .int .u8 5]) ∧ Below w.heap.size w w') (HX : ∀ W, Calls Tryd.prog 44 #[.int .u16 c] W fun e w' => e = .returned (.bool b) ∧ Below W.heap.size W w') :
    Calls Tryd.prog 26 #[.int .u16 c] w fun e w' => e = .returned (.int .i64 1) ∧ Below w.heap.size w w' := by
  have HO := Lib.hid H
  have HW := Lib.hid HX
  clear H HX
  go_enter Tryd.func26, Tryd.ntmps26
  go_wp2_with (first
    | (go_at_call 33; ((with_reducible refine HO.out.mono ?_); rintro e w1 ⟨rfl, b1⟩))
    | (go_at_call 44; ((with_reducible refine (HW.out _).mono ?_); rintro e w2 ⟨rfl, b2⟩); have q0 := box_cells b2 0 _ rfl; have q1 := box_cells b2 1 _ rfl; have q2 := box_cells b2 2 _ rfl))
  go_ret
  exact ⟨rfl, (b1.alloc b1.size _).trans (b2.mono (by have := b1.size; rw [World.size_alloc]; omega))⟩
theorem shape_c3x (c xc : Int) (xn : ByteArray) (b : Bool) (w : World) (e128 : (xn.toList == [108, 100, 108, 101, 110]) = false) (e129 : (xn.toList == [108, 100, 120, 108, 101, 110]) = false) (e132 : (xn.toList == [110, 101, 103]) = false) (e22 : (xn.toList == [114, 101, 116, 97]) = false) (e5 : (xn.toList == [106, 97]) = false)
    (H : Calls Tryd.prog 33 #[.int .u16 c] w fun e w' => e = .returned (.agg #[.int .u16 xc, .string xn, .int .u8 3]) ∧ Below w.heap.size w w') (HX : ∀ W, Calls Tryd.prog 44 #[.int .u16 c] W fun e w' => e = .returned (.bool true) ∧ Below W.heap.size W w') :
    Calls Tryd.prog 26 #[.int .u16 c] w fun e w' => e = .returned (.int .i64 0) ∧ Below w.heap.size w w' := by
  have HO := Lib.hid H
  have HW := Lib.hid HX
  clear H HX
  go_enter Tryd.func26, Tryd.ntmps26
  go_wp2_with (first
    | (go_at_call 33; ((with_reducible refine HO.out.mono ?_); rintro e w1 ⟨rfl, b1⟩))
    | (go_at_call 44; ((with_reducible refine (HW.out _).mono ?_); rintro e w2 ⟨rfl, b2⟩); have q0 := box_cells b2 0 _ rfl; have q1 := box_cells b2 1 _ rfl; have q2 := box_cells b2 2 _ rfl))
  go_ret
  exact ⟨rfl, (b1.alloc b1.size _).trans (b2.mono (by have := b1.size; rw [World.size_alloc]; omega))⟩
theorem shape_c3 (c xc : Int) (xn : ByteArray) (b : Bool) (w : World) (e128 : (xn.toList == [108, 100, 108, 101, 110]) = false) (e129 : (xn.toList == [108, 100, 120, 108, 101, 110]) = false) (e132 : (xn.toList == [110, 101, 103]) = false) (e22 : (xn.toList == [114, 101, 116, 97]) = false) (e5 : (xn.toList == [106, 97]) = false)
    (H : Calls Tryd.prog 33 #[.int .u16 c] w fun e w' => e = .returned (.agg #[.int .u16 xc, .string xn, .int .u8 3]) ∧ Below w.heap.size w w') (HX : ∀ W, Calls Tryd.prog 44 #[.int .u16 c] W fun e w' => e = .returned (.bool false) ∧ Below W.heap.size W w') :
    Calls Tryd.prog 26 #[.int .u16 c] w fun e w' => e = .returned (.int .i64 1) ∧ Below w.heap.size w w' := by
  have HO := Lib.hid H
  have HW := Lib.hid HX
  clear H HX
  go_enter Tryd.func26, Tryd.ntmps26
  go_wp2_with (first
    | (go_at_call 33; ((with_reducible refine HO.out.mono ?_); rintro e w1 ⟨rfl, b1⟩))
    | (go_at_call 44; ((with_reducible refine (HW.out _).mono ?_); rintro e w2 ⟨rfl, b2⟩); have q0 := box_cells b2 0 _ rfl; have q1 := box_cells b2 1 _ rfl; have q2 := box_cells b2 2 _ rfl))
  go_ret
  exact ⟨rfl, (b1.alloc b1.size _).trans (b2.mono (by have := b1.size; rw [World.size_alloc]; omega))⟩
theorem shape_c4x (c xc : Int) (xn : ByteArray) (b : Bool) (w : World) (e128 : (xn.toList == [108, 100, 108, 101, 110]) = false) (e129 : (xn.toList == [108, 100, 120, 108, 101, 110]) = false) (e132 : (xn.toList == [110, 101, 103]) = false) (e22 : (xn.toList == [114, 101, 116, 97]) = false) (e5 : (xn.toList == [106, 97]) = false)
    (H : Calls Tryd.prog 33 #[.int .u16 c] w fun e w' => e = .returned (.agg #[.int .u16 xc, .string xn, .int .u8 4]) ∧ Below w.heap.size w w') (HX : ∀ W, Calls Tryd.prog 44 #[.int .u16 c] W fun e w' => e = .returned (.bool true) ∧ Below W.heap.size W w') :
    Calls Tryd.prog 26 #[.int .u16 c] w fun e w' => e = .returned (.int .i64 4) ∧ Below w.heap.size w w' := by
  have HO := Lib.hid H
  have HW := Lib.hid HX
  clear H HX
  go_enter Tryd.func26, Tryd.ntmps26
  go_wp2_with (first
    | (go_at_call 33; ((with_reducible refine HO.out.mono ?_); rintro e w1 ⟨rfl, b1⟩))
    | (go_at_call 44; ((with_reducible refine (HW.out _).mono ?_); rintro e w2 ⟨rfl, b2⟩); have q0 := box_cells b2 0 _ rfl; have q1 := box_cells b2 1 _ rfl; have q2 := box_cells b2 2 _ rfl))
  go_ret
  exact ⟨rfl, (b1.alloc b1.size _).trans (b2.mono (by have := b1.size; rw [World.size_alloc]; omega))⟩
theorem shape_c4 (c xc : Int) (xn : ByteArray) (b : Bool) (w : World) (e128 : (xn.toList == [108, 100, 108, 101, 110]) = false) (e129 : (xn.toList == [108, 100, 120, 108, 101, 110]) = false) (e132 : (xn.toList == [110, 101, 103]) = false) (e22 : (xn.toList == [114, 101, 116, 97]) = false) (e5 : (xn.toList == [106, 97]) = false)
    (H : Calls Tryd.prog 33 #[.int .u16 c] w fun e w' => e = .returned (.agg #[.int .u16 xc, .string xn, .int .u8 4]) ∧ Below w.heap.size w w') (HX : ∀ W, Calls Tryd.prog 44 #[.int .u16 c] W fun e w' => e = .returned (.bool false) ∧ Below W.heap.size W w') :
    Calls Tryd.prog 26 #[.int .u16 c] w fun e w' => e = .returned (.int .i64 3) ∧ Below w.heap.size w w' := by
  have HO := Lib.hid H
  have HW := Lib.hid HX
  clear H HX
  go_enter Tryd.func26, Tryd.ntmps26
  go_wp2_with (first
    | (go_at_call 33; ((with_reducible refine HO.out.mono ?_); rintro e w1 ⟨rfl, b1⟩))
    | (go_at_call 44; ((with_reducible refine (HW.out _).mono ?_); rintro e w2 ⟨rfl, b2⟩); have q0 := box_cells b2 0 _ rfl; have q1 := box_cells b2 1 _ rfl; have q2 := box_cells b2 2 _ rfl))
  go_ret
  exact ⟨rfl, (b1.alloc b1.size _).trans (b2.mono (by have := b1.size; rw [World.size_alloc]; omega))⟩
theorem shape_c6 (c xc : Int) (xn : ByteArray) (b : Bool) (w : World) (e128 : (xn.toList == [108, 100, 108, 101, 110]) = false) (e129 : (xn.toList == [108, 100, 120, 108, 101, 110]) = false) (e132 : (xn.toList == [110, 101, 103]) = false) (e22 : (xn.toList == [114, 101, 116, 97]) = false) (e5 : (xn.toList == [106, 97]) = false)
    (H : Calls Tryd.prog 33 #[.int .u16 c] w fun e w' => e = .returned (.agg #[.int .u16 xc, .string xn, .int .u8 6]) ∧ Below w.heap.size w w') (HX : ∀ W, Calls Tryd.prog 44 #[.int .u16 c] W fun e w' => e = .returned (.bool b) ∧ Below W.heap.size W w') :
    Calls Tryd.prog 26 #[.int .u16 c] w fun e w' => e = .returned (.int .i64 0) ∧ Below w.heap.size w w' := by
  have HO := Lib.hid H
  have HW := Lib.hid HX
  clear H HX
  go_enter Tryd.func26, Tryd.ntmps26
  go_wp2_with (first
    | (go_at_call 33; ((with_reducible refine HO.out.mono ?_); rintro e w1 ⟨rfl, b1⟩))
    | (go_at_call 44; ((with_reducible refine (HW.out _).mono ?_); rintro e w2 ⟨rfl, b2⟩); have q0 := box_cells b2 0 _ rfl; have q1 := box_cells b2 1 _ rfl; have q2 := box_cells b2 2 _ rfl))
  go_ret
  exact ⟨rfl, (b1.alloc b1.size _).trans (b2.mono (by have := b1.size; rw [World.size_alloc]; omega))⟩
theorem shape_c0 (c xc : Int) (xn : ByteArray) (b : Bool) (w : World) (e128 : (xn.toList == [108, 100, 108, 101, 110]) = false) (e129 : (xn.toList == [108, 100, 120, 108, 101, 110]) = false) (e132 : (xn.toList == [110, 101, 103]) = false) (e22 : (xn.toList == [114, 101, 116, 97]) = false) (e5 : (xn.toList == [106, 97]) = false)
    (H : Calls Tryd.prog 33 #[.int .u16 c] w fun e w' => e = .returned (.agg #[.int .u16 xc, .string xn, .int .u8 0]) ∧ Below w.heap.size w w') (HX : ∀ W, Calls Tryd.prog 44 #[.int .u16 c] W fun e w' => e = .returned (.bool b) ∧ Below W.heap.size W w') :
    Calls Tryd.prog 26 #[.int .u16 c] w fun e w' => e = .returned (.int .i64 0) ∧ Below w.heap.size w w' := by
  have HO := Lib.hid H
  have HW := Lib.hid HX
  clear H HX
  go_enter Tryd.func26, Tryd.ntmps26
  go_wp2_with (first
    | (go_at_call 33; ((with_reducible refine HO.out.mono ?_); rintro e w1 ⟨rfl, b1⟩))
    | (go_at_call 44; ((with_reducible refine (HW.out _).mono ?_); rintro e w2 ⟨rfl, b2⟩); have q0 := box_cells b2 0 _ rfl; have q1 := box_cells b2 1 _ rfl; have q2 := box_cells b2 2 _ rfl))
  go_ret
  exact ⟨rfl, (b1.alloc b1.size _).trans (b2.mono (by have := b1.size; rw [World.size_alloc]; omega))⟩
theorem cls_six (c : Int) : (ofL allL c).cls = 0 ∨ (ofL allL c).cls = 1 ∨ (ofL allL c).cls = 2 ∨ (ofL allL c).cls = 3 ∨ (ofL allL c).cls = 4 ∨ (ofL allL c).cls = 5 ∨ (ofL allL c).cls = 6 := by
  rcases ofL_cases allL c with h | h
  · left; rw [h]; rfl
  · have := allL_good _ h; omega
theorem refShape (c : Int) (w : World) : Calls Tryd.prog 26 #[.int .u16 c] w fun e w' => e = .returned (.int .i64 (shapeI c)) ∧ Below w.heap.size w w' := by
  by_cases h128 : c = 128
  · subst h128; exact shape_ldlen w
  by_cases h129 : c = 129
  · subst h129; exact shape_ldxlen w
  by_cases h132 : c = 132
  · subst h132; exact shape_neg w
  by_cases h22 : c = 22
  · subst h22; exact shape_reta w
  by_cases h5 : c = 5
  · subst h5; exact shape_ja w
  obtain ⟨e128, e129, e132, e22, e5⟩ := name_ne h128 h129 h132 h22 h5
  have H := refOf_any c w
  have HX := fun W => refWithX_any c W
  unfold shapeI clsA
  rw [if_neg (by omega), if_neg h5]
  obtain ⟨xc, hxc⟩ : ∃ x, x = (ofL allL c).code := ⟨_, rfl⟩
  obtain ⟨xn, hxn⟩ : ∃ x, x = (ofL allL c).name := ⟨_, rfl⟩
  obtain ⟨b, hb⟩ : ∃ x, x = withXB c := ⟨_, rfl⟩
  have h6 := cls_six c
  obtain ⟨xk, hxk⟩ : ∃ x, x = (ofL allL c).cls := ⟨_, rfl⟩
  rw [← hxc, ← hxn, ← hxk] at H
  rw [← hxn] at e128 e129 e132 e22 e5
  rw [← hb] at HX
  rw [← hxk] at h6
  rw [← hb, ← hxk]
  clear hxc hxn hxk hb
  rcases h6 with rfl | rfl | rfl | rfl | rfl | rfl | rfl
  · exact shape_c0 c xc xn b w e128 e129 e132 e22 e5 H HX
  · exact shape_c1 c xc xn b w e128 e129 e132 e22 e5 H HX
  · exact shape_c2 c xc xn b w e128 e129 e132 e22 e5 H HX
  · cases b with
    | true => exact shape_c3x c xc xn true w e128 e129 e132 e22 e5 H HX
    | false => exact shape_c3 c xc xn false w e128 e129 e132 e22 e5 H HX
  · cases b with
    | true => exact shape_c4x c xc xn true w e128 e129 e132 e22 e5 H HX
    | false => exact shape_c4 c xc xn false w e128 e129 e132 e22 e5 H HX
  · exact shape_c5 c xc xn b w e128 e129 e132 e22 e5 H HX
  · exact shape_c6 c xc xn b w e128 e129 e132 e22 e5 H HX
end Go.Proofs.YtlneiiljdghmjaaDoor
