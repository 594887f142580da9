/- What the calls of the landed package data return: Word, Low, High, and the number of two words in a row. Condition: each number fits its kind. -/
import Derived.Test.YthoichjomfdgjaaTc
namespace Go.Proofs.Ythoichjomfdgjaa
open Go.RowKit
set_option linter.unusedVariables false
attribute [local go_sem ↓] Go.wp_at_zero Go.wp_at_succ

theorem lowC : DLowC := by
  intro a w h0 h1
  by_cases h2 : a < 0
  · have e : argB a = false := decide_eq_false (by omega)
    have e1 : lowV a = 0 := by unfold lowV; rw [e]; rfl
    rw [e, e1]
    clear e e1
    go_enter Try.func18, Try.ntmps18
    go_wp2
    go_ret2
    exact ⟨rfl, Below.refl _ _⟩
  · by_cases h3 : 6 ≤ a
    · have e : argB a = false := decide_eq_false (by omega)
      have e1 : lowV a = 0 := by unfold lowV; rw [e]; rfl
      rw [e, e1]
      clear e e1
      have h4 : 5 < a := by omega
      go_enter Try.func18, Try.ntmps18
      go_wp2
      go_ret2
      exact ⟨rfl, Below.refl _ _⟩
    · have e : argB a = true := decide_eq_true (by omega)
      have e1 : lowV a = 16 + 8 * a := by unfold lowV; rw [e]; rfl
      rw [e, e1]
      clear e e1
      have h4 : ¬ 5 < a := by omega
      have h5 : 0 ≤ a := by omega
      have h6 : a < 6 := by omega
      go_enter Try.func18, Try.ntmps18
      go_wp2
      go_ret2
      exact ⟨rfl, Below.refl _ _⟩
theorem highC : DHighC := by
  intro a w h0 h1
  have HL := Lib.hid (fun W => lowC a W h0 h1)
  by_cases h2 : 0 ≤ a ∧ a < 6
  · have e : argB a = true := decide_eq_true h2
    have e1 : lowV a = 16 + 8 * a := by unfold lowV; rw [e]; rfl
    have e2 : highV a = 20 + 8 * a := by unfold highV; rw [e]; rfl
    rw [e, e1] at HL
    rw [e, e2]
    clear e e1 e2
    have h3 := h2.1
    have h4 := h2.2
    obtain ⟨x, hx⟩ : ∃ x, x = 16 + 8 * a := ⟨_, rfl⟩
    rw [← hx] at HL
    rw [show 20 + 8 * a = x + 4 by omega]
    have x0 : 0 ≤ x := by omega
    have x1 : x < 64 := by omega
    clear hx h2 h0 h1 h3 h4
    go_enter Try.func19, Try.ntmps19
    go_wp2_with (go_at_call 18; ((with_reducible refine (HL.out _).mono ?_); rintro e w1 ⟨rfl, b1⟩))
    go_ret2
    exact ⟨rfl, b1⟩
  · have e : argB a = false := decide_eq_false h2
    have e1 : lowV a = 0 := by unfold lowV; rw [e]; rfl
    have e2 : highV a = 0 := by unfold highV; rw [e]; rfl
    rw [e, e1] at HL
    rw [e, e2]
    clear e e1 e2 h2 h0 h1
    go_enter Try.func19, Try.ntmps19
    go_wp2_with (go_at_call 18; ((with_reducible refine (HL.out _).mono ?_); rintro e w1 ⟨rfl, b1⟩))
    go_ret2
    exact ⟨rfl, b1⟩
theorem whole_2 (t0 t1 t2 t3 t4 t5 t6 t7 t8 t9 t10 t11 t12 t13 t14 t15 : Int) (w : World) (x0 : 0 ≤ t2) (x1 : t2 < 4294967296) (y0 : 0 ≤ t3) (y1 : t3 < 4294967296) :
    Calls Try.prog 26 #[.agg #[.int .u32 t0, .int .u32 t1, .int .u32 t2, .int .u32 t3, .int .u32 t4, .int .u32 t5, .int .u32 t6, .int .u32 t7, .int .u32 t8, .int .u32 t9, .int .u32 t10, .int .u32 t11, .int .u32 t12, .int .u32 t13, .int .u32 t14, .int .u32 t15], .int .i64 2] w fun e w' => e = .returned (.int .u64 (t2 + t3 * 4294967296)) ∧ Below w.heap.size w w' := by
  have HW := Lib.hid (fun W => (whole_any t2 t3 x0 x1 y0 y1 W).mono (fun _ _ h => (⟨h.1, h.2.symm⟩ : _ ∧ _ = W)))
  obtain ⟨x, hx⟩ : ∃ x, x = t2 + t3 * 4294967296 := ⟨_, rfl⟩
  rw [← hx] at HW ⊢
  clear x0 x1 y0 y1 hx
  go_enter Try.func26, Try.ntmps26
  go_wp2_with fail
  go_quiet ((go_at_call 20; exact Calls.quiet_of_same (HW.out _)))
  go_wp2
  go_ret
  exact ⟨rfl, ((Below.refl _ _).alloc (Nat.le_refl _) _).trans ⟨rfl, rfl, rfl, Nat.le_refl _, fun _ _ => rfl⟩⟩
theorem whole_4 (t0 t1 t2 t3 t4 t5 t6 t7 t8 t9 t10 t11 t12 t13 t14 t15 : Int) (w : World) (x0 : 0 ≤ t4) (x1 : t4 < 4294967296) (y0 : 0 ≤ t5) (y1 : t5 < 4294967296) :
    Calls Try.prog 26 #[.agg #[.int .u32 t0, .int .u32 t1, .int .u32 t2, .int .u32 t3, .int .u32 t4, .int .u32 t5, .int .u32 t6, .int .u32 t7, .int .u32 t8, .int .u32 t9, .int .u32 t10, .int .u32 t11, .int .u32 t12, .int .u32 t13, .int .u32 t14, .int .u32 t15], .int .i64 4] w fun e w' => e = .returned (.int .u64 (t4 + t5 * 4294967296)) ∧ Below w.heap.size w w' := by
  have HW := Lib.hid (fun W => (whole_any t4 t5 x0 x1 y0 y1 W).mono (fun _ _ h => (⟨h.1, h.2.symm⟩ : _ ∧ _ = W)))
  obtain ⟨x, hx⟩ : ∃ x, x = t4 + t5 * 4294967296 := ⟨_, rfl⟩
  rw [← hx] at HW ⊢
  clear x0 x1 y0 y1 hx
  go_enter Try.func26, Try.ntmps26
  go_wp2_with fail
  go_quiet ((go_at_call 20; exact Calls.quiet_of_same (HW.out _)))
  go_wp2
  go_ret
  exact ⟨rfl, ((Below.refl _ _).alloc (Nat.le_refl _) _).trans ⟨rfl, rfl, rfl, Nat.le_refl _, fun _ _ => rfl⟩⟩
theorem whole_6 (t0 t1 t2 t3 t4 t5 t6 t7 t8 t9 t10 t11 t12 t13 t14 t15 : Int) (w : World) (x0 : 0 ≤ t6) (x1 : t6 < 4294967296) (y0 : 0 ≤ t7) (y1 : t7 < 4294967296) :
    Calls Try.prog 26 #[.agg #[.int .u32 t0, .int .u32 t1, .int .u32 t2, .int .u32 t3, .int .u32 t4, .int .u32 t5, .int .u32 t6, .int .u32 t7, .int .u32 t8, .int .u32 t9, .int .u32 t10, .int .u32 t11, .int .u32 t12, .int .u32 t13, .int .u32 t14, .int .u32 t15], .int .i64 6] w fun e w' => e = .returned (.int .u64 (t6 + t7 * 4294967296)) ∧ Below w.heap.size w w' := by
  have HW := Lib.hid (fun W => (whole_any t6 t7 x0 x1 y0 y1 W).mono (fun _ _ h => (⟨h.1, h.2.symm⟩ : _ ∧ _ = W)))
  obtain ⟨x, hx⟩ : ∃ x, x = t6 + t7 * 4294967296 := ⟨_, rfl⟩
  rw [← hx] at HW ⊢
  clear x0 x1 y0 y1 hx
  go_enter Try.func26, Try.ntmps26
  go_wp2_with fail
  go_quiet ((go_at_call 20; exact Calls.quiet_of_same (HW.out _)))
  go_wp2
  go_ret
  exact ⟨rfl, ((Below.refl _ _).alloc (Nat.le_refl _) _).trans ⟨rfl, rfl, rfl, Nat.le_refl _, fun _ _ => rfl⟩⟩
theorem whole_8 (t0 t1 t2 t3 t4 t5 t6 t7 t8 t9 t10 t11 t12 t13 t14 t15 : Int) (w : World) (x0 : 0 ≤ t8) (x1 : t8 < 4294967296) (y0 : 0 ≤ t9) (y1 : t9 < 4294967296) :
    Calls Try.prog 26 #[.agg #[.int .u32 t0, .int .u32 t1, .int .u32 t2, .int .u32 t3, .int .u32 t4, .int .u32 t5, .int .u32 t6, .int .u32 t7, .int .u32 t8, .int .u32 t9, .int .u32 t10, .int .u32 t11, .int .u32 t12, .int .u32 t13, .int .u32 t14, .int .u32 t15], .int .i64 8] w fun e w' => e = .returned (.int .u64 (t8 + t9 * 4294967296)) ∧ Below w.heap.size w w' := by
  have HW := Lib.hid (fun W => (whole_any t8 t9 x0 x1 y0 y1 W).mono (fun _ _ h => (⟨h.1, h.2.symm⟩ : _ ∧ _ = W)))
  obtain ⟨x, hx⟩ : ∃ x, x = t8 + t9 * 4294967296 := ⟨_, rfl⟩
  rw [← hx] at HW ⊢
  clear x0 x1 y0 y1 hx
  go_enter Try.func26, Try.ntmps26
  go_wp2_with fail
  go_quiet ((go_at_call 20; exact Calls.quiet_of_same (HW.out _)))
  go_wp2
  go_ret
  exact ⟨rfl, ((Below.refl _ _).alloc (Nat.le_refl _) _).trans ⟨rfl, rfl, rfl, Nat.le_refl _, fun _ _ => rfl⟩⟩
theorem whole_10 (t0 t1 t2 t3 t4 t5 t6 t7 t8 t9 t10 t11 t12 t13 t14 t15 : Int) (w : World) (x0 : 0 ≤ t10) (x1 : t10 < 4294967296) (y0 : 0 ≤ t11) (y1 : t11 < 4294967296) :
    Calls Try.prog 26 #[.agg #[.int .u32 t0, .int .u32 t1, .int .u32 t2, .int .u32 t3, .int .u32 t4, .int .u32 t5, .int .u32 t6, .int .u32 t7, .int .u32 t8, .int .u32 t9, .int .u32 t10, .int .u32 t11, .int .u32 t12, .int .u32 t13, .int .u32 t14, .int .u32 t15], .int .i64 10] w fun e w' => e = .returned (.int .u64 (t10 + t11 * 4294967296)) ∧ Below w.heap.size w w' := by
  have HW := Lib.hid (fun W => (whole_any t10 t11 x0 x1 y0 y1 W).mono (fun _ _ h => (⟨h.1, h.2.symm⟩ : _ ∧ _ = W)))
  obtain ⟨x, hx⟩ : ∃ x, x = t10 + t11 * 4294967296 := ⟨_, rfl⟩
  rw [← hx] at HW ⊢
  clear x0 x1 y0 y1 hx
  go_enter Try.func26, Try.ntmps26
  go_wp2_with fail
  go_quiet ((go_at_call 20; exact Calls.quiet_of_same (HW.out _)))
  go_wp2
  go_ret
  exact ⟨rfl, ((Below.refl _ _).alloc (Nat.le_refl _) _).trans ⟨rfl, rfl, rfl, Nat.le_refl _, fun _ _ => rfl⟩⟩
theorem whole_12 (t0 t1 t2 t3 t4 t5 t6 t7 t8 t9 t10 t11 t12 t13 t14 t15 : Int) (w : World) (x0 : 0 ≤ t12) (x1 : t12 < 4294967296) (y0 : 0 ≤ t13) (y1 : t13 < 4294967296) :
    Calls Try.prog 26 #[.agg #[.int .u32 t0, .int .u32 t1, .int .u32 t2, .int .u32 t3, .int .u32 t4, .int .u32 t5, .int .u32 t6, .int .u32 t7, .int .u32 t8, .int .u32 t9, .int .u32 t10, .int .u32 t11, .int .u32 t12, .int .u32 t13, .int .u32 t14, .int .u32 t15], .int .i64 12] w fun e w' => e = .returned (.int .u64 (t12 + t13 * 4294967296)) ∧ Below w.heap.size w w' := by
  have HW := Lib.hid (fun W => (whole_any t12 t13 x0 x1 y0 y1 W).mono (fun _ _ h => (⟨h.1, h.2.symm⟩ : _ ∧ _ = W)))
  obtain ⟨x, hx⟩ : ∃ x, x = t12 + t13 * 4294967296 := ⟨_, rfl⟩
  rw [← hx] at HW ⊢
  clear x0 x1 y0 y1 hx
  go_enter Try.func26, Try.ntmps26
  go_wp2_with fail
  go_quiet ((go_at_call 20; exact Calls.quiet_of_same (HW.out _)))
  go_wp2
  go_ret
  exact ⟨rfl, ((Below.refl _ _).alloc (Nat.le_refl _) _).trans ⟨rfl, rfl, rfl, Nat.le_refl _, fun _ _ => rfl⟩⟩
theorem whole_14 (t0 t1 t2 t3 t4 t5 t6 t7 t8 t9 t10 t11 t12 t13 t14 t15 : Int) (w : World) (x0 : 0 ≤ t14) (x1 : t14 < 4294967296) (y0 : 0 ≤ t15) (y1 : t15 < 4294967296) :
    Calls Try.prog 26 #[.agg #[.int .u32 t0, .int .u32 t1, .int .u32 t2, .int .u32 t3, .int .u32 t4, .int .u32 t5, .int .u32 t6, .int .u32 t7, .int .u32 t8, .int .u32 t9, .int .u32 t10, .int .u32 t11, .int .u32 t12, .int .u32 t13, .int .u32 t14, .int .u32 t15], .int .i64 14] w fun e w' => e = .returned (.int .u64 (t14 + t15 * 4294967296)) ∧ Below w.heap.size w w' := by
  have HW := Lib.hid (fun W => (whole_any t14 t15 x0 x1 y0 y1 W).mono (fun _ _ h => (⟨h.1, h.2.symm⟩ : _ ∧ _ = W)))
  obtain ⟨x, hx⟩ : ∃ x, x = t14 + t15 * 4294967296 := ⟨_, rfl⟩
  rw [← hx] at HW ⊢
  clear x0 x1 y0 y1 hx
  go_enter Try.func26, Try.ntmps26
  go_wp2_with fail
  go_quiet ((go_at_call 20; exact Calls.quiet_of_same (HW.out _)))
  go_wp2
  go_ret
  exact ⟨rfl, ((Below.refl _ _).alloc (Nat.le_refl _) _).trans ⟨rfl, rfl, rfl, Nat.le_refl _, fun _ _ => rfl⟩⟩
theorem tblC_eq (d : Dat) : tblC d = #[.int .u32 ((tblL d).getD 0 0), .int .u32 ((tblL d).getD 1 0), .int .u32 ((tblL d).getD 2 0), .int .u32 ((tblL d).getD 3 0), .int .u32 ((tblL d).getD 4 0), .int .u32 ((tblL d).getD 5 0), .int .u32 ((tblL d).getD 6 0), .int .u32 ((tblL d).getD 7 0), .int .u32 ((tblL d).getD 8 0), .int .u32 ((tblL d).getD 9 0), .int .u32 ((tblL d).getD 10 0), .int .u32 ((tblL d).getD 11 0), .int .u32 ((tblL d).getD 12 0), .int .u32 ((tblL d).getD 13 0), .int .u32 ((tblL d).getD 14 0), .int .u32 ((tblL d).getD 15 0)] := rfl
theorem tblC_get (d : Dat) {k : Nat} (hk : k < 16) : (tblC d)[k]? = some (.int .u32 ((tblL d).getD k 0)) := by
  match k, hk with
  | 0, _ => rfl
  | 1, _ => rfl
  | 2, _ => rfl
  | 3, _ => rfl
  | 4, _ => rfl
  | 5, _ => rfl
  | 6, _ => rfl
  | 7, _ => rfl
  | 8, _ => rfl
  | 9, _ => rfl
  | 10, _ => rfl
  | 11, _ => rfl
  | 12, _ => rfl
  | 13, _ => rfl
  | 14, _ => rfl
  | 15, _ => rfl
  | k + 16, hk => omega
theorem tbl_there (W : World) : (W.alloc (.cells #[.int .u32 0, .int .u32 0, .int .u32 0, .int .u32 0, .int .u32 0, .int .u32 0, .int .u32 0, .int .u32 0, .int .u32 0, .int .u32 0, .int .u32 0, .int .u32 0, .int .u32 0, .int .u32 0, .int .u32 0, .int .u32 0] 50)).there W.heap.size 0 16 := fun j hj => by
  refine ⟨?_, frozen_of_row _ _ _ _ _ (heap_alloc_new W _)⟩
  rw [cell_of_row _ _ (0 + j) _ _ (0, 0) (heap_alloc_new W _)]
  match j, hj with
  | 0, _ => rfl
  | 1, _ => rfl
  | 2, _ => rfl
  | 3, _ => rfl
  | 4, _ => rfl
  | 5, _ => rfl
  | 6, _ => rfl
  | 7, _ => rfl
  | 8, _ => rfl
  | 9, _ => rfl
  | 10, _ => rfl
  | 11, _ => rfl
  | 12, _ => rfl
  | 13, _ => rfl
  | 14, _ => rfl
  | 15, _ => rfl
  | j + 16, hj => omega
set_option maxRecDepth 100000 in
set_option maxHeartbeats 4000000 in
theorem word_in (a0 : Dat) (k : Nat) (a : Int) (w : World) (h : a0.Ok) (hk : k < 16) (ha : a = 4 * (k : Int)) : Calls Try.prog 11 #[datV a0, .int .u32 a] w fun e w' =>
    e = .returned (.tuple #[.int .u32 ((tblL a0).getD k 0), .int .i64 0]) ∧ Below w.heap.size w w' := by
  have HT := Lib.hid (fun W => tableOf_any a0 W h)
  have hg := tblC_get a0 hk
  have hsz : (tblC a0).size = 16 := rfl
  have hth : ∀ W : World, (W.alloc (.cells #[.int .u32 0, .int .u32 0, .int .u32 0, .int .u32 0, .int .u32 0, .int .u32 0, .int .u32 0, .int .u32 0, .int .u32 0, .int .u32 0, .int .u32 0, .int .u32 0, .int .u32 0, .int .u32 0, .int .u32 0, .int .u32 0] 50)).there W.heap.size 0 (tblC a0).size := fun W => tbl_there W
  have HG : Hid (∀ W : World, ((W.alloc (.cells #[.int .u32 0, .int .u32 0, .int .u32 0, .int .u32 0, .int .u32 0, .int .u32 0, .int .u32 0, .int .u32 0, .int .u32 0, .int .u32 0, .int .u32 0, .int .u32 0, .int .u32 0, .int .u32 0, .int .u32 0, .int .u32 0] 50)).setCells W.heap.size 0 (tblC a0).toList).cell? ⟨W.heap.size, k, none⟩ = some (.int .u32 ((tblL a0).getD k 0))) := Lib.hid (fun W => by
    have := World.rangeAt_setCells_same (W.alloc (.cells #[.int .u32 0, .int .u32 0, .int .u32 0, .int .u32 0, .int .u32 0, .int .u32 0, .int .u32 0, .int .u32 0, .int .u32 0, .int .u32 0, .int .u32 0, .int .u32 0, .int .u32 0, .int .u32 0, .int .u32 0, .int .u32 0] 50)) W.heap.size 0 (tblC a0).toList (hth W) k _ (by simpa using hg)
    rwa [Nat.zero_add] at this)
  have hone : (tblC a0).all (·.oneCell') = true := all_oneCell_toArray (fun v hv => by obtain ⟨x, _, rfl⟩ := List.mem_map.1 hv; rfl)
  have hinf : (Try.prog.info? 50).map (·.size) = some (tblC a0).size := by rw [hsz]; kernel_rfl
  have HTH := Lib.hid hth
  have HON := Lib.hid hone
  have HIN := Lib.hid hinf
  obtain ⟨x, hx⟩ : ∃ x, x = (tblL a0).getD k 0 := ⟨_, rfl⟩
  rw [← hx] at HG ⊢
  have t1 : (a % 4 != 0) = false := by simp; omega
  have t2 : ¬ (63 : Int) < a := by omega
  have t3 : a / 4 = k := by omega
  have k0 : (0 : Int) ≤ k := by omega
  have k1 : (k : Int) < 16 := by omega
  have k2 : 0 ≤ a := by omega
  have k3 : a < 64 := by omega
  clear ha hk hx hg h hsz hth hone hinf
  unfold datV datC at *
  go_enter Try.func11, Try.ntmps11
  go_wp2_with (first
    | (go_at_call 21; ((with_reducible refine (HT.out _).mono ?_); rintro e w1 ⟨rfl, b1⟩); have hc := HG.out w1)
    | ((with_reducible show wpList _ _ _ (⟨none, .store 50 (.tmp 6) (.tmp 15), _, _, _, _⟩ :: _) _ _)
       refine wpList_store_mid rfl 50 (.tmp 6) (.tmp 15) rfl w1.heap.size 0 (tblC a0) rfl rfl (HTH.out w1) HIN.out HON.out ?_))
  go_ret2
  exact ⟨rfl, below_setCells (by have := b1.size; simp at this; omega) _ _ _ ((((Below.refl _ _).alloc (Nat.le_refl _) _).trans (b1.mono (by simp))).alloc (by have := b1.size; simp at this; omega) _)⟩
theorem wordC : DWordC := by
  intro d a w h h0 h1
  by_cases hm : a % 4 = 0
  · by_cases h2 : a < 64
    · obtain ⟨e1, e2⟩ := wordV_tbl h h0 hm h2
      obtain ⟨k, rfl⟩ : ∃ k : Nat, a = 4 * (k : Int) := ⟨(a / 4).toNat, by omega⟩
      rw [e1, e2, show (4 * (k : Int) / 4).toNat = k by omega]
      exact word_in d k _ w h (by omega) rfl
    · obtain ⟨e1, e2⟩ := word_no (d := d) (a := a) (by omega)
      rw [e1, e2]
      have t1 : (a % 4 != 0) = false := by simp; omega
      have t2 : (63 : Int) < a := by omega
      clear e1 e2 h
      unfold datV datC
      go_enter Try.func11, Try.ntmps11
      go_wp2
      go_ret2
      exact ⟨rfl, (Below.refl _ _).alloc (Nat.le_refl _) _⟩
  · obtain ⟨e1, e2⟩ := word_no (d := d) (a := a) (by omega)
    rw [e1, e2]
    have t1 : (a % 4 != 0) = true := by simp; omega
    clear e1 e2 h
    unfold datV datC
    go_enter Try.func11, Try.ntmps11
    go_wp2
    go_ret2
    exact ⟨rfl, (Below.refl _ _).alloc (Nat.le_refl _) _⟩
end Go.Proofs.Ythoichjomfdgjaa
