/- What the document's own Can and led return: whether a program can be written, and whether a jump leads to a place. Condition: a slice is as long as the program. -/
import Derived.Test.YtlneiiljdghmjaaDoorAd
import Derived.LoopIn
namespace Go.Proofs.YtlneiiljdghmjaaDoor
open Go.RowKit
set_option linter.unusedVariables false
attribute [local go_sem ↓] Go.wp_at_zero Go.wp_at_succ

theorem can_no {p : List Ins} {k : Nat} (h : canTo p k = false) : ∀ {m : Nat}, k ≤ m → canTo p m = false
  | 0, hm => by obtain rfl : k = 0 := by omega
                exact h
  | m + 1, hm => by
    by_cases e : k = m + 1
    · rw [← e]; exact h
    · unfold canTo
      rw [can_no h (m := m) (by omega), Bool.false_and]
theorem can_step {p : List Ins} {k : Nat} {x : Ins} (h : canTo p k = true) (hx : p[k]? = some x) : canTo p (k + 1) = !badI x ((p.length : Int) - 1 - k) := by
  unfold canTo
  rw [h, Bool.true_and, hx]
theorem canL_no {p : List Ins} {k : Nat} (hk : k ≤ p.length) (h : canTo p k = false) : canL p = false := by
  unfold canL
  rw [can_no h hk, Bool.and_false]
theorem led_yes {p : List Ins} {to : Int} {k : Nat} (h : ledTo p to k = true) : ∀ {m : Nat}, k ≤ m → ledTo p to m = true
  | 0, hm => by obtain rfl : k = 0 := by omega
                exact h
  | m + 1, hm => by
    by_cases e : k = m + 1
    · rw [← e]; exact h
    · unfold ledTo
      rw [led_yes h (m := m) (by omega), Bool.true_or]
theorem led_step {p : List Ins} {to : Int} {k : Nat} {x : Ins} (h : ledTo p to k = false) (hx : p[k]? = some x) : ledTo p to (k + 1) = goesI x k to := by
  unfold ledTo
  rw [h, Bool.false_or, hx]
theorem can_long (a0 : Option Addr) (n cap : Nat) (h : 4096 < n) (w : World) : Calls Tryd.prog 12 #[.slice a0 n cap] w fun e w' => e = .returned (.bool false) ∧ Below w.heap.size w w' := by
  have h1 : (4096 : Int) < n := by omega
  go_enter Tryd.func12, Tryd.ntmps12
  go_wp2_with fail
  go_ret
  exact ⟨rfl, Below.refl _ _⟩
set_option maxRecDepth 100000 in
set_option maxHeartbeats 8000000 in
theorem refCanW (a0 : Option Addr) (n cap : Nat) (p : List Ins) (w : World) (hl : p.length = n) (hn : n ≤ 4096) (hok : OkL p) (hR : RdI w w.heap.size a0 p) : Calls Tryd.prog 12 #[.slice a0 n cap] w fun e w' => e = .returned (.bool (canL p)) ∧ Below w.heap.size w w' := by
  have n4 : ¬ (4096 : Int) < n := by omega
  have n5 : (n : Int) ≤ 4096 := by omega
  have HL := Lib.hid hl
  have HP := Lib.hid hok
  have HR := Lib.hid hR
  have HN := Lib.hid (show canTo p n = true → canL p = true from fun h => by unfold canL; rw [hl, decide_eq_true hn, h]; rfl)
  clear hl hok hR hn
  go_enter Tryd.func12, Tryd.ntmps12
  go_wp2_with fail
  go_loopw [3] (fun v3 wr => ∃ k : Nat, k ≤ n ∧ v3 = .int .i64 k ∧ Hid (canTo p k = true) ∧ Hid (Below w.heap.size w wr)) (fun v3 _ => n - (intOf v3).toNat)
  case atStart => exact ⟨0, Nat.zero_le _, rfl, Lib.hid rfl, Lib.hid (Below.refl _ _)⟩
  case round =>
    obtain ⟨k, hk, rfl, HB, PB⟩ := hrel
    obtain ⟨W, rfl⟩ : ∃ wo : World, wo = wr := ⟨_, rfl⟩
    by_cases hlt : k < n
    · have hkl : k < p.length := by rw [HL.out]; exact hlt
      have i1 : (k : Int) < n := by omega
      have i2 : (0 : Int) ≤ k := by omega
      obtain ⟨b, o, rfl, hbB, hcs⟩ := HR.out (by omega)
      have hat := hcs k hkl
      obtain ⟨x, hx⟩ : ∃ x, x = p[k] := ⟨_, rfl⟩
      have HX := Lib.hid (can_step HB.out (show p[k]? = some x from by rw [hx]; exact List.getElem?_eq_getElem hkl))
      have hxo := HP.out.get hkl
      rw [← hx] at hat hxo
      obtain ⟨q0, q1, q2, q3⟩ := hat.keep (w' := W) fun q hq => PB.out.cell (by omega)
      have HSH := Lib.hid (fun V => refShape x.c V)
      have HPL := Lib.hid (fun V => refPlain x V)
      have h5 := shapeI_five x.c
      obtain ⟨c, jt, jf, kk⟩ := x
      obtain ⟨c0, c1, t0, t1, f0, f1, k0, k1⟩ := hxo
      simp only at q0 q1 q2 q3 HSH HPL h5 t0 t1 f0 f1 k0 k1
      rw [HL.out] at HX
      have HNO := Lib.hid (fun h => canL_no (p := p) (k := k + 1) (by rw [HL.out]; omega) h)
      unfold badI at HX
      simp only at HX
      obtain ⟨sh, hs⟩ : ∃ x, x = shapeI c := ⟨_, rfl⟩
      obtain ⟨pl, hp⟩ : ∃ x, x = plainI ⟨c, jt, jf, kk⟩ := ⟨_, rfl⟩
      rw [← hs] at HSH HX h5
      rw [← hp] at HPL HX
      have hw1 : IntKind.i64.wrap kk = kk := by rw [IntKind.wrap_i64]; omega
      clear hat hx hkl hs hp hbB hcs HB c0 c1
      cases pl with
      | false =>
        have hr := Lib.hid (HNO.out (HX.out.trans (by simp)))
        clear HX HNO h5
        go_wp2_with (first | (go_at_call 26; ((with_reducible refine (HSH.out _).mono ?_); rintro e w1 ⟨rfl, b1⟩); have p0 := (b1.cell (World.block_lt_of_cell? _ _ q0)).trans q0; have p1 := (b1.cell (World.block_lt_of_cell? _ _ q1)).trans q1; have p2 := (b1.cell (World.block_lt_of_cell? _ _ q2)).trans q2; have p3 := (b1.cell (World.block_lt_of_cell? _ _ q3)).trans q3) | (go_at_call 27; ((with_reducible refine (HPL.out _).mono ?_); rintro e w2 ⟨rfl, b2⟩); have r0 := (b2.cell (World.block_lt_of_cell? _ _ p0)).trans p0; have r1 := (b2.cell (World.block_lt_of_cell? _ _ p1)).trans p1; have r2 := (b2.cell (World.block_lt_of_cell? _ _ p2)).trans p2; have r3 := (b2.cell (World.block_lt_of_cell? _ _ p3)).trans p3))
        go_ret
        exact ⟨by rw [hr.out]; rfl, PB.out.trans ((b1.trans (b2.mono b1.size)).mono PB.out.size)⟩
      | true =>
        rcases h5 with rfl | rfl | rfl | rfl | rfl
        · have hr := Lib.hid (show canTo p (k + 1) = true from HX.out.trans (by simp))
          clear HX HNO
          go_wp2_with (first | (go_at_call 26; ((with_reducible refine (HSH.out _).mono ?_); rintro e w1 ⟨rfl, b1⟩); have p0 := (b1.cell (World.block_lt_of_cell? _ _ q0)).trans q0; have p1 := (b1.cell (World.block_lt_of_cell? _ _ q1)).trans q1; have p2 := (b1.cell (World.block_lt_of_cell? _ _ q2)).trans q2; have p3 := (b1.cell (World.block_lt_of_cell? _ _ q3)).trans q3) | (go_at_call 27; ((with_reducible refine (HPL.out _).mono ?_); rintro e w2 ⟨rfl, b2⟩); have r0 := (b2.cell (World.block_lt_of_cell? _ _ p0)).trans p0; have r1 := (b2.cell (World.block_lt_of_cell? _ _ p1)).trans p1; have r2 := (b2.cell (World.block_lt_of_cell? _ _ p2)).trans p2; have r3 := (b2.cell (World.block_lt_of_cell? _ _ p3)).trans p3))
          go_roundw
          case rel => exact ⟨k + 1, by omega, by go_num, hr, Lib.hid (PB.out.trans ((b1.trans (b2.mono b1.size)).mono PB.out.size))⟩
          case measure => simp [intOf]; omega
        · have hr := Lib.hid (show canTo p (k + 1) = true from HX.out.trans (by simp))
          clear HX HNO
          go_wp2_with (first | (go_at_call 26; ((with_reducible refine (HSH.out _).mono ?_); rintro e w1 ⟨rfl, b1⟩); have p0 := (b1.cell (World.block_lt_of_cell? _ _ q0)).trans q0; have p1 := (b1.cell (World.block_lt_of_cell? _ _ q1)).trans q1; have p2 := (b1.cell (World.block_lt_of_cell? _ _ q2)).trans q2; have p3 := (b1.cell (World.block_lt_of_cell? _ _ q3)).trans q3) | (go_at_call 27; ((with_reducible refine (HPL.out _).mono ?_); rintro e w2 ⟨rfl, b2⟩); have r0 := (b2.cell (World.block_lt_of_cell? _ _ p0)).trans p0; have r1 := (b2.cell (World.block_lt_of_cell? _ _ p1)).trans p1; have r2 := (b2.cell (World.block_lt_of_cell? _ _ p2)).trans p2; have r3 := (b2.cell (World.block_lt_of_cell? _ _ p3)).trans p3))
          go_roundw
          case rel => exact ⟨k + 1, by omega, by go_num, hr, Lib.hid (PB.out.trans ((b1.trans (b2.mono b1.size)).mono PB.out.size))⟩
          case measure => simp [intOf]; omega
        · by_cases hc : (n : Int) - 1 - k ≤ kk
          · have hr := Lib.hid (HNO.out (HX.out.trans (by simp [hc])))
            clear HX HNO
            go_wp2_with (first | (go_at_call 26; ((with_reducible refine (HSH.out _).mono ?_); rintro e w1 ⟨rfl, b1⟩); have p0 := (b1.cell (World.block_lt_of_cell? _ _ q0)).trans q0; have p1 := (b1.cell (World.block_lt_of_cell? _ _ q1)).trans q1; have p2 := (b1.cell (World.block_lt_of_cell? _ _ q2)).trans q2; have p3 := (b1.cell (World.block_lt_of_cell? _ _ q3)).trans q3) | (go_at_call 27; ((with_reducible refine (HPL.out _).mono ?_); rintro e w2 ⟨rfl, b2⟩); have r0 := (b2.cell (World.block_lt_of_cell? _ _ p0)).trans p0; have r1 := (b2.cell (World.block_lt_of_cell? _ _ p1)).trans p1; have r2 := (b2.cell (World.block_lt_of_cell? _ _ p2)).trans p2; have r3 := (b2.cell (World.block_lt_of_cell? _ _ p3)).trans p3))
            go_ret
            exact ⟨by rw [hr.out]; rfl, PB.out.trans ((b1.trans (b2.mono b1.size)).mono PB.out.size)⟩
          · have hr := Lib.hid (show canTo p (k + 1) = true from HX.out.trans (by simp [hc]))
            have hd : decide ((n : Int) - 1 - k ≤ kk) = false := decide_eq_false hc
            clear HX HNO
            go_wp2_with (first | (go_at_call 26; ((with_reducible refine (HSH.out _).mono ?_); rintro e w1 ⟨rfl, b1⟩); have p0 := (b1.cell (World.block_lt_of_cell? _ _ q0)).trans q0; have p1 := (b1.cell (World.block_lt_of_cell? _ _ q1)).trans q1; have p2 := (b1.cell (World.block_lt_of_cell? _ _ q2)).trans q2; have p3 := (b1.cell (World.block_lt_of_cell? _ _ q3)).trans q3) | (go_at_call 27; ((with_reducible refine (HPL.out _).mono ?_); rintro e w2 ⟨rfl, b2⟩); have r0 := (b2.cell (World.block_lt_of_cell? _ _ p0)).trans p0; have r1 := (b2.cell (World.block_lt_of_cell? _ _ p1)).trans p1; have r2 := (b2.cell (World.block_lt_of_cell? _ _ p2)).trans p2; have r3 := (b2.cell (World.block_lt_of_cell? _ _ p3)).trans p3))
            go_roundw
            case rel => exact ⟨k + 1, by omega, by go_num, hr, Lib.hid (PB.out.trans ((b1.trans (b2.mono b1.size)).mono PB.out.size))⟩
            case measure => simp [intOf]; omega
        · by_cases hc : (n : Int) - 1 - k ≤ jt
          · have hr := Lib.hid (HNO.out (HX.out.trans (by simp [hc])))
            clear HX HNO
            go_wp2_with (first | (go_at_call 26; ((with_reducible refine (HSH.out _).mono ?_); rintro e w1 ⟨rfl, b1⟩); have p0 := (b1.cell (World.block_lt_of_cell? _ _ q0)).trans q0; have p1 := (b1.cell (World.block_lt_of_cell? _ _ q1)).trans q1; have p2 := (b1.cell (World.block_lt_of_cell? _ _ q2)).trans q2; have p3 := (b1.cell (World.block_lt_of_cell? _ _ q3)).trans q3) | (go_at_call 27; ((with_reducible refine (HPL.out _).mono ?_); rintro e w2 ⟨rfl, b2⟩); have r0 := (b2.cell (World.block_lt_of_cell? _ _ p0)).trans p0; have r1 := (b2.cell (World.block_lt_of_cell? _ _ p1)).trans p1; have r2 := (b2.cell (World.block_lt_of_cell? _ _ p2)).trans p2; have r3 := (b2.cell (World.block_lt_of_cell? _ _ p3)).trans p3))
            go_ret
            exact ⟨by rw [hr.out]; rfl, PB.out.trans ((b1.trans (b2.mono b1.size)).mono PB.out.size)⟩
          · have hd : decide ((n : Int) - 1 - k ≤ jt) = false := decide_eq_false hc
            by_cases hc2 : (n : Int) - 1 - k ≤ jf
            · have hr := Lib.hid (HNO.out (HX.out.trans (by simp [hc2])))
              clear HX HNO
              go_wp2_with (first | (go_at_call 26; ((with_reducible refine (HSH.out _).mono ?_); rintro e w1 ⟨rfl, b1⟩); have p0 := (b1.cell (World.block_lt_of_cell? _ _ q0)).trans q0; have p1 := (b1.cell (World.block_lt_of_cell? _ _ q1)).trans q1; have p2 := (b1.cell (World.block_lt_of_cell? _ _ q2)).trans q2; have p3 := (b1.cell (World.block_lt_of_cell? _ _ q3)).trans q3) | (go_at_call 27; ((with_reducible refine (HPL.out _).mono ?_); rintro e w2 ⟨rfl, b2⟩); have r0 := (b2.cell (World.block_lt_of_cell? _ _ p0)).trans p0; have r1 := (b2.cell (World.block_lt_of_cell? _ _ p1)).trans p1; have r2 := (b2.cell (World.block_lt_of_cell? _ _ p2)).trans p2; have r3 := (b2.cell (World.block_lt_of_cell? _ _ p3)).trans p3))
              go_ret
              exact ⟨by rw [hr.out]; rfl, PB.out.trans ((b1.trans (b2.mono b1.size)).mono PB.out.size)⟩
            · have hr := Lib.hid (show canTo p (k + 1) = true from HX.out.trans (by simp [hc, hc2]))
              have hd2 : decide ((n : Int) - 1 - k ≤ jf) = false := decide_eq_false hc2
              clear HX HNO
              go_wp2_with (first | (go_at_call 26; ((with_reducible refine (HSH.out _).mono ?_); rintro e w1 ⟨rfl, b1⟩); have p0 := (b1.cell (World.block_lt_of_cell? _ _ q0)).trans q0; have p1 := (b1.cell (World.block_lt_of_cell? _ _ q1)).trans q1; have p2 := (b1.cell (World.block_lt_of_cell? _ _ q2)).trans q2; have p3 := (b1.cell (World.block_lt_of_cell? _ _ q3)).trans q3) | (go_at_call 27; ((with_reducible refine (HPL.out _).mono ?_); rintro e w2 ⟨rfl, b2⟩); have r0 := (b2.cell (World.block_lt_of_cell? _ _ p0)).trans p0; have r1 := (b2.cell (World.block_lt_of_cell? _ _ p1)).trans p1; have r2 := (b2.cell (World.block_lt_of_cell? _ _ p2)).trans p2; have r3 := (b2.cell (World.block_lt_of_cell? _ _ p3)).trans p3))
              go_roundw
              case rel => exact ⟨k + 1, by omega, by go_num, hr, Lib.hid (PB.out.trans ((b1.trans (b2.mono b1.size)).mono PB.out.size))⟩
              case measure => simp [intOf]; omega
        · by_cases hc : (n : Int) - 1 - k ≤ jt
          · have hr := Lib.hid (HNO.out (HX.out.trans (by simp [hc])))
            clear HX HNO
            go_wp2_with (first | (go_at_call 26; ((with_reducible refine (HSH.out _).mono ?_); rintro e w1 ⟨rfl, b1⟩); have p0 := (b1.cell (World.block_lt_of_cell? _ _ q0)).trans q0; have p1 := (b1.cell (World.block_lt_of_cell? _ _ q1)).trans q1; have p2 := (b1.cell (World.block_lt_of_cell? _ _ q2)).trans q2; have p3 := (b1.cell (World.block_lt_of_cell? _ _ q3)).trans q3) | (go_at_call 27; ((with_reducible refine (HPL.out _).mono ?_); rintro e w2 ⟨rfl, b2⟩); have r0 := (b2.cell (World.block_lt_of_cell? _ _ p0)).trans p0; have r1 := (b2.cell (World.block_lt_of_cell? _ _ p1)).trans p1; have r2 := (b2.cell (World.block_lt_of_cell? _ _ p2)).trans p2; have r3 := (b2.cell (World.block_lt_of_cell? _ _ p3)).trans p3))
            go_ret
            exact ⟨by rw [hr.out]; rfl, PB.out.trans ((b1.trans (b2.mono b1.size)).mono PB.out.size)⟩
          · have hd : decide ((n : Int) - 1 - k ≤ jt) = false := decide_eq_false hc
            by_cases hc2 : (n : Int) - 1 - k ≤ jf
            · have hr := Lib.hid (HNO.out (HX.out.trans (by simp [hc2])))
              clear HX HNO
              go_wp2_with (first | (go_at_call 26; ((with_reducible refine (HSH.out _).mono ?_); rintro e w1 ⟨rfl, b1⟩); have p0 := (b1.cell (World.block_lt_of_cell? _ _ q0)).trans q0; have p1 := (b1.cell (World.block_lt_of_cell? _ _ q1)).trans q1; have p2 := (b1.cell (World.block_lt_of_cell? _ _ q2)).trans q2; have p3 := (b1.cell (World.block_lt_of_cell? _ _ q3)).trans q3) | (go_at_call 27; ((with_reducible refine (HPL.out _).mono ?_); rintro e w2 ⟨rfl, b2⟩); have r0 := (b2.cell (World.block_lt_of_cell? _ _ p0)).trans p0; have r1 := (b2.cell (World.block_lt_of_cell? _ _ p1)).trans p1; have r2 := (b2.cell (World.block_lt_of_cell? _ _ p2)).trans p2; have r3 := (b2.cell (World.block_lt_of_cell? _ _ p3)).trans p3))
              go_ret
              exact ⟨by rw [hr.out]; rfl, PB.out.trans ((b1.trans (b2.mono b1.size)).mono PB.out.size)⟩
            · have hr := Lib.hid (show canTo p (k + 1) = true from HX.out.trans (by simp [hc, hc2]))
              have hd2 : decide ((n : Int) - 1 - k ≤ jf) = false := decide_eq_false hc2
              clear HX HNO
              go_wp2_with (first | (go_at_call 26; ((with_reducible refine (HSH.out _).mono ?_); rintro e w1 ⟨rfl, b1⟩); have p0 := (b1.cell (World.block_lt_of_cell? _ _ q0)).trans q0; have p1 := (b1.cell (World.block_lt_of_cell? _ _ q1)).trans q1; have p2 := (b1.cell (World.block_lt_of_cell? _ _ q2)).trans q2; have p3 := (b1.cell (World.block_lt_of_cell? _ _ q3)).trans q3) | (go_at_call 27; ((with_reducible refine (HPL.out _).mono ?_); rintro e w2 ⟨rfl, b2⟩); have r0 := (b2.cell (World.block_lt_of_cell? _ _ p0)).trans p0; have r1 := (b2.cell (World.block_lt_of_cell? _ _ p1)).trans p1; have r2 := (b2.cell (World.block_lt_of_cell? _ _ p2)).trans p2; have r3 := (b2.cell (World.block_lt_of_cell? _ _ p3)).trans p3))
              go_roundw
              case rel => exact ⟨k + 1, by omega, by go_num, hr, Lib.hid (PB.out.trans ((b1.trans (b2.mono b1.size)).mono PB.out.size))⟩
              case measure => simp [intOf]; omega
    · obtain rfl : k = n := by omega
      have hr := Lib.hid (HN.out HB.out)
      clear HN HB
      go_wp2_with fail
      go_ret
      exact ⟨by rw [hr.out]; rfl, PB.out⟩
theorem refCan (a0 : Option Addr) (n cap : Nat) (p : List Ins) (w : World) (hl : p.length = n) (hok : OkL p) (hR : RdI w w.heap.size a0 p) : Calls Tryd.prog 12 #[.slice a0 n cap] w fun e w' => e = .returned (.bool (canL p)) ∧ Below w.heap.size w w' := by
  by_cases hn : n ≤ 4096
  · exact refCanW a0 n cap p w hl hn hok hR
  · rw [show canL p = false from by unfold canL; rw [decide_eq_false (by omega), Bool.false_and]]
    exact can_long a0 n cap (by omega) w
set_option maxRecDepth 100000 in
set_option maxHeartbeats 8000000 in
theorem refLed (a0 : Option Addr) (n cap : Nat) (p : List Ins) (to : Nat) (w : World) (hl : p.length = n) (ht : to ≤ n) (hn : n ≤ 1099511627776) (hok : OkL p) (hR : RdI w w.heap.size a0 p) : Calls Tryd.prog 28 #[.slice a0 n cap, .int .i64 to] w fun e w' => e = .returned (.bool (ledB p to)) ∧ Below w.heap.size w w' := by
  have n5 : (to : Int) ≤ 1099511627776 := by omega
  have n6 : (to : Int) ≤ n := by omega
  have HL := Lib.hid hl
  have HP := Lib.hid hok
  have HR := Lib.hid hR
  clear hl hok hR hn
  go_enter Tryd.func28, Tryd.ntmps28
  go_wp2_with fail
  go_loopw [5] (fun v5 wr => ∃ k : Nat, k ≤ to ∧ v5 = .int .i64 k ∧ Hid (ledTo p to k = false) ∧ Hid (Below w.heap.size w wr)) (fun v5 _ => to - (intOf v5).toNat)
  case atStart => exact ⟨0, Nat.zero_le _, rfl, Lib.hid rfl, Lib.hid (Below.refl _ _)⟩
  case round =>
    obtain ⟨k, hk, rfl, HB, PB⟩ := hrel
    obtain ⟨W, rfl⟩ : ∃ wo : World, wo = wr := ⟨_, rfl⟩
    by_cases hlt : k < to
    · have hkl : k < p.length := by rw [HL.out]; omega
      have i1 : (k : Int) < to := by omega
      have i3 : (k : Int) < n := by omega
      have i2 : (0 : Int) ≤ k := by omega
      obtain ⟨b, o, rfl, hbB, hcs⟩ := HR.out (by omega)
      have hat := hcs k hkl
      obtain ⟨x, hx⟩ : ∃ x, x = p[k] := ⟨_, rfl⟩
      have HX := Lib.hid (led_step HB.out (show p[k]? = some x from by rw [hx]; exact List.getElem?_eq_getElem hkl))
      have hxo := HP.out.get hkl
      rw [← hx] at hat hxo
      obtain ⟨q0, q1, q2, q3⟩ := hat.keep (w' := W) fun q hq => PB.out.cell (by omega)
      have HSH := Lib.hid (fun V => refShape x.c V)
      have h5 := shapeI_five x.c
      obtain ⟨c, jt, jf, kk⟩ := x
      obtain ⟨c0, c1, t0, t1, f0, f1, k0, k1⟩ := hxo
      simp only at q0 q1 q2 q3 HSH h5 t0 t1 f0 f1 k0 k1
      have HYES := Lib.hid (show ledTo p to (k + 1) = true → ledB p to = true from fun h => led_yes h (by omega))
      unfold goesI at HX
      simp only at HX
      obtain ⟨sh, hs⟩ : ∃ x, x = shapeI c := ⟨_, rfl⟩
      rw [← hs] at HSH HX h5
      clear hat hx hkl hs hbB hcs HB c0 c1
      rcases h5 with rfl | rfl | rfl | rfl | rfl
      · have hr := Lib.hid (show ledTo p to (k + 1) = false from HX.out.trans (by simp))
        clear HX HYES
        go_wp2_with (go_at_call 26; ((with_reducible refine (HSH.out _).mono ?_); rintro e w1 ⟨rfl, b1⟩); have p0 := (b1.cell (World.block_lt_of_cell? _ _ q0)).trans q0; have p1 := (b1.cell (World.block_lt_of_cell? _ _ q1)).trans q1; have p2 := (b1.cell (World.block_lt_of_cell? _ _ q2)).trans q2; have p3 := (b1.cell (World.block_lt_of_cell? _ _ q3)).trans q3)
        go_roundw
        case rel => exact ⟨k + 1, by omega, by go_num, hr, Lib.hid (PB.out.trans (b1.mono PB.out.size))⟩
        case measure => simp [intOf]; omega
      · have hr := Lib.hid (show ledTo p to (k + 1) = false from HX.out.trans (by simp))
        clear HX HYES
        go_wp2_with (go_at_call 26; ((with_reducible refine (HSH.out _).mono ?_); rintro e w1 ⟨rfl, b1⟩); have p0 := (b1.cell (World.block_lt_of_cell? _ _ q0)).trans q0; have p1 := (b1.cell (World.block_lt_of_cell? _ _ q1)).trans q1; have p2 := (b1.cell (World.block_lt_of_cell? _ _ q2)).trans q2; have p3 := (b1.cell (World.block_lt_of_cell? _ _ q3)).trans q3)
        go_roundw
        case rel => exact ⟨k + 1, by omega, by go_num, hr, Lib.hid (PB.out.trans (b1.mono PB.out.size))⟩
        case measure => simp [intOf]; omega
      · by_cases hc : (k : Int) + 1 + kk = to
        · have hr := Lib.hid (HYES.out (HX.out.trans (by simp [hc])))
          have hd : ((k : Int) + 1 + kk == to) = true := beq_iff_eq.2 hc
          clear HX HYES
          go_wp2_with (go_at_call 26; ((with_reducible refine (HSH.out _).mono ?_); rintro e w1 ⟨rfl, b1⟩); have p0 := (b1.cell (World.block_lt_of_cell? _ _ q0)).trans q0; have p1 := (b1.cell (World.block_lt_of_cell? _ _ q1)).trans q1; have p2 := (b1.cell (World.block_lt_of_cell? _ _ q2)).trans q2; have p3 := (b1.cell (World.block_lt_of_cell? _ _ q3)).trans q3)
          go_ret
          exact ⟨by rw [hr.out]; rfl, PB.out.trans (b1.mono PB.out.size)⟩
        · have hr := Lib.hid (show ledTo p to (k + 1) = false from HX.out.trans (by simp [hc]))
          have hd : ((k : Int) + 1 + kk == to) = false := beq_eq_false_iff_ne.2 hc
          clear HX HYES
          go_wp2_with (go_at_call 26; ((with_reducible refine (HSH.out _).mono ?_); rintro e w1 ⟨rfl, b1⟩); have p0 := (b1.cell (World.block_lt_of_cell? _ _ q0)).trans q0; have p1 := (b1.cell (World.block_lt_of_cell? _ _ q1)).trans q1; have p2 := (b1.cell (World.block_lt_of_cell? _ _ q2)).trans q2; have p3 := (b1.cell (World.block_lt_of_cell? _ _ q3)).trans q3)
          go_roundw
          case rel => exact ⟨k + 1, by omega, by go_num, hr, Lib.hid (PB.out.trans (b1.mono PB.out.size))⟩
          case measure => simp [intOf]; omega
      · by_cases hc : (k : Int) + 1 + jt = to
        · have hr := Lib.hid (HYES.out (HX.out.trans (by simp [hc])))
          have hd : ((k : Int) + 1 + jt == to) = true := beq_iff_eq.2 hc
          clear HX HYES
          go_wp2_with (go_at_call 26; ((with_reducible refine (HSH.out _).mono ?_); rintro e w1 ⟨rfl, b1⟩); have p0 := (b1.cell (World.block_lt_of_cell? _ _ q0)).trans q0; have p1 := (b1.cell (World.block_lt_of_cell? _ _ q1)).trans q1; have p2 := (b1.cell (World.block_lt_of_cell? _ _ q2)).trans q2; have p3 := (b1.cell (World.block_lt_of_cell? _ _ q3)).trans q3)
          go_ret
          exact ⟨by rw [hr.out]; rfl, PB.out.trans (b1.mono PB.out.size)⟩
        · have hd : ((k : Int) + 1 + jt == to) = false := beq_eq_false_iff_ne.2 hc
          by_cases hc2 : (k : Int) + 1 + jf = to
          · have hr := Lib.hid (HYES.out (HX.out.trans (by simp [hc2])))
            have hd2 : ((k : Int) + 1 + jf == to) = true := beq_iff_eq.2 hc2
            clear HX HYES
            go_wp2_with (go_at_call 26; ((with_reducible refine (HSH.out _).mono ?_); rintro e w1 ⟨rfl, b1⟩); have p0 := (b1.cell (World.block_lt_of_cell? _ _ q0)).trans q0; have p1 := (b1.cell (World.block_lt_of_cell? _ _ q1)).trans q1; have p2 := (b1.cell (World.block_lt_of_cell? _ _ q2)).trans q2; have p3 := (b1.cell (World.block_lt_of_cell? _ _ q3)).trans q3)
            go_ret
            exact ⟨by rw [hr.out]; rfl, PB.out.trans (b1.mono PB.out.size)⟩
          · have hr := Lib.hid (show ledTo p to (k + 1) = false from HX.out.trans (by simp [hc, hc2]))
            have hd2 : ((k : Int) + 1 + jf == to) = false := beq_eq_false_iff_ne.2 hc2
            clear HX HYES
            go_wp2_with (go_at_call 26; ((with_reducible refine (HSH.out _).mono ?_); rintro e w1 ⟨rfl, b1⟩); have p0 := (b1.cell (World.block_lt_of_cell? _ _ q0)).trans q0; have p1 := (b1.cell (World.block_lt_of_cell? _ _ q1)).trans q1; have p2 := (b1.cell (World.block_lt_of_cell? _ _ q2)).trans q2; have p3 := (b1.cell (World.block_lt_of_cell? _ _ q3)).trans q3)
            go_roundw
            case rel => exact ⟨k + 1, by omega, by go_num, hr, Lib.hid (PB.out.trans (b1.mono PB.out.size))⟩
            case measure => simp [intOf]; omega
      · by_cases hc : (k : Int) + 1 + jt = to
        · have hr := Lib.hid (HYES.out (HX.out.trans (by simp [hc])))
          have hd : ((k : Int) + 1 + jt == to) = true := beq_iff_eq.2 hc
          clear HX HYES
          go_wp2_with (go_at_call 26; ((with_reducible refine (HSH.out _).mono ?_); rintro e w1 ⟨rfl, b1⟩); have p0 := (b1.cell (World.block_lt_of_cell? _ _ q0)).trans q0; have p1 := (b1.cell (World.block_lt_of_cell? _ _ q1)).trans q1; have p2 := (b1.cell (World.block_lt_of_cell? _ _ q2)).trans q2; have p3 := (b1.cell (World.block_lt_of_cell? _ _ q3)).trans q3)
          go_ret
          exact ⟨by rw [hr.out]; rfl, PB.out.trans (b1.mono PB.out.size)⟩
        · have hd : ((k : Int) + 1 + jt == to) = false := beq_eq_false_iff_ne.2 hc
          by_cases hc2 : (k : Int) + 1 + jf = to
          · have hr := Lib.hid (HYES.out (HX.out.trans (by simp [hc2])))
            have hd2 : ((k : Int) + 1 + jf == to) = true := beq_iff_eq.2 hc2
            clear HX HYES
            go_wp2_with (go_at_call 26; ((with_reducible refine (HSH.out _).mono ?_); rintro e w1 ⟨rfl, b1⟩); have p0 := (b1.cell (World.block_lt_of_cell? _ _ q0)).trans q0; have p1 := (b1.cell (World.block_lt_of_cell? _ _ q1)).trans q1; have p2 := (b1.cell (World.block_lt_of_cell? _ _ q2)).trans q2; have p3 := (b1.cell (World.block_lt_of_cell? _ _ q3)).trans q3)
            go_ret
            exact ⟨by rw [hr.out]; rfl, PB.out.trans (b1.mono PB.out.size)⟩
          · have hr := Lib.hid (show ledTo p to (k + 1) = false from HX.out.trans (by simp [hc, hc2]))
            have hd2 : ((k : Int) + 1 + jf == to) = false := beq_eq_false_iff_ne.2 hc2
            clear HX HYES
            go_wp2_with (go_at_call 26; ((with_reducible refine (HSH.out _).mono ?_); rintro e w1 ⟨rfl, b1⟩); have p0 := (b1.cell (World.block_lt_of_cell? _ _ q0)).trans q0; have p1 := (b1.cell (World.block_lt_of_cell? _ _ q1)).trans q1; have p2 := (b1.cell (World.block_lt_of_cell? _ _ q2)).trans q2; have p3 := (b1.cell (World.block_lt_of_cell? _ _ q3)).trans q3)
            go_roundw
            case rel => exact ⟨k + 1, by omega, by go_num, hr, Lib.hid (PB.out.trans (b1.mono PB.out.size))⟩
            case measure => simp [intOf]; omega
    · obtain rfl : k = to := by omega
      have hr := Lib.hid (show ledB p k = false from HB.out)
      clear HB
      go_wp2_with fail
      go_ret
      exact ⟨by rw [hr.out]; rfl, PB.out⟩
end Go.Proofs.YtlneiiljdghmjaaDoor
