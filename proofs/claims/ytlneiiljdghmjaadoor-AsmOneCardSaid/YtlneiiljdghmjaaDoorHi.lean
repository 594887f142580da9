/- Whether a program can be written: what the landed call returns. Conditions: a slice is as long as its capacity allows; the table of codes lies in its variable. -/
import Derived.Test.YtlneiiljdghmjaaDoorHh
namespace Go.Proofs.YtlneiiljdghmjaaDoor
open Go.RowKit Go.Shelf
set_option linter.unusedVariables false
set_option linter.unusedSimpArgs false
attribute [local go_sem ↓] Go.wp_at_zero Go.wp_at_succ

theorem bad_targ {x : Ins} {k n : Nat} (h : plainI x = true) (hk : k < n) : badI x ((n : Int) - 1 - k) = !((targL x k).all (fun t => decide (t < (n : Int)))) := by
  have hkn := plain_known h
  have hf := forks_shape hkn
  have hj := ja_shape hkn
  unfold badI targL
  rw [h, Bool.not_true, Bool.false_or, hf, ← hj]
  by_cases h5 : x.c = 5
  · have h2 : shapeI x.c = 2 := by
      have := hj
      rw [beq_iff_eq.2 h5] at this
      exact beq_iff_eq.1 this.symm
    rw [if_pos h5, beq_iff_eq.2 h5, Bool.true_and, h2, decide_eq_false (show ¬ (2 : Int) < 2 by omega), Bool.false_and, Bool.or_false]
    simp only [List.all_cons, List.all_nil, Bool.and_true]
    rw [← decide_not]
    exact decide_eq_decide.2 (by omega)
  · rw [if_neg h5, beq_eq_false_iff_ne.2 h5, Bool.false_and, Bool.false_or]
    by_cases h3 : 2 < shapeI x.c
    · rw [decide_eq_true h3, Bool.true_and, if_pos rfl]
      simp only [List.all_cons, List.all_nil, Bool.and_true, Bool.not_and]
      rw [← decide_not, ← decide_not]
      congr 1
      · exact decide_eq_decide.2 (by omega)
      · exact decide_eq_decide.2 (by omega)
    · rw [decide_eq_false h3, Bool.false_and, if_neg Bool.false_ne_true]; rfl
theorem bad_dirty {x : Ins} (h : plainI x = false) (l : Int) : badI x l = true := by
  unfold badI; rw [h]; rfl
theorem canTo_step {p : List Ins} {k : Nat} {x : Ins} (hx : p[k]? = some x) : canTo p (k + 1) = (canTo p k && !badI x ((p.length : Int) - 1 - k)) := by
  show (canTo p k && _) = _
  rw [hx]
theorem canTo_low {p : List Ins} {k : Nat} (h : canTo p k = false) : ∀ {m : Nat}, k ≤ m → canTo p m = false
  | 0, hm => by obtain rfl : k = 0 := by omega
                exact h
  | m + 1, hm => by
    by_cases e : k = m + 1
    · rw [← e]; exact h
    · show (canTo p m && _) = false
      rw [canTo_low h (m := m) (by omega)]; rfl
theorem can_low {p : List Ins} {k : Nat} (h : canTo p k = false) (hk : k ≤ p.length) : canL p = false := by
  unfold canL
  rw [canTo_low h hk, Bool.and_false]
theorem canL_long {p : List Ins} (h : 4096 < p.length) : canL p = false := by
  unfold canL
  rw [decide_eq_false (by omega), Bool.false_and]
theorem can_all {p : List Ins} (h : p.length ≤ 4096) (h2 : canTo p p.length = true) : canL p = true := by
  unfold canL
  rw [decide_eq_true h, h2]; rfl
theorem can_nay (a0 : Option Addr) (n cap : Nat) (h : 4096 < n) (w : World) : Calls Tryd.prog 11 #[.slice a0 n cap] w fun e w' => e = .returned (.bool false) ∧ Below w.heap.size w w' := by
  have e1 : (4096 : Int) < n := by omega
  clear h
  go_enter Tryd.func11, Tryd.ntmps11
  go_wp2
  go_ret
  exact ⟨rfl, Below.refl _ _⟩
set_option maxRecDepth 100000 in
set_option maxHeartbeats 8000000 in
theorem can_in (a0 : Option Addr) (n cap : Nat) (p : List Ins) (w : World) (hG : GA w) (hl : p.length = n) (hok : OkL p) (h1 : n ≤ 4096) (hR : RdI w w.heap.size a0 p) :
    Calls Tryd.prog 11 #[.slice a0 n cap] w fun e w' => e = .returned (.bool (canL p)) ∧ Below w.heap.size w w' := by
  have HL := Lib.hid hl
  have HP := Lib.hid hok
  have HR := Lib.hid hR
  have HG := Lib.hid hG
  have HST := Lib.hid (fun k x (hx : p[k]? = some x) => canTo_step hx)
  have HLO := Lib.hid (fun k (h : canTo p k = false) (hk : k ≤ n) => can_low h (by rw [hl]; exact hk))
  have HAL := Lib.hid (fun (h : canTo p n = true) => can_all (by rw [hl]; exact h1) (by rw [hl]; exact h))
  rw [hl] at HST
  obtain ⟨r, hr⟩ : ∃ r, r = canL p := ⟨_, rfl⟩
  rw [← hr] at HLO HAL ⊢
  obtain ⟨F, hF⟩ : ∃ F, F = canTo p := ⟨_, rfl⟩
  rw [← hF] at HST HLO HAL
  have HF0 := Lib.hid (show F 0 = true by rw [hF]; rfl)
  have n4 : (n : Int) ≤ 4096 := by omega
  have e1 : ¬ (4096 : Int) < n := by omega
  have u1 : IntKind.u64.wrap (n : Int) = n := by rw [IntKind.wrap_u64]; omega
  clear hG hl hok h1 hR hr hF
  go_enter Tryd.func11, Tryd.ntmps11
  go_wp2_with fail
  go_loopw [12] (fun v12 wr => ∃ k : Nat, k ≤ n ∧ v12 = .int .i64 k ∧ Hid (F k = true) ∧ Hid (Below w.heap.size w wr)) (fun v12 _ => n - (intOf v12).toNat)
  case atStart => exact ⟨0, Nat.zero_le _, rfl, HF0, Lib.hid (Below.refl _ _)⟩
  case round =>
    obtain ⟨k, hk, rfl, HB, PB⟩ := hrel
    obtain ⟨W, rfl⟩ : ∃ wo : World, wo = wr := ⟨_, rfl⟩
    by_cases hlt : k < n
    · have hkl : k < p.length := by rw [HL.out]; exact hlt
      have i1 : (k : Int) < n := by omega
      have i2 : (0 : Int) ≤ k := by omega
      obtain ⟨b, o, hao, hbB, hcs⟩ := HR.out (by omega)
      subst hao
      have hat := hcs k hkl
      obtain ⟨x, hx⟩ : ∃ x, x = p[k] := ⟨_, rfl⟩
      have hxk : p[k]? = some x := by rw [hx]; exact List.getElem?_eq_getElem hkl
      have hxo := HP.out.get hkl
      rw [← hx] at hat hxo
      obtain ⟨q0, q1, q2, q3⟩ := hat.keep (w' := W) fun q hq => PB.out.cell (by omega)
      have hstep := HST.out k x hxk
      rw [HB.out, Bool.true_and] at hstep
      have PA := Lib.hid (PB.out.alloc PB.out.size (.cells #[.int .u16 x.c, .int .u8 x.jt, .int .u8 x.jf, .int .u32 x.k] 33))
      have HG1 := Lib.hid ((HG.out.on PA.out).rows)
      have HBX := Lib.hid (bx4 W (.int .u16 x.c) (.int .u8 x.jt) (.int .u8 x.jf) (.int .u32 x.k) 33)
      have HC := Lib.hid (fun V (g : GW V) => clean_call x hxo V g)
      rw [clean_plain] at HC
      have HT := Lib.hid (fun V (g : GW V) => targets_call x hxo k (by omega) V g)
      unfold TargTo at HT
      have HTB := Lib.hid (targ_bound hxo (at_ := k) (by omega))
      have htl := targ_le x k
      have BA := ball W (.cells #[.int .u16 x.c, .int .u8 x.jt, .int .u8 x.jf, .int .u32 x.k] 33)
      have HA := Lib.hid BA
      clear hat hx hkl BA hcs
      cases hpl : plainI x with
      | false =>
        rw [bad_dirty hpl] at hstep
        have HV := Lib.hid (HLO.out (k + 1) hstep (by omega))
        rw [hpl] at HC
        clear hstep hpl HT HTB htl
        obtain ⟨c, jt, jf, kk⟩ := x
        simp only at q0 q1 q2 q3
        clear hxk hxo
        go_wp2_with (go_at_call 24; ((with_reducible refine (HC.out _ HG1.out).mono ?_); rintro e w1 ⟨rfl, b1⟩); obtain ⟨s0, s1, s2, s3⟩ := kp4 b1 HBX.out)
        go_ret
        exact ⟨congrArg (fun b => Ending.returned (.bool b)) HV.out.symm, PA.out.trans (b1.mono PA.out.size)⟩
      | true =>
        rw [bad_targ hpl hlt, Bool.not_not] at hstep
        rw [hpl] at HC
        obtain ⟨T, hT⟩ : ∃ T, T = targL x k := ⟨_, rfl⟩
        rw [← hT] at hstep HT HTB htl
        have HS := Lib.hid hstep
        obtain ⟨tn, htn⟩ : ∃ tn, tn = T.length := ⟨_, rfl⟩
        rw [← htn] at HT htl
        have HTN := Lib.hid htn
        clear hstep hpl hT htn
        obtain ⟨c, jt, jf, kk⟩ := x
        simp only at q0 q1 q2 q3
        clear hxk hxo
        go_wp2_with (first
          | (go_at_call 24; ((with_reducible refine (HC.out _ HG1.out).mono ?_); rintro e w1 ⟨rfl, b1⟩); have S1 := Lib.hid (kp4 b1 HBX.out); obtain ⟨s0, s1, s2, s3⟩ := S1.out)
          | (go_at_call 25; ((with_reducible refine (HT.out _ (HG1.out.on b1)).mono ?_); rintro e w2 ⟨q, cc, rfl, u2, b2⟩); have U2 := Lib.hid u2; have B2 := Lib.hid (PA.out.trans ((th2 b1 b2).mono PA.out.size)); clear u2 s0 s1 s2 s3))
        go_loop [24] (fun v24 => ∃ j : Nat, j ≤ tn ∧ v24 = .int .i64 j ∧ Hid ((T.take j).all (fun t => decide (t < (n : Int))) = true)) (fun v24 => tn - (intOf v24).toNat)
        case atStart => exact ⟨0, Nat.zero_le _, rfl, Lib.hid rfl⟩
        case round =>
          obtain ⟨j, hj, rfl, HJ⟩ := hrel
          by_cases hlj : j < tn
          · have hjT : j < T.length := by rw [← HTN.out]; exact hlj
            have hxT : T[j]? = some T[j] := List.getElem?_eq_getElem hjT
            obtain ⟨g, hq, hcell⟩ := U2.out.cell hxT
            have hb := HTB.out T[j] (List.getElem_mem hjT)
            obtain ⟨t, ht⟩ : ∃ t, t = T[j] := ⟨_, rfl⟩
            have HN := Lib.hid (show (T.take (j + 1)).all (fun t => decide (t < (n : Int))) = decide (t < (n : Int)) by
              rw [List.take_succ_eq_append_getElem hjT, List.all_append, HJ.out, Bool.true_and, ht]; simp)
            have HM := Lib.hid (show decide (t < (n : Int)) = false → T.all (fun t => decide (t < (n : Int))) = false from fun e => by
              rw [ht] at e
              exact List.all_eq_false.2 ⟨_, List.getElem_mem hjT, by rw [e]; simp⟩)
            rw [← ht] at hcell hb
            have j1 : (j : Int) < tn := by omega
            have j2 : (0 : Int) ≤ j := by omega
            subst hq
            clear ht hxT hjT
            by_cases htn2 : t < n
            · have t1 : ¬ (n : Int) ≤ t := by omega
              go_wp2
              go_round
              case rel => exact ⟨j + 1, by omega, by go_num, Lib.hid (by rw [HN.out]; exact decide_eq_true htn2)⟩
              case measure => simp [intOf]; omega
            · have t1 : (n : Int) ≤ t := by omega
              have HV := Lib.hid (HLO.out (k + 1) (by rw [HS.out]; exact HM.out (decide_eq_false htn2)) (by omega))
              go_wp2
              go_ret
              exact ⟨congrArg (fun b => Ending.returned (.bool b)) HV.out.symm, B2.out⟩
          · obtain rfl : j = tn := by omega
            have j1 : ¬ (j : Int) < j := by omega
            have HV := Lib.hid (show F (k + 1) = true by
              rw [HS.out]
              have := HJ.out
              rw [HTN.out, List.take_length] at this
              exact this)
            go_wp2
            go_roundw
            case rel => exact ⟨k + 1, by omega, by go_num, HV, B2⟩
            case measure => simp [intOf]; omega
    · obtain rfl : k = n := by omega
      have i1 : ¬ (k : Int) < k := by omega
      have HV := Lib.hid (HAL.out HB.out)
      go_wp2
      go_ret
      exact ⟨congrArg (fun b => Ending.returned (.bool b)) HV.out.symm, PB.out⟩
/-- What the landed Can returns. -/
theorem can_call (a0 : Option Addr) (n cap : Nat) (p : List Ins) (w : World) (hG : GA w) (hl : p.length = n) (hok : OkL p) (hR : RdI w w.heap.size a0 p) :
    Calls Tryd.prog 11 #[.slice a0 n cap] w fun e w' => e = .returned (.bool (canL p)) ∧ Below w.heap.size w w' := by
  by_cases h : 4096 < n
  · rw [canL_long (by omega)]; exact can_nay a0 n cap h w
  · exact can_in a0 n cap p w hG hl hok (by omega) hR
end Go.Proofs.YtlneiiljdghmjaaDoor
