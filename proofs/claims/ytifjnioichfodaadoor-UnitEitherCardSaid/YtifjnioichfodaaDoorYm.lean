/- The statement UnitEither's walk of a file whose lines are told. The statement UnitEither's walk of a file whose lines are told. The statement UnitEither's walk of a file whose lines are told. -/
import Derived.Test.YtifjnioichfodaaDoorRows
import Derived.Test.YtifjnioichfodaaDoorCards
import Derived.Test.YtifjnioichfodaaDoorTie
import Derived.SevenTiedAt
import Derived.Test.YtifjnioichfodaaDoorFr
import Derived.Test.YtifjnioichfodaaDoorZn
import Derived.Test.YtifjnioichfodaaDoorXf
import Derived.Test.YtifjnioichfodaaDoorYw
import Derived.Test.YtifjnioichfodaaDoorYh
import Derived.Test.YtifjnioichfodaaDoorLl
import Derived.Test.YtifjnioichfodaaDoorYl
namespace Go.Proofs.YtifjnioichfodaaDoor.unitEither
open Go.ChangeShapes Go.WideShapes Go.ChangeAt Go.RowKit
open Go.ChangeMaps (open_string shut_string)
set_option linter.unusedVariables false
attribute [local go_sem ↓] Go.wp_at_zero Go.wp_at_succ
set_option linter.unusedSimpArgs false
set_option maxRecDepth 100000 in
set_option maxHeartbeats 32000000 in
theorem either_a1 {G : World → Prop} (HC : UnitC G) (HL : SplitC G) (f0 : ByteArray) (d0 : Int) (p0 : Option Addr) (len0 cap0 : Nat) (l0 : List UInt8) (w : World) (hG : G w) (wf : f0.size ≤ maxLen) (hl0 : l0.length = len0) (hr0 : RdB w w.heap.size p0 l0) (hfit : len0 ≤ cap0) (hmost : cap0 ≤ maxLen) (hnil : p0 = none → cap0 = 0) (hs1 : len0 ≤ 5000) (hE : splE l0 = 0) (O : List (Nat × List UInt8)) (hO : O = splL l0) (m : Nat) (hm : m = O.length) (S : US) (hS : S = stU f0 O m) (na : Nat) (hna : na = S.asl.length) (hn0 : S.nts = []) (hp : 0 < na) : Calls Tryd.prog 6 #[.agg #[.string f0, .int .i64 d0, .slice p0 len0 cap0]] w fun e w' => e = .returned (.bool true) ∧ Below w.heap.size w w' := by
  have HON := Lib.hid (fun (w w' : World) => HC.on (w := w) (w' := w'))
  have HG := Lib.hid hG
  have HR0 := Lib.hid hr0
  have HFIT := Lib.hid hfit
  have HMOST := Lib.hid hmost
  have HNIL := Lib.hid hnil
  have HP := Lib.hid (fun (W : World) (g : G W) (h5 : RdB W W.heap.size p0 l0) => HC.parse f0 d0 p0 len0 cap0 l0 W g wf hl0 (by omega) hfit hmost hnil h5)
  have HSP := Lib.hid (fun (W : World) (g : G W) (h5 : RdB W W.heap.size p0 l0) => HL p0 len0 cap0 l0 W g hl0 (by omega) hfit hmost hnil h5)
  have HW := Lib.hid (fun (W : World) (g : G W) => awake13_any HC W g)
  have k7 : (len0 : Int) ≤ 5000 := by omega
  have BU := Lib.hid ((Below.refl w.heap.size w).alloc (Nat.le_refl _) (.cells #[.string f0, .int .i64 d0, .slice p0 len0 cap0] 24))
  have GU := Lib.hid (HON.out _ _ HG.out BU.out)
  have e0 : filS f0 l0 = S := by unfold filS; rw [← hO, ← hm, hS]
  have e1 : filA f0 l0 = S.asl := by unfold filA; rw [if_neg (fun h => h hE), e0]; exact usA_yes hn0
  have e2 : filN f0 l0 = [] := by unfold filN; rw [if_neg (fun h => h hE), e0, hn0]
  rw [e1, e2] at HP
  rw [hE, ← hO] at HSP
  have HM := Lib.hid hm
  have HNA := Lib.hid hna
  have HSS := Lib.hid hS
  have HN0 := Lib.hid hn0
  have HEF := Lib.hid (eitF f0 O m)
  have hm1 : m ≤ 1000 := by rw [hm, hO]; exact splL_len l0
  have hna1 : na ≤ 1000 := by
    have h1 := stU_len f0 O m (by rw [hm]; exact Nat.le_refl _)
    rw [← hS] at h1
    omega
  have HTX := Lib.hid (fun (p : Nat × List UInt8) (h : p ∈ O) => (spl_text (l := l0) (by rw [← hO]; exact h) : p.2.length ≤ 65537000))
  have HSEC := Lib.hid (fun (t : List UInt8) (ht : t.length ≤ 65537000) (W : World) (g : G W) => HC.section_ (bs t) W g (by rw [bs_size]; omega))
  have HASG := Lib.hid (fun (t : List UInt8) (ht : t.length ≤ 65537000) (W : World) (g : G W) => HC.assignment (bs t) W g (by rw [bs_size]; omega))
  clear e0 e1 e2 hE hO hm hS hna hn0
  have g1 : (0 : Int) < na := by omega
  have g2 : decide ((0 : Int) < na) = true := decide_eq_true g1
  clear HC HL hG wf hl0 hr0 hfit hmost hnil hs1
  go_enter Tryd.func6, Tryd.ntmps6
  go_wp2_with (first
    | (go_at_call 8; ((with_reducible refine (HP.out _ GU.out (HR0.out.on BU.out)).mono ?_); rintro e v1 ⟨va, vn, rfl, sa, sn, b1⟩); have hb0 := (b1.block w.heap.size (by rw [World.size_alloc]; exact Nat.lt_succ_self _)).trans (heap_alloc_new w _); have x0 := (cell_of_row v1 w.heap.size 0 _ _ (0, 0) hb0).trans (show _ = some (Value.string f0) from rfl); have x2 := (cell_of_row v1 w.heap.size 2 _ _ (0, 0) hb0).trans (show _ = some (Value.slice p0 len0 cap0) from rfl); have B1 := Lib.hid (thn13 BU.out b1); have G1 := Lib.hid (HON.out _ _ HG.out B1.out); have SA := Lib.hid sa; have SN := Lib.hid sn; clear b1 hb0 sa sn)
    | (go_at_call 19; ((with_reducible refine (HSP.out _ G1.out (HR0.out.on B1.out)).mono ?_); rintro e v2 ⟨vl, rfl, sl, b2⟩); have SA2 := Lib.hid (SA.out.on b2); have SN2 := Lib.hid (SN.out.on b2); clear SA SN; have SA := SA2; have SN := SN2; clear SA2 SN2; obtain ⟨qa, ca, rfl, hca⟩ := SA.out; obtain ⟨qn, cn, rfl⟩ := rows_nil SN.out; have HCA := Lib.hid hca; rw [← HNA.out]; clear hca; obtain ⟨ql, cl, rfl, hcl⟩ := sl; have HCL := Lib.hid hcl; rw [← HM.out]; have y0 := (b2.cell (World.block_lt_of_cell? _ _ x0)).trans x0; have B2 := Lib.hid (thn13 B1.out b2); have G2 := Lib.hid (HON.out _ _ HG.out B2.out); clear b2 hcl))
  go_quiet (fail)
  go_wp2_with fail
  go_loopw [7, 8, 9] (fun v7 v8 v9 wr => ∃ k : Nat, k ≤ m ∧ v9 = .int .i64 k ∧ v8 = .string (bs (stU f0 O k).sec) ∧ v7 = .int .i64 ((stU f0 O k).asl.length : Nat) ∧ Hid (Below v2.heap.size v2 wr)) (fun _ _ v9 _ => m - (intOf v9).toNat)
  case atStart => exact ⟨0, Nat.zero_le _, rfl, rfl, rfl, Lib.hid (Go.below_drewN (Below.refl _ _) _)⟩
  case round =>
    obtain ⟨k, hk, rfl, rfl, rfl, PB⟩ := hrel
    obtain ⟨V, rfl⟩ : ∃ wo : World, wo = wr := ⟨_, rfl⟩
    by_cases hlt : k < m
    · have hx : O[k]? = some (O[k]'(by rw [← HM.out]; exact hlt)) := List.getElem?_eq_getElem _
      obtain ⟨p, hp⟩ : ∃ p, p = O[k]'(by rw [← HM.out]; exact hlt) := ⟨_, rfl⟩
      rw [← hp] at hx
      have htx := HTX.out p (List.mem_of_getElem? hx)
      obtain ⟨g, o, rfl, d1, d2⟩ := HCL.out k p hx
      have c1 := (PB.out.cell (World.block_lt_of_cell? v2 _ d1)).trans d1
      have c2 := (PB.out.cell (World.block_lt_of_cell? v2 _ d2)).trans d2
      have cb := (PB.out.cell (World.block_lt_of_cell? v2 _ y0)).trans y0
      have k1 : (k : Int) < m := by omega
      have k0 : (0 : Int) ≤ k := by omega
      have hw1 : IntKind.i64.wrap ((k : Int) + 1) = k + 1 := by rw [IntKind.wrap_i64]; omega
      have GV := Lib.hid (HON.out _ _ HG.out (thn13 B2.out PB.out))
      have hse := HSEC.out p.2 htx
      have has := HASG.out p.2 htx
      rw [bs_list] at hse has
      have HSE := Lib.hid hse
      have HAS := Lib.hid has
      have FS := Lib.hid (fun s h => HEF.out.sec k p s hlt hx h)
      have FA := Lib.hid (fun h1 h2 h3 => HEF.out.asg k p hlt hx h1 h2 h3)
      have FN := Lib.hid (fun h1 h2 => HEF.out.nte k p hlt hx h1 h2)
      rw [← HSS.out] at FA FN
      obtain ⟨st, hst⟩ : ∃ st, st = stU f0 O k := ⟨_, rfl⟩
      rw [← hst] at FS FA FN ⊢
      obtain ⟨sn, hsn⟩ : ∃ st, st = stU f0 O (k + 1) := ⟨_, rfl⟩
      rw [← hsn] at FS FA FN
      have HSN := Lib.hid hsn.symm
      obtain ⟨nr, hnr⟩ : ∃ x, x = ((p.1 : Nat) : Int) := ⟨_, rfl⟩
      rw [← hnr] at c1 FA FN
      obtain ⟨kk, hkk⟩ : ∃ x, x = st.asl.length := ⟨_, rfl⟩
      have HKK := Lib.hid hkk
      rw [← hkk]
      clear hx hp htx d1 d2 hse has hst hsn hnr hkk
      cases hs : secL p.2 with
      | some s =>
        have hv := Lib.hid (FS.out s hs)
        have e1 : secV p.2 = s := by unfold secV; rw [hs]; rfl
        rw [hs, e1] at HSE
        clear HAS FS FA FN hs e1
        go_wp2_with (go_at_call 13; ((with_reducible refine (HSE.out _ GV.out).mono ?_); rintro e W3 ⟨rfl, b3⟩); have B3 := Lib.hid (PB.out.trans (b3.mono PB.out.size)); clear b3)
        go_roundw
        case rel => exact ⟨k + 1, by omega, by go_num, by rw [HSN.out, hv.out.1], by rw [HSN.out, hv.out.2.1, ← HKK.out], B3⟩
        case measure => simp [intOf]; omega
      | none =>
        have e1 : secV p.2 = [] := by unfold secV; rw [hs]; rfl
        rw [hs, e1] at HSE
        have HS0 := Lib.hid hs
        clear FS e1 hs
        cases ha : (asgL p.2).isSome with
        | true =>
          rw [ha] at HAS
          by_cases hsec : st.sec = []
          · have hv := FN.out HS0.out (Or.inr hsec)
            have h4 := hv.2.2.2
            rw [HN0.out] at h4
            simp at h4
          · have hv := Lib.hid (FA.out HS0.out ha hsec)
            have tq := ne_bs hsec
            clear FA FN ha hsec
            obtain ⟨g2, o2, rfl, hrow⟩ := HCA.out _ _ hv.out.2.2.2
            have hkn := (List.getElem?_eq_some_iff.1 hv.out.2.2.2).1
            rw [← HNA.out, ← HKK.out] at hkn
            rw [← HKK.out] at hrow
            have q1 : (kk : Int) < na := by omega
            have q2 : ¬ (na : Int) ≤ kk := by omega
            have q0 : (0 : Int) ≤ kk := by omega
            have qw : IntKind.i64.wrap ((kk : Int) + 1) = kk + 1 := by rw [IntKind.wrap_i64]; omega
            have s0 : (f0.toList == f0.toList) = true := by simp
            have s1 : (nr == nr) = true := by simp
            have s2 : ((bs st.sec).toList == (bs st.sec).toList) = true := by simp
            have s3 : ((bs (asgK p.2)).toList == (bs (asgK p.2)).toList) = true := by simp
            have s4 : ((bs (asgW p.2)).toList == (bs (asgW p.2)).toList) = true := by simp
            go_wp2_with (first
              | (go_at_call 13; ((with_reducible refine (HSE.out _ GV.out).mono ?_); rintro e W3 ⟨rfl, b3⟩); have B3 := Lib.hid (PB.out.trans (b3.mono PB.out.size)); have G3 := Lib.hid (HON.out _ _ GV.out b3); have c3 := (b3.cell (World.block_lt_of_cell? _ _ c1)).trans c1; have c4 := (b3.cell (World.block_lt_of_cell? _ _ c2)).trans c2; have c5 := (b3.cell (World.block_lt_of_cell? _ _ cb)).trans cb; clear b3)
              | (go_at_call 15; ((with_reducible refine (HAS.out _ G3.out).mono ?_); rintro e W4 ⟨rfl, b4⟩); have B4 := Lib.hid (B3.out.trans (b4.mono B3.out.size)); have c6 := (b4.cell (World.block_lt_of_cell? _ _ c3)).trans c3; have c7 := (b4.cell (World.block_lt_of_cell? _ _ c5)).trans c5; have n0 := (B4.out.cell (World.block_lt_of_cell? _ _ (hrow 0 _ rfl))).trans (hrow 0 _ rfl); have n1 := (B4.out.cell (World.block_lt_of_cell? _ _ (hrow 1 _ rfl))).trans (hrow 1 _ rfl); have n2 := (B4.out.cell (World.block_lt_of_cell? _ _ (hrow 2 _ rfl))).trans (hrow 2 _ rfl); have n3 := (B4.out.cell (World.block_lt_of_cell? _ _ (hrow 3 _ rfl))).trans (hrow 3 _ rfl); have n4 := (B4.out.cell (World.block_lt_of_cell? _ _ (hrow 4 _ rfl))).trans (hrow 4 _ rfl); rw [Nat.add_zero] at n0; clear b4))
            go_quiet (fail)
            go_wp2_with fail
            go_roundw
            case rel => exact ⟨k + 1, by omega, by go_num, by rw [HSN.out, hv.out.1], by rw [HSN.out, hv.out.2.1, ← HKK.out]; rfl, Lib.hid (Go.below_drewN B4.out _)⟩
            case measure => simp [intOf]; omega
        | false =>
          rw [ha] at HAS
          have hv := FN.out HS0.out (Or.inl ha)
          have h4 := hv.2.2.2
          rw [HN0.out] at h4
          simp at h4
    · obtain rfl : k = m := by omega
      have k1 : ¬ (k : Int) < k := by omega
      have GV := Lib.hid (HON.out _ _ HG.out (thn13 B2.out PB.out))
      have HKE := Lib.hid (show (stU f0 O k).asl.length = na by rw [← HSS.out, HNA.out])
      rw [HKE.out]
      have hw2 : IntKind.i64.wrap (na : Int) = na := by rw [IntKind.wrap_i64]; omega
      have t1 : ((na : Int) == (na : Int)) = true := by simp
      go_wp2_with (go_at_call 12; ((with_reducible refine (HW.out _ GV.out).mono ?_); rintro e W9 ⟨rfl, b9⟩); have B9 := Lib.hid (thn13 (thn13 B2.out PB.out) b9); clear b9)
      go_ret
      exact ⟨by first | rfl | simp, B9.out⟩
end Go.Proofs.YtifjnioichfodaaDoor.unitEither
namespace Go.Proofs.YtifjnioichfodaaDoor.unitEither
open Go.ChangeShapes Go.WideShapes Go.ChangeAt Go.RowKit
open Go.ChangeMaps (open_string shut_string)
set_option linter.unusedVariables false
attribute [local go_sem ↓] Go.wp_at_zero Go.wp_at_succ
set_option linter.unusedSimpArgs false
set_option maxRecDepth 100000 in
set_option maxHeartbeats 32000000 in
theorem either_a0 {G : World → Prop} (HC : UnitC G) (HL : SplitC G) (f0 : ByteArray) (d0 : Int) (p0 : Option Addr) (len0 cap0 : Nat) (l0 : List UInt8) (w : World) (hG : G w) (wf : f0.size ≤ maxLen) (hl0 : l0.length = len0) (hr0 : RdB w w.heap.size p0 l0) (hfit : len0 ≤ cap0) (hmost : cap0 ≤ maxLen) (hnil : p0 = none → cap0 = 0) (hs1 : len0 ≤ 5000) (hE : splE l0 = 0) (O : List (Nat × List UInt8)) (hO : O = splL l0) (m : Nat) (hm : m = O.length) (S : US) (hS : S = stU f0 O m) (na : Nat) (hna : na = S.asl.length) (hn0 : S.nts = []) (hp : na = 0) : Calls Tryd.prog 6 #[.agg #[.string f0, .int .i64 d0, .slice p0 len0 cap0]] w fun e w' => e = .returned (.bool true) ∧ Below w.heap.size w w' := by
  have HON := Lib.hid (fun (w w' : World) => HC.on (w := w) (w' := w'))
  have HG := Lib.hid hG
  have HR0 := Lib.hid hr0
  have HFIT := Lib.hid hfit
  have HMOST := Lib.hid hmost
  have HNIL := Lib.hid hnil
  have HP := Lib.hid (fun (W : World) (g : G W) (h5 : RdB W W.heap.size p0 l0) => HC.parse f0 d0 p0 len0 cap0 l0 W g wf hl0 (by omega) hfit hmost hnil h5)
  have HSP := Lib.hid (fun (W : World) (g : G W) (h5 : RdB W W.heap.size p0 l0) => HL p0 len0 cap0 l0 W g hl0 (by omega) hfit hmost hnil h5)
  have HW := Lib.hid (fun (W : World) (g : G W) => awake13_any HC W g)
  have k7 : (len0 : Int) ≤ 5000 := by omega
  have BU := Lib.hid ((Below.refl w.heap.size w).alloc (Nat.le_refl _) (.cells #[.string f0, .int .i64 d0, .slice p0 len0 cap0] 24))
  have GU := Lib.hid (HON.out _ _ HG.out BU.out)
  have e0 : filS f0 l0 = S := by unfold filS; rw [← hO, ← hm, hS]
  have e1 : filA f0 l0 = S.asl := by unfold filA; rw [if_neg (fun h => h hE), e0]; exact usA_yes hn0
  have e2 : filN f0 l0 = [] := by unfold filN; rw [if_neg (fun h => h hE), e0, hn0]
  rw [e1, e2] at HP
  rw [hE, ← hO] at HSP
  have HM := Lib.hid hm
  have HNA := Lib.hid hna
  have HSS := Lib.hid hS
  have HN0 := Lib.hid hn0
  have HEF := Lib.hid (eitF f0 O m)
  have hm1 : m ≤ 1000 := by rw [hm, hO]; exact splL_len l0
  have hna1 : na ≤ 1000 := by
    have h1 := stU_len f0 O m (by rw [hm]; exact Nat.le_refl _)
    rw [← hS] at h1
    omega
  have HTX := Lib.hid (fun (p : Nat × List UInt8) (h : p ∈ O) => (spl_text (l := l0) (by rw [← hO]; exact h) : p.2.length ≤ 65537000))
  have HSEC := Lib.hid (fun (t : List UInt8) (ht : t.length ≤ 65537000) (W : World) (g : G W) => HC.section_ (bs t) W g (by rw [bs_size]; omega))
  have HASG := Lib.hid (fun (t : List UInt8) (ht : t.length ≤ 65537000) (W : World) (g : G W) => HC.assignment (bs t) W g (by rw [bs_size]; omega))
  clear e0 e1 e2 hE hO hm hS hna hn0
  have g1 : ¬ (0 : Int) < na := by omega
  have g2 : decide ((0 : Int) < na) = false := decide_eq_false g1
  clear HC HL hG wf hl0 hr0 hfit hmost hnil hs1
  go_enter Tryd.func6, Tryd.ntmps6
  go_wp2_with (first
    | (go_at_call 8; ((with_reducible refine (HP.out _ GU.out (HR0.out.on BU.out)).mono ?_); rintro e v1 ⟨va, vn, rfl, sa, sn, b1⟩); have hb0 := (b1.block w.heap.size (by rw [World.size_alloc]; exact Nat.lt_succ_self _)).trans (heap_alloc_new w _); have x0 := (cell_of_row v1 w.heap.size 0 _ _ (0, 0) hb0).trans (show _ = some (Value.string f0) from rfl); have x2 := (cell_of_row v1 w.heap.size 2 _ _ (0, 0) hb0).trans (show _ = some (Value.slice p0 len0 cap0) from rfl); have B1 := Lib.hid (thn13 BU.out b1); have G1 := Lib.hid (HON.out _ _ HG.out B1.out); have SA := Lib.hid sa; have SN := Lib.hid sn; clear b1 hb0 sa sn)
    | (go_at_call 19; ((with_reducible refine (HSP.out _ G1.out (HR0.out.on B1.out)).mono ?_); rintro e v2 ⟨vl, rfl, sl, b2⟩); have SA2 := Lib.hid (SA.out.on b2); have SN2 := Lib.hid (SN.out.on b2); clear SA SN; have SA := SA2; have SN := SN2; clear SA2 SN2; obtain ⟨qa, ca, rfl, hca⟩ := SA.out; obtain ⟨qn, cn, rfl⟩ := rows_nil SN.out; have HCA := Lib.hid hca; rw [← HNA.out]; clear hca; obtain ⟨ql, cl, rfl, hcl⟩ := sl; have HCL := Lib.hid hcl; rw [← HM.out]; have y0 := (b2.cell (World.block_lt_of_cell? _ _ x0)).trans x0; have B2 := Lib.hid (thn13 B1.out b2); have G2 := Lib.hid (HON.out _ _ HG.out B2.out); clear b2 hcl))
  go_quiet (fail)
  go_wp2_with fail
  go_loopw [7, 8, 9] (fun v7 v8 v9 wr => ∃ k : Nat, k ≤ m ∧ v9 = .int .i64 k ∧ v8 = .string (bs (stU f0 O k).sec) ∧ v7 = .int .i64 ((stU f0 O k).asl.length : Nat) ∧ Hid (Below v2.heap.size v2 wr)) (fun _ _ v9 _ => m - (intOf v9).toNat)
  case atStart => exact ⟨0, Nat.zero_le _, rfl, rfl, rfl, Lib.hid (Go.below_drewN (Below.refl _ _) _)⟩
  case round =>
    obtain ⟨k, hk, rfl, rfl, rfl, PB⟩ := hrel
    obtain ⟨V, rfl⟩ : ∃ wo : World, wo = wr := ⟨_, rfl⟩
    by_cases hlt : k < m
    · have hx : O[k]? = some (O[k]'(by rw [← HM.out]; exact hlt)) := List.getElem?_eq_getElem _
      obtain ⟨p, hp⟩ : ∃ p, p = O[k]'(by rw [← HM.out]; exact hlt) := ⟨_, rfl⟩
      rw [← hp] at hx
      have htx := HTX.out p (List.mem_of_getElem? hx)
      obtain ⟨g, o, rfl, d1, d2⟩ := HCL.out k p hx
      have c1 := (PB.out.cell (World.block_lt_of_cell? v2 _ d1)).trans d1
      have c2 := (PB.out.cell (World.block_lt_of_cell? v2 _ d2)).trans d2
      have cb := (PB.out.cell (World.block_lt_of_cell? v2 _ y0)).trans y0
      have k1 : (k : Int) < m := by omega
      have k0 : (0 : Int) ≤ k := by omega
      have hw1 : IntKind.i64.wrap ((k : Int) + 1) = k + 1 := by rw [IntKind.wrap_i64]; omega
      have GV := Lib.hid (HON.out _ _ HG.out (thn13 B2.out PB.out))
      have hse := HSEC.out p.2 htx
      have has := HASG.out p.2 htx
      rw [bs_list] at hse has
      have HSE := Lib.hid hse
      have HAS := Lib.hid has
      have FS := Lib.hid (fun s h => HEF.out.sec k p s hlt hx h)
      have FA := Lib.hid (fun h1 h2 h3 => HEF.out.asg k p hlt hx h1 h2 h3)
      have FN := Lib.hid (fun h1 h2 => HEF.out.nte k p hlt hx h1 h2)
      rw [← HSS.out] at FA FN
      obtain ⟨st, hst⟩ : ∃ st, st = stU f0 O k := ⟨_, rfl⟩
      rw [← hst] at FS FA FN ⊢
      obtain ⟨sn, hsn⟩ : ∃ st, st = stU f0 O (k + 1) := ⟨_, rfl⟩
      rw [← hsn] at FS FA FN
      have HSN := Lib.hid hsn.symm
      obtain ⟨nr, hnr⟩ : ∃ x, x = ((p.1 : Nat) : Int) := ⟨_, rfl⟩
      rw [← hnr] at c1 FA FN
      obtain ⟨kk, hkk⟩ : ∃ x, x = st.asl.length := ⟨_, rfl⟩
      have HKK := Lib.hid hkk
      rw [← hkk]
      clear hx hp htx d1 d2 hse has hst hsn hnr hkk
      cases hs : secL p.2 with
      | some s =>
        have hv := Lib.hid (FS.out s hs)
        have e1 : secV p.2 = s := by unfold secV; rw [hs]; rfl
        rw [hs, e1] at HSE
        clear HAS FS FA FN hs e1
        go_wp2_with (go_at_call 13; ((with_reducible refine (HSE.out _ GV.out).mono ?_); rintro e W3 ⟨rfl, b3⟩); have B3 := Lib.hid (PB.out.trans (b3.mono PB.out.size)); clear b3)
        go_roundw
        case rel => exact ⟨k + 1, by omega, by go_num, by rw [HSN.out, hv.out.1], by rw [HSN.out, hv.out.2.1, ← HKK.out], B3⟩
        case measure => simp [intOf]; omega
      | none =>
        have e1 : secV p.2 = [] := by unfold secV; rw [hs]; rfl
        rw [hs, e1] at HSE
        have HS0 := Lib.hid hs
        clear FS e1 hs
        cases ha : (asgL p.2).isSome with
        | true =>
          rw [ha] at HAS
          by_cases hsec : st.sec = []
          · have hv := FN.out HS0.out (Or.inr hsec)
            have h4 := hv.2.2.2
            rw [HN0.out] at h4
            simp at h4
          · have hv := Lib.hid (FA.out HS0.out ha hsec)
            have tq := ne_bs hsec
            clear FA FN ha hsec
            have hkn := (List.getElem?_eq_some_iff.1 hv.out.2.2.2).1
            rw [← HNA.out] at hkn
            exact absurd hkn (by omega)
        | false =>
          rw [ha] at HAS
          have hv := FN.out HS0.out (Or.inl ha)
          have h4 := hv.2.2.2
          rw [HN0.out] at h4
          simp at h4
    · obtain rfl : k = m := by omega
      have k1 : ¬ (k : Int) < k := by omega
      have GV := Lib.hid (HON.out _ _ HG.out (thn13 B2.out PB.out))
      have HKE := Lib.hid (show (stU f0 O k).asl.length = na by rw [← HSS.out, HNA.out])
      rw [HKE.out]
      have hw2 : IntKind.i64.wrap (na : Int) = na := by rw [IntKind.wrap_i64]; omega
      have t1 : ((na : Int) == (na : Int)) = true := by simp
      go_wp2_with (go_at_call 12; ((with_reducible refine (HW.out _ GV.out).mono ?_); rintro e W9 ⟨rfl, b9⟩); have B9 := Lib.hid (thn13 (thn13 B2.out PB.out) b9); clear b9)
      go_ret
      exact ⟨by first | rfl | simp, B9.out⟩
end Go.Proofs.YtifjnioichfodaaDoor.unitEither
namespace Go.Proofs.YtifjnioichfodaaDoor.unitEither
open Go.ChangeShapes Go.WideShapes Go.ChangeAt Go.RowKit
open Go.ChangeMaps (open_string shut_string)
set_option linter.unusedVariables false
attribute [local go_sem ↓] Go.wp_at_zero Go.wp_at_succ
set_option linter.unusedSimpArgs false
set_option maxRecDepth 100000 in
set_option maxHeartbeats 32000000 in
theorem either_b1 {G : World → Prop} (HC : UnitC G) (HL : SplitC G) (f0 : ByteArray) (d0 : Int) (p0 : Option Addr) (len0 cap0 : Nat) (l0 : List UInt8) (w : World) (hG : G w) (wf : f0.size ≤ maxLen) (hl0 : l0.length = len0) (hr0 : RdB w w.heap.size p0 l0) (hfit : len0 ≤ cap0) (hmost : cap0 ≤ maxLen) (hnil : p0 = none → cap0 = 0) (hs1 : len0 ≤ 5000) (hE : splE l0 = 0) (O : List (Nat × List UInt8)) (hO : O = splL l0) (m : Nat) (hm : m = O.length) (S : US) (hS : S = stU f0 O m) (na : Nat) (hna : na = S.nts.length) (hn0 : ¬ S.nts = []) (hp : 0 < na) : Calls Tryd.prog 6 #[.agg #[.string f0, .int .i64 d0, .slice p0 len0 cap0]] w fun e w' => e = .returned (.bool true) ∧ Below w.heap.size w w' := by
  have HON := Lib.hid (fun (w w' : World) => HC.on (w := w) (w' := w'))
  have HG := Lib.hid hG
  have HR0 := Lib.hid hr0
  have HFIT := Lib.hid hfit
  have HMOST := Lib.hid hmost
  have HNIL := Lib.hid hnil
  have HP := Lib.hid (fun (W : World) (g : G W) (h5 : RdB W W.heap.size p0 l0) => HC.parse f0 d0 p0 len0 cap0 l0 W g wf hl0 (by omega) hfit hmost hnil h5)
  have HSP := Lib.hid (fun (W : World) (g : G W) (h5 : RdB W W.heap.size p0 l0) => HL p0 len0 cap0 l0 W g hl0 (by omega) hfit hmost hnil h5)
  have HW := Lib.hid (fun (W : World) (g : G W) => awake13_any HC W g)
  have k7 : (len0 : Int) ≤ 5000 := by omega
  have BU := Lib.hid ((Below.refl w.heap.size w).alloc (Nat.le_refl _) (.cells #[.string f0, .int .i64 d0, .slice p0 len0 cap0] 24))
  have GU := Lib.hid (HON.out _ _ HG.out BU.out)
  have e0 : filS f0 l0 = S := by unfold filS; rw [← hO, ← hm, hS]
  have e1 : filA f0 l0 = [] := by unfold filA; rw [if_neg (fun h => h hE), e0]; exact usA_no hn0
  have e2 : filN f0 l0 = S.nts := by unfold filN; rw [if_neg (fun h => h hE), e0]
  rw [e1, e2] at HP
  rw [hE, ← hO] at HSP
  have HM := Lib.hid hm
  have HNA := Lib.hid hna
  have HSS := Lib.hid hS
  have HN0 := Lib.hid hn0
  have HEF := Lib.hid (eitF f0 O m)
  have hm1 : m ≤ 1000 := by rw [hm, hO]; exact splL_len l0
  have hna1 : na ≤ 1000 := by
    have h1 := stU_len f0 O m (by rw [hm]; exact Nat.le_refl _)
    rw [← hS] at h1
    omega
  have HTX := Lib.hid (fun (p : Nat × List UInt8) (h : p ∈ O) => (spl_text (l := l0) (by rw [← hO]; exact h) : p.2.length ≤ 65537000))
  have HSEC := Lib.hid (fun (t : List UInt8) (ht : t.length ≤ 65537000) (W : World) (g : G W) => HC.section_ (bs t) W g (by rw [bs_size]; omega))
  have HASG := Lib.hid (fun (t : List UInt8) (ht : t.length ≤ 65537000) (W : World) (g : G W) => HC.assignment (bs t) W g (by rw [bs_size]; omega))
  clear e0 e1 e2 hE hO hm hS hna hn0
  have g1 : (0 : Int) < na := by omega
  have g2 : decide ((0 : Int) < na) = true := decide_eq_true g1
  have g3 : na ≠ 0 := by omega
  clear HC HL hG wf hl0 hr0 hfit hmost hnil hs1
  go_enter Tryd.func6, Tryd.ntmps6
  go_wp2_with (first
    | (go_at_call 8; ((with_reducible refine (HP.out _ GU.out (HR0.out.on BU.out)).mono ?_); rintro e v1 ⟨va, vn, rfl, sa, sn, b1⟩); have hb0 := (b1.block w.heap.size (by rw [World.size_alloc]; exact Nat.lt_succ_self _)).trans (heap_alloc_new w _); have x0 := (cell_of_row v1 w.heap.size 0 _ _ (0, 0) hb0).trans (show _ = some (Value.string f0) from rfl); have x2 := (cell_of_row v1 w.heap.size 2 _ _ (0, 0) hb0).trans (show _ = some (Value.slice p0 len0 cap0) from rfl); have B1 := Lib.hid (thn13 BU.out b1); have G1 := Lib.hid (HON.out _ _ HG.out B1.out); have SA := Lib.hid sa; have SN := Lib.hid sn; clear b1 hb0 sa sn)
    | (go_at_call 19; ((with_reducible refine (HSP.out _ G1.out (HR0.out.on B1.out)).mono ?_); rintro e v2 ⟨vl, rfl, sl, b2⟩); have SA2 := Lib.hid (SA.out.on b2); have SN2 := Lib.hid (SN.out.on b2); clear SA SN; have SA := SA2; have SN := SN2; clear SA2 SN2; obtain ⟨qa, ca, rfl⟩ := rows_nil SA.out; obtain ⟨qn, cn, rfl, hca⟩ := SN.out; have HCA := Lib.hid hca; rw [← HNA.out]; clear hca; obtain ⟨ql, cl, rfl, hcl⟩ := sl; have HCL := Lib.hid hcl; rw [← HM.out]; have y0 := (b2.cell (World.block_lt_of_cell? _ _ x0)).trans x0; have B2 := Lib.hid (thn13 B1.out b2); have G2 := Lib.hid (HON.out _ _ HG.out B2.out); clear b2 hcl))
  go_quiet (fail)
  go_wp2_with fail
  go_loopw [7, 8, 9] (fun v7 v8 v9 wr => ∃ k : Nat, k ≤ m ∧ v9 = .int .i64 k ∧ v8 = .string (bs (stU f0 O k).sec) ∧ v7 = .int .i64 ((stU f0 O k).nts.length : Nat) ∧ Hid (Below v2.heap.size v2 wr)) (fun _ _ v9 _ => m - (intOf v9).toNat)
  case atStart => exact ⟨0, Nat.zero_le _, rfl, rfl, rfl, Lib.hid (Go.below_drewN (Below.refl _ _) _)⟩
  case round =>
    obtain ⟨k, hk, rfl, rfl, rfl, PB⟩ := hrel
    obtain ⟨V, rfl⟩ : ∃ wo : World, wo = wr := ⟨_, rfl⟩
    by_cases hlt : k < m
    · have hx : O[k]? = some (O[k]'(by rw [← HM.out]; exact hlt)) := List.getElem?_eq_getElem _
      obtain ⟨p, hp⟩ : ∃ p, p = O[k]'(by rw [← HM.out]; exact hlt) := ⟨_, rfl⟩
      rw [← hp] at hx
      have htx := HTX.out p (List.mem_of_getElem? hx)
      obtain ⟨g, o, rfl, d1, d2⟩ := HCL.out k p hx
      have c1 := (PB.out.cell (World.block_lt_of_cell? v2 _ d1)).trans d1
      have c2 := (PB.out.cell (World.block_lt_of_cell? v2 _ d2)).trans d2
      have cb := (PB.out.cell (World.block_lt_of_cell? v2 _ y0)).trans y0
      have k1 : (k : Int) < m := by omega
      have k0 : (0 : Int) ≤ k := by omega
      have hw1 : IntKind.i64.wrap ((k : Int) + 1) = k + 1 := by rw [IntKind.wrap_i64]; omega
      have GV := Lib.hid (HON.out _ _ HG.out (thn13 B2.out PB.out))
      have hse := HSEC.out p.2 htx
      have has := HASG.out p.2 htx
      rw [bs_list] at hse has
      have HSE := Lib.hid hse
      have HAS := Lib.hid has
      have FS := Lib.hid (fun s h => HEF.out.sec k p s hlt hx h)
      have FA := Lib.hid (fun h1 h2 h3 => HEF.out.asg k p hlt hx h1 h2 h3)
      have FN := Lib.hid (fun h1 h2 => HEF.out.nte k p hlt hx h1 h2)
      rw [← HSS.out] at FA FN
      obtain ⟨st, hst⟩ : ∃ st, st = stU f0 O k := ⟨_, rfl⟩
      rw [← hst] at FS FA FN ⊢
      obtain ⟨sn, hsn⟩ : ∃ st, st = stU f0 O (k + 1) := ⟨_, rfl⟩
      rw [← hsn] at FS FA FN
      have HSN := Lib.hid hsn.symm
      obtain ⟨nr, hnr⟩ : ∃ x, x = ((p.1 : Nat) : Int) := ⟨_, rfl⟩
      rw [← hnr] at c1 FA FN
      obtain ⟨kk, hkk⟩ : ∃ x, x = st.nts.length := ⟨_, rfl⟩
      have HKK := Lib.hid hkk
      rw [← hkk]
      clear hx hp htx d1 d2 hse has hst hsn hnr hkk
      cases hs : secL p.2 with
      | some s =>
        have hv := Lib.hid (FS.out s hs)
        have e1 : secV p.2 = s := by unfold secV; rw [hs]; rfl
        rw [hs, e1] at HSE
        clear HAS FS FA FN hs e1
        go_wp2_with (go_at_call 13; ((with_reducible refine (HSE.out _ GV.out).mono ?_); rintro e W3 ⟨rfl, b3⟩); have B3 := Lib.hid (PB.out.trans (b3.mono PB.out.size)); clear b3)
        go_roundw
        case rel => exact ⟨k + 1, by omega, by go_num, by rw [HSN.out, hv.out.1], by rw [HSN.out, hv.out.2.2, ← HKK.out], B3⟩
        case measure => simp [intOf]; omega
      | none =>
        have e1 : secV p.2 = [] := by unfold secV; rw [hs]; rfl
        rw [hs, e1] at HSE
        have HS0 := Lib.hid hs
        clear FS e1 hs
        cases ha : (asgL p.2).isSome with
        | true =>
          rw [ha] at HAS
          by_cases hsec : st.sec = []
          · have hv := Lib.hid (FN.out HS0.out (Or.inr hsec))
            have tq : (bs st.sec).toList.isEmpty = true := by rw [hsec, bs_toList]; rfl
            clear FA FN ha hsec
            obtain ⟨g2, o2, rfl, hrow⟩ := HCA.out _ _ hv.out.2.2.2
            have hkn := (List.getElem?_eq_some_iff.1 hv.out.2.2.2).1
            rw [← HNA.out, ← HKK.out] at hkn
            rw [← HKK.out] at hrow
            have q1 : (kk : Int) < na := by omega
            have q2 : ¬ (na : Int) ≤ kk := by omega
            have q0 : (0 : Int) ≤ kk := by omega
            have qw : IntKind.i64.wrap ((kk : Int) + 1) = kk + 1 := by rw [IntKind.wrap_i64]; omega
            have s1 : (nr == nr) = true := by simp
            go_wp2_with (first
              | (go_at_call 13; ((with_reducible refine (HSE.out _ GV.out).mono ?_); rintro e W3 ⟨rfl, b3⟩); have B3 := Lib.hid (PB.out.trans (b3.mono PB.out.size)); have G3 := Lib.hid (HON.out _ _ GV.out b3); have c3 := (b3.cell (World.block_lt_of_cell? _ _ c1)).trans c1; have c4 := (b3.cell (World.block_lt_of_cell? _ _ c2)).trans c2; have c5 := (b3.cell (World.block_lt_of_cell? _ _ cb)).trans cb; clear b3)
              | (go_at_call 15; ((with_reducible refine (HAS.out _ G3.out).mono ?_); rintro e W4 ⟨rfl, b4⟩); have B4 := Lib.hid (B3.out.trans (b4.mono B3.out.size)); have c6 := (b4.cell (World.block_lt_of_cell? _ _ c3)).trans c3; have c7 := (b4.cell (World.block_lt_of_cell? _ _ c5)).trans c5; have n0 := (B4.out.cell (World.block_lt_of_cell? _ _ (hrow 0 _ rfl))).trans (hrow 0 _ rfl); have n1 := (B4.out.cell (World.block_lt_of_cell? _ _ (hrow 1 _ rfl))).trans (hrow 1 _ rfl); have n2 := (B4.out.cell (World.block_lt_of_cell? _ _ (hrow 2 _ rfl))).trans (hrow 2 _ rfl); have n3 := (B4.out.cell (World.block_lt_of_cell? _ _ (hrow 3 _ rfl))).trans (hrow 3 _ rfl); rw [Nat.add_zero] at n0; clear b4))
            go_quiet (fail)
            go_wp2_with fail
            go_roundw
            case rel => exact ⟨k + 1, by omega, by go_num, by rw [HSN.out, hv.out.1], by rw [HSN.out, hv.out.2.2.1, ← HKK.out]; rfl, Lib.hid (Go.below_drewN B4.out _)⟩
            case measure => simp [intOf]; omega
          · have hv := Lib.hid (FA.out HS0.out ha hsec)
            have tq := ne_bs hsec
            clear FA FN ha hsec
            go_wp2_with (first
              | (go_at_call 13; ((with_reducible refine (HSE.out _ GV.out).mono ?_); rintro e W3 ⟨rfl, b3⟩); have B3 := Lib.hid (PB.out.trans (b3.mono PB.out.size)); have G3 := Lib.hid (HON.out _ _ GV.out b3); have c3 := (b3.cell (World.block_lt_of_cell? _ _ c1)).trans c1; have c4 := (b3.cell (World.block_lt_of_cell? _ _ c2)).trans c2; have c5 := (b3.cell (World.block_lt_of_cell? _ _ cb)).trans cb; clear b3)
              | (go_at_call 15; ((with_reducible refine (HAS.out _ G3.out).mono ?_); rintro e W4 ⟨rfl, b4⟩); have B4 := Lib.hid (B3.out.trans (b4.mono B3.out.size)); have c6 := (b4.cell (World.block_lt_of_cell? _ _ c3)).trans c3; have c7 := (b4.cell (World.block_lt_of_cell? _ _ c5)).trans c5;  clear b4))
            go_roundw
            case rel => exact ⟨k + 1, by omega, by go_num, by rw [HSN.out, hv.out.1], by rw [HSN.out, hv.out.2.2.1, ← HKK.out], B4⟩
            case measure => simp [intOf]; omega
        | false =>
          rw [ha] at HAS
          have hv := Lib.hid (FN.out HS0.out (Or.inl ha))
          clear FA FN ha
          obtain ⟨g2, o2, rfl, hrow⟩ := HCA.out _ _ hv.out.2.2.2
          have hkn := (List.getElem?_eq_some_iff.1 hv.out.2.2.2).1
          rw [← HNA.out, ← HKK.out] at hkn
          rw [← HKK.out] at hrow
          have q1 : (kk : Int) < na := by omega
          have q2 : ¬ (na : Int) ≤ kk := by omega
          have q0 : (0 : Int) ≤ kk := by omega
          have qw : IntKind.i64.wrap ((kk : Int) + 1) = kk + 1 := by rw [IntKind.wrap_i64]; omega
          have s1 : (nr == nr) = true := by simp
          go_wp2_with (first
            | (go_at_call 13; ((with_reducible refine (HSE.out _ GV.out).mono ?_); rintro e W3 ⟨rfl, b3⟩); have B3 := Lib.hid (PB.out.trans (b3.mono PB.out.size)); have G3 := Lib.hid (HON.out _ _ GV.out b3); have c3 := (b3.cell (World.block_lt_of_cell? _ _ c1)).trans c1; have c4 := (b3.cell (World.block_lt_of_cell? _ _ c2)).trans c2; have c5 := (b3.cell (World.block_lt_of_cell? _ _ cb)).trans cb; clear b3)
            | (go_at_call 15; ((with_reducible refine (HAS.out _ G3.out).mono ?_); rintro e W4 ⟨rfl, b4⟩); have B4 := Lib.hid (B3.out.trans (b4.mono B3.out.size)); have c6 := (b4.cell (World.block_lt_of_cell? _ _ c3)).trans c3; have c7 := (b4.cell (World.block_lt_of_cell? _ _ c5)).trans c5; have n0 := (B4.out.cell (World.block_lt_of_cell? _ _ (hrow 0 _ rfl))).trans (hrow 0 _ rfl); have n1 := (B4.out.cell (World.block_lt_of_cell? _ _ (hrow 1 _ rfl))).trans (hrow 1 _ rfl); have n2 := (B4.out.cell (World.block_lt_of_cell? _ _ (hrow 2 _ rfl))).trans (hrow 2 _ rfl); have n3 := (B4.out.cell (World.block_lt_of_cell? _ _ (hrow 3 _ rfl))).trans (hrow 3 _ rfl); rw [Nat.add_zero] at n0; clear b4))
          go_quiet (fail)
          go_wp2_with fail
          go_roundw
          case rel => exact ⟨k + 1, by omega, by go_num, by rw [HSN.out, hv.out.1], by rw [HSN.out, hv.out.2.2.1, ← HKK.out]; rfl, Lib.hid (Go.below_drewN B4.out _)⟩
          case measure => simp [intOf]; omega
    · obtain rfl : k = m := by omega
      have k1 : ¬ (k : Int) < k := by omega
      have GV := Lib.hid (HON.out _ _ HG.out (thn13 B2.out PB.out))
      have HKE := Lib.hid (show (stU f0 O k).nts.length = na by rw [← HSS.out, HNA.out])
      rw [HKE.out]
      have hw2 : IntKind.i64.wrap (na : Int) = na := by rw [IntKind.wrap_i64]; omega
      have t1 : ((na : Int) == (na : Int)) = true := by simp
      go_wp2_with (go_at_call 12; ((with_reducible refine (HW.out _ GV.out).mono ?_); rintro e W9 ⟨rfl, b9⟩); have B9 := Lib.hid (thn13 (thn13 B2.out PB.out) b9); clear b9)
      go_ret
      exact ⟨by first | rfl | simp, B9.out⟩
end Go.Proofs.YtifjnioichfodaaDoor.unitEither
