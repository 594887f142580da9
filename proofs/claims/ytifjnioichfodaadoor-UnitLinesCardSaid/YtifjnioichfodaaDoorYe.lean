/- What the document's own Parse returns of a file whose lines are told. Condition: bytes that lie in memory. -/
import Derived.Test.YtifjnioichfodaaDoorYd
import Derived.Deep.RegionLaw
import Derived.BigRegion
namespace Go.Proofs.YtifjnioichfodaaDoor
open Go.RowKit
set_option linter.unusedVariables false
set_option linter.unusedSimpArgs false
attribute [local go_sem ↓] Go.wp_at_zero Go.wp_at_succ

theorem ne_bs {l : List UInt8} (h : l ≠ []) : (bs l).toList.isEmpty = false := by
  rw [bs_toList]; cases l with | nil => exact absurd rfl h | cons _ _ => rfl
theorem apart_ne {v5 v : Value} (h : Apart13 v5 v) : v5.ownBlock = none ∨ v5.ownBlock ≠ v.ownBlock := by
  cases e : v5.ownBlock with
  | none => exact Or.inl rfl
  | some b => exact Or.inr fun h2 => h b e h2.symm
theorem outA_next {base : Nat} {w : World} {g c : Nat} {O : List Asn} {a : Asn} (h : w.ownsRow base 39 5 (.slice (some ⟨g, 0, none⟩) (O.length + 1) c) (O.length + 1) (rowC encA O ++ encA a)) : OutA base w (.slice (some ⟨g, 0, none⟩) (O.length + 1) c) (O ++ [a]) := by
  unfold OutA
  rw [List.length_append, List.length_singleton, rowC_app, rowC_one1]
  exact h
theorem outN_next {base : Nat} {w : World} {g c : Nat} {O : List Nte} {a : Nte} (h : w.ownsRow base 47 4 (.slice (some ⟨g, 0, none⟩) (O.length + 1) c) (O.length + 1) (rowC encN O ++ encN a)) : OutN base w (.slice (some ⟨g, 0, none⟩) (O.length + 1) c) (O ++ [a]) := by
  unfold OutN
  rw [List.length_append, List.length_singleton, rowC_app, rowC_one1]
  exact h
theorem out_form {w : World} {B n s : Nat} {t : TypeId} {v : Value} {xs : List Value} (h : w.ownsRow B t s v n xs) : ∃ q c, v = .slice q n c := by
  rcases h.2 with ⟨rfl, e⟩ | ⟨g, cap, cur, rfl, _⟩
  · exact ⟨none, 0, by rw [e]⟩
  · exact ⟨_, _, rfl⟩
set_option maxRecDepth 100000 in
set_option maxHeartbeats 64000000 in
theorem parse_go (fn : ByteArray) (dir : Int) (a0 : Option Addr) (n cap : Nat) (l : List UInt8) (w : World) (hl : l.length = n) (hn : n ≤ 1000000) (hc : n ≤ cap) (hm : cap ≤ maxLen) (hr : RdB w w.heap.size a0 l) (hE : splE l = 0) : Calls Tryd.prog 9 #[.agg #[.string fn, .int .i64 dir, .slice a0 n cap]] w fun e w' =>
    ∃ va vn, e = .returned (.tuple #[va, vn]) ∧ RowsAt 5 encA w' va (usA (filS fn l)) ∧ RowsAt 4 encN w' vn (filS fn l).nts ∧ Below w.heap.size w w' := by
  have HS := Lib.hid (fun (W : World) (h : RdB W W.heap.size a0 l) => refSplit a0 n cap l W hl hn hc hm h)
  rw [hE] at HS
  have HR := Lib.hid hr
  have HTX := Lib.hid (fun (p : Nat × List UInt8) (h : p ∈ splL l) => spl_text h)
  have hO := splL_len l
  unfold filS
  obtain ⟨O, hO2⟩ : ∃ O, O = splL l := ⟨_, rfl⟩
  rw [← hO2] at HS HTX hO ⊢
  have HSC := Lib.hid (fun k => stU_sec fn O 65537000 HTX.out k)
  have HLN := Lib.hid (fun k hk => stU_len fn O k hk)
  obtain ⟨m, hm2⟩ : ∃ m, m = O.length := ⟨_, rfl⟩
  have HN := Lib.hid hm2
  rw [← hm2] at hO HLN ⊢
  obtain ⟨i0, hi0, hz0, hz1, hz2⟩ := info_parts asn_info
  have HI := Lib.hid hi0
  have HZ0 := Lib.hid hz0
  have HZ1 := Lib.hid hz1
  have HZ2 := Lib.hid hz2
  obtain ⟨j0, hj0, hy0, hy1, hy2⟩ := info_parts nte_info
  have JI := Lib.hid hj0
  have JZ0 := Lib.hid hy0
  have JZ1 := Lib.hid hy1
  have JZ2 := Lib.hid hy2
  have HSEC := Lib.hid (fun (t : List UInt8) (ht : t.length ≤ 65537000) (W : World) => refSection (bs t) (by rw [bs_size]; unfold maxLen; omega) W)
  have HASG := Lib.hid (fun (t : List UInt8) (ht : t.length ≤ 65537000) (W : World) => refAssignment (bs t) (by rw [bs_size]; unfold maxLen; omega) W)
  clear hl hn hc hm hr hE hO2 hm2 hi0 hz0 hz1 hz2 hj0 hy0 hy1 hy2
  go_enter Tryd.func9, Tryd.ntmps9
  go_wp2_with (go_at_call 23; ((with_reducible refine (HS.out _ (HR.out.on ((Below.refl _ _).alloc (Nat.le_refl _) _))).mono ?_); rintro e W ⟨v, rfl, s1, b1⟩); have hbx := (b1.block w.heap.size (by rw [World.size_alloc]; exact Nat.lt_succ_self _)).trans (heap_alloc_new w _); have HBX := Lib.hid hbx; have B1 := Lib.hid (thn13 ((Below.refl w.heap.size w).alloc (Nat.le_refl _) _) b1); have HWL := Lib.hid (show w.heap.size < W.heap.size from Nat.lt_of_lt_of_le (by rw [World.size_alloc]; exact Nat.lt_succ_self _) b1.size); obtain ⟨q, c, rfl, hc1⟩ := s1; have HC := Lib.hid hc1; rw [← HN.out]; clear hc1 b1 hbx)
  clear HS HR
  go_loopw [6, 7, 8, 9] (fun v6 v7 v8 v9 wr => ∃ k : Nat, k ≤ m ∧ v9 = .int .i64 k ∧ v8 = .string (bs (stU fn O k).sec) ∧ Hid (OutA W.heap.size wr v6 (stU fn O k).asl) ∧ Hid (OutN W.heap.size wr v7 (stU fn O k).nts) ∧ Hid (Apart13 v6 v7 ∧ Apart13 v7 v6) ∧ Hid (Below W.heap.size W wr)) (fun _ _ _ v9 _ => m - (intOf v9).toNat)
  case atStart => exact ⟨0, Nat.zero_le _, rfl, rfl, Lib.hid (World.ownsRow_nil _ _ _ _), Lib.hid (World.ownsRow_nil _ _ _ _), Lib.hid ⟨fun g h => (by cases h), fun g h => (by cases h)⟩, Lib.hid (Below.refl _ _)⟩
  case round =>
    obtain ⟨k, hk, rfl, rfl, PA, PN, PX, PB⟩ := hrel
    obtain ⟨V, rfl⟩ : ∃ wo : World, wo = wr := ⟨_, rfl⟩
    by_cases hlt : k < m
    · have hx : O[k]? = some (O[k]'(by rw [← HN.out]; exact hlt)) := List.getElem?_eq_getElem _
      obtain ⟨p, hp⟩ : ∃ p, p = O[k]'(by rw [← HN.out]; exact hlt) := ⟨_, rfl⟩
      rw [← hp] at hx
      have htx := HTX.out p (List.mem_of_getElem? hx)
      have HST := Lib.hid (stU_step (fn := fn) hx)
      have hlen := HLN.out k hk
      have hsc := HSC.out k
      obtain ⟨g, o, rfl, d1, d2⟩ := HC.out k p hx
      have c1 := (PB.out.cell (World.block_lt_of_cell? W _ d1)).trans d1
      have c2 := (PB.out.cell (World.block_lt_of_cell? W _ d2)).trans d2
      have cb := (cell_of_row V w.heap.size 0 _ _ (0, 0) ((PB.out.block _ HWL.out).trans HBX.out)).trans (show _ = some (Value.string fn) from rfl)
      have k1 : (k : Int) < m := by omega
      have k0 : (0 : Int) ≤ k := by omega
      have hw1 : IntKind.i64.wrap ((k : Int) + 1) = k + 1 := by rw [IntKind.wrap_i64]; omega
      have hse := HSEC.out p.2 htx
      have has := HASG.out p.2 htx
      rw [bs_list] at hse has
      obtain ⟨st, hst⟩ : ∃ st, st = stU fn O k := ⟨_, rfl⟩
      rw [← hst] at PA PN HST hlen hsc ⊢
      obtain ⟨nr, hnr⟩ : ∃ x, x = ((p.1 : Nat) : Int) := ⟨_, rfl⟩
      rw [← hnr] at c1
      have HNR := Lib.hid hnr
      have HSE := Lib.hid hse
      have HAS := Lib.hid has
      have HLE := Lib.hid hlen
      have HSL := Lib.hid hsc
      have HTL := Lib.hid htx
      clear hx hp htx hlen hsc d1 d2 hse has hst hnr
      cases hs : secL p.2 with
      | some sn =>
        have hv := Lib.hid (HST.out.trans (stepU_sec hs))
        have e1 : secV p.2 = sn := by unfold secV; rw [hs]; rfl
        rw [hs, e1] at HSE
        clear HAS hs e1 HST
        go_wp2_with (go_at_call 14; ((with_reducible refine (HSE.out _).mono ?_); rintro e w1 ⟨rfl, rfl⟩))
        go_roundw
        case rel => exact ⟨k + 1, by omega, by go_num, by rw [hv.out], Lib.hid (by rw [hv.out]; exact PA.out), Lib.hid (by rw [hv.out]; exact PN.out), PX, PB⟩
        case measure => simp [intOf]; omega
      | none =>
        have e1 : secV p.2 = [] := by unfold secV; rw [hs]; rfl
        rw [hs, e1] at HSE
        have HS0 := Lib.hid hs
        clear e1 hs
        cases ha : (asgL p.2).isSome with
        | true =>
          rw [ha] at HAS
          by_cases hsec : st.sec = []
          · have hv := Lib.hid (HST.out.trans (stepU_nte HS0.out (Or.inr hsec)))
            have HSE0 := Lib.hid hsec
            have tq : (bs st.sec).toList.isEmpty = true := by rw [hsec, bs_toList]; rfl
            clear ha hsec HST
            by_cases h60 : 60 < p.2.length
            · have HTK := Lib.hid (show bs (p.2.take 60) = (bs p.2).extract 0 60 by rw [ext_bs, bs_list]; rfl)
              have q1 : (60 : Int) < ((bs p.2).size : Int) := by rw [bs_size]; omega
              have q2 : ((bs p.2).size : Int) > 60 := q1
              have q3 : (60 : Int) ≤ ((bs p.2).size : Int) := by omega
              clear h60
              go_wp2_with (first
                | (go_at_call 14; ((with_reducible refine (HSE.out _).mono ?_); rintro e w1 ⟨rfl, rfl⟩))
                | (go_at_call 16; ((with_reducible refine (HAS.out _).mono ?_); rintro e W2 ⟨rfl, b2⟩); have B2 := Lib.hid (PB.out.trans (b2.mono PB.out.size)); have A2 := Lib.hid (own_on13 PA.out b2); have N2 := Lib.hid (own_on13 PN.out b2); have y1 := (b2.cell (World.block_lt_of_cell? V _ c1)).trans c1; have y2 := (b2.cell (World.block_lt_of_cell? V _ c2)).trans c2; have yb := (b2.cell (World.block_lt_of_cell? V _ cb)).trans cb; clear b2))
              go_region_law ((refine step_append_lies _ (by rfl) (.tmp 85) (.tmp 95) 27 (by rfl) W.heap.size 47 j0 _ 4 48 Tryd.underlying27 JI.out JZ0.out JZ1.out JZ2.out rfl (by omega) u7 st.nts.length (rowC encN st.nts) (by rfl) (N2.out.alloc _).drew ⟨W2.heap.size, 0, none⟩ 1 1 (encN ⟨fn, nr, 130, (bs p.2).extract 0 60⟩) (by rfl) rfl (news_row W2 _ _) (encN_one _) (by omega) (by have := HLE.out; unfold maxLen; omega) (by have := HLE.out; omega) (by show W.heap.size ≤ (W2.alloc _).heap.size; rw [World.size_alloc]; exact Nat.le_succ_of_le B2.out.size) (W2.heap.size + 1) (by show (W2.alloc _).heap.size = _; rw [World.size_alloc]) ?_); intro g6 c6 W6 o6 h6 e6 l6; have O6 := Lib.hid (outN_next o6); have A6 := Lib.hid ((A2.out.alloc _).drew.kept h6 (apart_ne PX.out.1)); have X6 := Lib.hid (And.intro (apart_new2 (w := W6) (n := st.nts.length + 1) (c := c6) PX.out.1 e6 (fun b hb => Nat.lt_succ_of_lt (A2.out.lt b hb).2)) (apart_new (w := W6) (n := st.nts.length + 1) (c := c6) PX.out.2 e6 (fun b hb => Nat.lt_succ_of_lt (A2.out.lt b hb).2))); have B6 := Lib.hid ((B2.out.alloc B2.out.size _).drew.grown h6 (by show W.heap.size ≤ (W2.alloc _).heap.size; rw [World.size_alloc]; exact Nat.le_succ_of_le B2.out.size) (fun g hg => (N2.out.lt g hg).1)); clear o6 h6 e6 l6)
              all_goals
                go_wp2_with fail
                go_roundw
                case rel => exact ⟨k + 1, by omega, by go_num, by rw [hv.out], Lib.hid (by rw [hv.out]; exact A6.out), Lib.hid (by rw [hv.out, ← HNR.out, HTK.out]; exact O6.out), X6, B6⟩
                case measure => simp [intOf]; omega
            · have HTK := Lib.hid (show bs (p.2.take 60) = bs p.2 by rw [List.take_of_length_le (by omega)])
              have q1 : ¬ (60 : Int) < ((bs p.2).size : Int) := by rw [bs_size]; omega
              have q2 : ¬ ((bs p.2).size : Int) > 60 := q1
              clear h60
              go_wp2_with (first
                | (go_at_call 14; ((with_reducible refine (HSE.out _).mono ?_); rintro e w1 ⟨rfl, rfl⟩))
                | (go_at_call 16; ((with_reducible refine (HAS.out _).mono ?_); rintro e W2 ⟨rfl, b2⟩); have B2 := Lib.hid (PB.out.trans (b2.mono PB.out.size)); have A2 := Lib.hid (own_on13 PA.out b2); have N2 := Lib.hid (own_on13 PN.out b2); have y1 := (b2.cell (World.block_lt_of_cell? V _ c1)).trans c1; have y2 := (b2.cell (World.block_lt_of_cell? V _ c2)).trans c2; have yb := (b2.cell (World.block_lt_of_cell? V _ cb)).trans cb; clear b2))
              go_region_law ((refine step_append_lies _ (by rfl) (.tmp 85) (.tmp 95) 27 (by rfl) W.heap.size 47 j0 _ 4 48 Tryd.underlying27 JI.out JZ0.out JZ1.out JZ2.out rfl (by omega) u7 st.nts.length (rowC encN st.nts) (by rfl) (N2.out.alloc _).drew ⟨W2.heap.size, 0, none⟩ 1 1 (encN ⟨fn, nr, 130, bs p.2⟩) (by rfl) rfl (news_row W2 _ _) (encN_one _) (by omega) (by have := HLE.out; unfold maxLen; omega) (by have := HLE.out; omega) (by show W.heap.size ≤ (W2.alloc _).heap.size; rw [World.size_alloc]; exact Nat.le_succ_of_le B2.out.size) (W2.heap.size + 1) (by show (W2.alloc _).heap.size = _; rw [World.size_alloc]) ?_); intro g6 c6 W6 o6 h6 e6 l6; have O6 := Lib.hid (outN_next o6); have A6 := Lib.hid ((A2.out.alloc _).drew.kept h6 (apart_ne PX.out.1)); have X6 := Lib.hid (And.intro (apart_new2 (w := W6) (n := st.nts.length + 1) (c := c6) PX.out.1 e6 (fun b hb => Nat.lt_succ_of_lt (A2.out.lt b hb).2)) (apart_new (w := W6) (n := st.nts.length + 1) (c := c6) PX.out.2 e6 (fun b hb => Nat.lt_succ_of_lt (A2.out.lt b hb).2))); have B6 := Lib.hid ((B2.out.alloc B2.out.size _).drew.grown h6 (by show W.heap.size ≤ (W2.alloc _).heap.size; rw [World.size_alloc]; exact Nat.le_succ_of_le B2.out.size) (fun g hg => (N2.out.lt g hg).1)); clear o6 h6 e6 l6)
              all_goals
                go_wp2_with fail
                go_roundw
                case rel => exact ⟨k + 1, by omega, by go_num, by rw [hv.out], Lib.hid (by rw [hv.out]; exact A6.out), Lib.hid (by rw [hv.out, ← HNR.out, HTK.out]; exact O6.out), X6, B6⟩
                case measure => simp [intOf]; omega
          · have hv := Lib.hid (HST.out.trans (stepU_asg HS0.out ha hsec))
            have tq := ne_bs hsec
            clear ha hsec HST
            go_wp2_with (first
              | (go_at_call 14; ((with_reducible refine (HSE.out _).mono ?_); rintro e w1 ⟨rfl, rfl⟩))
              | (go_at_call 16; ((with_reducible refine (HAS.out _).mono ?_); rintro e W2 ⟨rfl, b2⟩); have B2 := Lib.hid (PB.out.trans (b2.mono PB.out.size)); have A2 := Lib.hid (own_on13 PA.out b2); have N2 := Lib.hid (own_on13 PN.out b2); have y1 := (b2.cell (World.block_lt_of_cell? V _ c1)).trans c1; have y2 := (b2.cell (World.block_lt_of_cell? V _ c2)).trans c2; have yb := (b2.cell (World.block_lt_of_cell? V _ cb)).trans cb; clear b2))
            go_region_law ((refine step_append_lies _ (by rfl) (.tmp 61) (.tmp 73) 26 (by rfl) W.heap.size 39 i0 _ 5 72 Tryd.underlying26 HI.out HZ0.out HZ1.out HZ2.out rfl (by omega) u6 st.asl.length (rowC encA st.asl) (by rfl) (A2.out.alloc _).drew ⟨W2.heap.size, 0, none⟩ 1 1 (encA ⟨fn, nr, bs st.sec, bs (asgK p.2), bs (asgW p.2)⟩) (by rfl) rfl (news_row W2 _ _) (encA_one _) (by omega) (by have := HLE.out; unfold maxLen; omega) (by have := HLE.out; omega) (by show W.heap.size ≤ (W2.alloc _).heap.size; rw [World.size_alloc]; exact Nat.le_succ_of_le B2.out.size) (W2.heap.size + 1) (by show (W2.alloc _).heap.size = _; rw [World.size_alloc]) ?_); intro g6 c6 W6 o6 h6 e6 l6; have O6 := Lib.hid (outA_next o6); have N6 := Lib.hid ((N2.out.alloc _).drew.kept h6 (apart_ne PX.out.2)); have X6 := Lib.hid (And.intro (apart_new (w := W6) (n := st.asl.length + 1) (c := c6) PX.out.1 e6 (fun b hb => Nat.lt_succ_of_lt (N2.out.lt b hb).2)) (apart_new2 (w := W6) (n := st.asl.length + 1) (c := c6) PX.out.2 e6 (fun b hb => Nat.lt_succ_of_lt (N2.out.lt b hb).2))); have B6 := Lib.hid ((B2.out.alloc B2.out.size _).drew.grown h6 (by show W.heap.size ≤ (W2.alloc _).heap.size; rw [World.size_alloc]; exact Nat.le_succ_of_le B2.out.size) (fun g hg => (A2.out.lt g hg).1)); clear o6 h6 e6 l6)
            all_goals
              go_wp2_with fail
              go_roundw
              case rel => exact ⟨k + 1, by omega, by go_num, by rw [hv.out], Lib.hid (by rw [hv.out, ← HNR.out]; exact O6.out), Lib.hid (by rw [hv.out]; exact N6.out), X6, B6⟩
              case measure => simp [intOf]; omega
        | false =>
          rw [ha] at HAS
          have hv := Lib.hid (HST.out.trans (stepU_nte HS0.out (Or.inl ha)))
          clear ha HST
          by_cases h60 : 60 < p.2.length
          · have HTK := Lib.hid (show bs (p.2.take 60) = (bs p.2).extract 0 60 by rw [ext_bs, bs_list]; rfl)
            have q1 : (60 : Int) < ((bs p.2).size : Int) := by rw [bs_size]; omega
            have q2 : ((bs p.2).size : Int) > 60 := q1
            have q3 : (60 : Int) ≤ ((bs p.2).size : Int) := by omega
            clear h60
            go_wp2_with (first
              | (go_at_call 14; ((with_reducible refine (HSE.out _).mono ?_); rintro e w1 ⟨rfl, rfl⟩))
              | (go_at_call 16; ((with_reducible refine (HAS.out _).mono ?_); rintro e W2 ⟨rfl, b2⟩); have B2 := Lib.hid (PB.out.trans (b2.mono PB.out.size)); have A2 := Lib.hid (own_on13 PA.out b2); have N2 := Lib.hid (own_on13 PN.out b2); have y1 := (b2.cell (World.block_lt_of_cell? V _ c1)).trans c1; have y2 := (b2.cell (World.block_lt_of_cell? V _ c2)).trans c2; have yb := (b2.cell (World.block_lt_of_cell? V _ cb)).trans cb; clear b2))
            go_region_law ((refine step_append_lies _ (by rfl) (.tmp 85) (.tmp 95) 27 (by rfl) W.heap.size 47 j0 _ 4 48 Tryd.underlying27 JI.out JZ0.out JZ1.out JZ2.out rfl (by omega) u7 st.nts.length (rowC encN st.nts) (by rfl) (N2.out.alloc _).drew ⟨W2.heap.size, 0, none⟩ 1 1 (encN ⟨fn, nr, 130, (bs p.2).extract 0 60⟩) (by rfl) rfl (news_row W2 _ _) (encN_one _) (by omega) (by have := HLE.out; unfold maxLen; omega) (by have := HLE.out; omega) (by show W.heap.size ≤ (W2.alloc _).heap.size; rw [World.size_alloc]; exact Nat.le_succ_of_le B2.out.size) (W2.heap.size + 1) (by show (W2.alloc _).heap.size = _; rw [World.size_alloc]) ?_); intro g6 c6 W6 o6 h6 e6 l6; have O6 := Lib.hid (outN_next o6); have A6 := Lib.hid ((A2.out.alloc _).drew.kept h6 (apart_ne PX.out.1)); have X6 := Lib.hid (And.intro (apart_new2 (w := W6) (n := st.nts.length + 1) (c := c6) PX.out.1 e6 (fun b hb => Nat.lt_succ_of_lt (A2.out.lt b hb).2)) (apart_new (w := W6) (n := st.nts.length + 1) (c := c6) PX.out.2 e6 (fun b hb => Nat.lt_succ_of_lt (A2.out.lt b hb).2))); have B6 := Lib.hid ((B2.out.alloc B2.out.size _).drew.grown h6 (by show W.heap.size ≤ (W2.alloc _).heap.size; rw [World.size_alloc]; exact Nat.le_succ_of_le B2.out.size) (fun g hg => (N2.out.lt g hg).1)); clear o6 h6 e6 l6)
            all_goals
              go_wp2_with fail
              go_roundw
              case rel => exact ⟨k + 1, by omega, by go_num, by rw [hv.out], Lib.hid (by rw [hv.out]; exact A6.out), Lib.hid (by rw [hv.out, ← HNR.out, HTK.out]; exact O6.out), X6, B6⟩
              case measure => simp [intOf]; omega
          · have HTK := Lib.hid (show bs (p.2.take 60) = bs p.2 by rw [List.take_of_length_le (by omega)])
            have q1 : ¬ (60 : Int) < ((bs p.2).size : Int) := by rw [bs_size]; omega
            have q2 : ¬ ((bs p.2).size : Int) > 60 := q1
            clear h60
            go_wp2_with (first
              | (go_at_call 14; ((with_reducible refine (HSE.out _).mono ?_); rintro e w1 ⟨rfl, rfl⟩))
              | (go_at_call 16; ((with_reducible refine (HAS.out _).mono ?_); rintro e W2 ⟨rfl, b2⟩); have B2 := Lib.hid (PB.out.trans (b2.mono PB.out.size)); have A2 := Lib.hid (own_on13 PA.out b2); have N2 := Lib.hid (own_on13 PN.out b2); have y1 := (b2.cell (World.block_lt_of_cell? V _ c1)).trans c1; have y2 := (b2.cell (World.block_lt_of_cell? V _ c2)).trans c2; have yb := (b2.cell (World.block_lt_of_cell? V _ cb)).trans cb; clear b2))
            go_region_law ((refine step_append_lies _ (by rfl) (.tmp 85) (.tmp 95) 27 (by rfl) W.heap.size 47 j0 _ 4 48 Tryd.underlying27 JI.out JZ0.out JZ1.out JZ2.out rfl (by omega) u7 st.nts.length (rowC encN st.nts) (by rfl) (N2.out.alloc _).drew ⟨W2.heap.size, 0, none⟩ 1 1 (encN ⟨fn, nr, 130, bs p.2⟩) (by rfl) rfl (news_row W2 _ _) (encN_one _) (by omega) (by have := HLE.out; unfold maxLen; omega) (by have := HLE.out; omega) (by show W.heap.size ≤ (W2.alloc _).heap.size; rw [World.size_alloc]; exact Nat.le_succ_of_le B2.out.size) (W2.heap.size + 1) (by show (W2.alloc _).heap.size = _; rw [World.size_alloc]) ?_); intro g6 c6 W6 o6 h6 e6 l6; have O6 := Lib.hid (outN_next o6); have A6 := Lib.hid ((A2.out.alloc _).drew.kept h6 (apart_ne PX.out.1)); have X6 := Lib.hid (And.intro (apart_new2 (w := W6) (n := st.nts.length + 1) (c := c6) PX.out.1 e6 (fun b hb => Nat.lt_succ_of_lt (A2.out.lt b hb).2)) (apart_new (w := W6) (n := st.nts.length + 1) (c := c6) PX.out.2 e6 (fun b hb => Nat.lt_succ_of_lt (A2.out.lt b hb).2))); have B6 := Lib.hid ((B2.out.alloc B2.out.size _).drew.grown h6 (by show W.heap.size ≤ (W2.alloc _).heap.size; rw [World.size_alloc]; exact Nat.le_succ_of_le B2.out.size) (fun g hg => (N2.out.lt g hg).1)); clear o6 h6 e6 l6)
            all_goals
              go_wp2_with fail
              go_roundw
              case rel => exact ⟨k + 1, by omega, by go_num, by rw [hv.out], Lib.hid (by rw [hv.out]; exact A6.out), Lib.hid (by rw [hv.out, ← HNR.out, HTK.out]; exact O6.out), X6, B6⟩
              case measure => simp [intOf]; omega
    · obtain rfl : k = m := by omega
      have k1 : ¬ (k : Int) < k := by omega
      obtain ⟨qa, ca, rfl⟩ := out_form PA.out
      obtain ⟨qn, cn, rfl⟩ := out_form PN.out
      obtain ⟨st, hst⟩ : ∃ st, st = stU fn O k := ⟨_, rfl⟩
      rw [← hst] at PA PN
      have HA := Lib.hid (rows_own encA_len PA.out)
      have HNT := Lib.hid (rows_own encN_len PN.out)
      have HST := Lib.hid hst.symm
      obtain ⟨x, hx⟩ : ∃ x, x = st.nts.length := ⟨_, rfl⟩
      have HX := Lib.hid hx
      rw [← hst, ← hx]
      rw [← hx] at HNT
      clear hst hx
      by_cases h0 : x = 0
      · subst h0
        have e0 := Lib.hid (show st.nts = [] from List.eq_nil_of_length_eq_zero HX.out.symm)
        go_wp2_with fail
        go_ret2
        exact ⟨_, _, rfl, by rw [HST.out, usA_yes e0.out]; exact HA.out, by rw [HST.out, e0.out]; exact RowsAt.nil _, thn13 B1.out PB.out⟩
      · have x1 : (0 : Int) < (x : Int) := by omega
        have x2 : (x : Int) > 0 := x1
        have e0 := Lib.hid (show ¬ st.nts = [] from fun e => h0 (by rw [HX.out, e]; rfl))
        clear h0
        go_wp2_with fail
        go_ret2
        exact ⟨_, _, rfl, by rw [HST.out, usA_no e0.out]; exact RowsAt.nil _, by rw [HST.out]; exact HNT.out, thn13 B1.out PB.out⟩
end Go.Proofs.YtifjnioichfodaaDoor
