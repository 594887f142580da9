/- What the document's own Parse returns of a file whose lines are told. Condition: bytes that lie in memory. What the document's own Parse returns; whether assignments, and notes, are the same. Condition: bytes that lie in memory. What the calls of the package unit have to return, as the chapter says it; the statements' own small calls; the chapter's rows. -/
import Derived.Test.YtgigdhincpcdbaaGreatDoorYc
import Derived.Deep.RegionLaw
import Derived.BigRegion
import Derived.Deep.QuietTactic
import Derived.BigQuiet
import Derived.WalkSmall
import Derived.Laws.OwnMore
namespace Go.Proofs.YtgigdhincpcdbaaGreatDoor
open Go.RowKit
set_option linter.unusedVariables false
set_option linter.unusedSimpArgs false
attribute [local go_sem ↓] Go.wp_at_zero Go.wp_at_succ

theorem ne_bs {l : List UInt8} (h : l ≠ []) : (bs l).toList.isEmpty = false := by
  rw [bs_toList]; cases l with | nil => exact absurd rfl h | cons _ _ => rfl
theorem apart_ne {v5 v : Value} (h : Apart13 v5 v) : v5.ownBlock = none ∨ v5.ownBlock ≠ v.ownBlock := by
  cases e : v5.ownBlock with
  | none => exact Or.inl rfl
  | some b => exact Or.inr fun h2 => h b e h2.symm
theorem outA_next {base : Nat} {w : World} {g c : Nat} {O : List Asn} {a : Asn} (h : w.ownsRow base 60 5 (.slice (some ⟨g, 0, none⟩) (O.length + 1) c) (O.length + 1) (rowC encA O ++ encA a)) : OutA base w (.slice (some ⟨g, 0, none⟩) (O.length + 1) c) (O ++ [a]) := by
  unfold OutA
  rw [List.length_append, List.length_singleton, rowC_app, rowC_one1]
  exact h
theorem outN_next {base : Nat} {w : World} {g c : Nat} {O : List Nte} {a : Nte} (h : w.ownsRow base 47 4 (.slice (some ⟨g, 0, none⟩) (O.length + 1) c) (O.length + 1) (rowC encN O ++ encN a)) : OutN base w (.slice (some ⟨g, 0, none⟩) (O.length + 1) c) (O ++ [a]) := by
  unfold OutN
  rw [List.length_append, List.length_singleton, rowC_app, rowC_one1]
  exact h
theorem out_form {w : World} {B n s : Nat} {t : TypeId} {v : Value} {xs : List Value} (h : w.ownsRow B t s v n xs) : ∃ q c, v = .slice q n c := by
  rcases h.2 with ⟨rfl, e⟩ | ⟨g, cap, cur, rfl, _⟩
  · exact ⟨none, 0, by rw [e]⟩
  · exact ⟨_, _, rfl⟩
set_option maxRecDepth 100000 in
set_option maxHeartbeats 64000000 in
theorem parse_go_n (fn : ByteArray) (dir : Int) (a0 : Option Addr) (n cap : Nat) (l : List UInt8) (w : World) (hl : l.length = n) (hn : n ≤ 1000000) (hc : n ≤ cap) (hm : cap ≤ maxLen) (hr : RdB w w.heap.size a0 l) (hE : splE l = 0) : Calls Tryz.prog 31 #[.agg #[.string fn, .int .i64 dir, .slice a0 n cap]] w fun e w' =>
    ∃ va vn, e = .returned (.tuple #[va, vn]) ∧ RowsAt 5 encA w' va (usA (filS fn l)) ∧ RowsAt 4 encN w' vn (filS fn l).nts ∧ Below w.heap.size w w' ∧ NewV w.heap.size va ∧ NewV w.heap.size vn := by
  have HS := Lib.hid (fun (W : World) (h : RdB W W.heap.size a0 l) => refSplit a0 n cap l W hl hn hc hm h)
  rw [hE] at HS
  have HR := Lib.hid hr
  have HTX := Lib.hid (fun (p : Nat × List UInt8) (h : p ∈ splL l) => spl_text h)
  have hO := splL_len l
  unfold filS
  obtain ⟨O, hO2⟩ : ∃ O, O = splL l := ⟨_, rfl⟩
  rw [← hO2] at HS HTX hO ⊢
  have HSC := Lib.hid (fun k => stU_sec fn O 65537000 HTX.out k)
  have HLN := Lib.hid (fun k hk => stU_len fn O k hk)
  obtain ⟨m, hm2⟩ : ∃ m, m = O.length := ⟨_, rfl⟩
  have HN := Lib.hid hm2
  rw [← hm2] at hO HLN ⊢
  obtain ⟨i0, hi0, hz0, hz1, hz2⟩ := info_parts asn_info
  have HI := Lib.hid hi0
  have HZ0 := Lib.hid hz0
  have HZ1 := Lib.hid hz1
  have HZ2 := Lib.hid hz2
  obtain ⟨j0, hj0, hy0, hy1, hy2⟩ := info_parts nte_info
  have JI := Lib.hid hj0
  have JZ0 := Lib.hid hy0
  have JZ1 := Lib.hid hy1
  have JZ2 := Lib.hid hy2
  have HSEC := Lib.hid (fun (t : List UInt8) (ht : t.length ≤ 65537000) (W : World) => refSection (bs t) (by rw [bs_size]; unfold maxLen; omega) W)
  have HASG := Lib.hid (fun (t : List UInt8) (ht : t.length ≤ 65537000) (W : World) => refAssignment (bs t) (by rw [bs_size]; unfold maxLen; omega) W)
  clear hl hn hc hm hr hE hO2 hm2 hi0 hz0 hz1 hz2 hj0 hy0 hy1 hy2
  go_enter Tryz.func31, Tryz.ntmps31
  go_wp2_with (go_at_call 43; ((with_reducible refine (HS.out _ (HR.out.on ((Below.refl _ _).alloc (Nat.le_refl _) _))).mono ?_); rintro e W ⟨v, rfl, s1, b1⟩); have hbx := (b1.block w.heap.size (by rw [World.size_alloc]; exact Nat.lt_succ_self _)).trans (heap_alloc_new w _); have HBX := Lib.hid hbx; have B1 := Lib.hid (thn13 ((Below.refl w.heap.size w).alloc (Nat.le_refl _) _) b1); have HWL := Lib.hid (show w.heap.size < W.heap.size from Nat.lt_of_lt_of_le (by rw [World.size_alloc]; exact Nat.lt_succ_self _) b1.size); obtain ⟨q, c, rfl, hc1⟩ := s1; have HC := Lib.hid hc1; rw [← HN.out]; clear hc1 b1 hbx)
  clear HS HR
  go_loopw [6, 7, 8, 9] (fun v6 v7 v8 v9 wr => ∃ k : Nat, k ≤ m ∧ v9 = .int .i64 k ∧ v8 = .string (bs (stU fn O k).sec) ∧ Hid (OutA W.heap.size wr v6 (stU fn O k).asl) ∧ Hid (OutN W.heap.size wr v7 (stU fn O k).nts) ∧ Hid (Apart13 v6 v7 ∧ Apart13 v7 v6) ∧ Hid (Below W.heap.size W wr)) (fun _ _ _ v9 _ => m - (intOf v9).toNat)
  case atStart => exact ⟨0, Nat.zero_le _, rfl, rfl, Lib.hid (World.ownsRow_nil _ _ _ _), Lib.hid (World.ownsRow_nil _ _ _ _), Lib.hid ⟨fun g h => (by cases h), fun g h => (by cases h)⟩, Lib.hid (Below.refl _ _)⟩
  case round =>
    obtain ⟨k, hk, rfl, rfl, PA, PN, PX, PB⟩ := hrel
    obtain ⟨V, rfl⟩ : ∃ wo : World, wo = wr := ⟨_, rfl⟩
    by_cases hlt : k < m
    · have hx : O[k]? = some (O[k]'(by rw [← HN.out]; exact hlt)) := List.getElem?_eq_getElem _
      obtain ⟨p, hp⟩ : ∃ p, p = O[k]'(by rw [← HN.out]; exact hlt) := ⟨_, rfl⟩
      rw [← hp] at hx
      have htx := HTX.out p (List.mem_of_getElem? hx)
      have HST := Lib.hid (stU_step (fn := fn) hx)
      have hlen := HLN.out k hk
      have hsc := HSC.out k
      obtain ⟨g, o, rfl, d1, d2⟩ := HC.out k p hx
      have c1 := (PB.out.cell (World.block_lt_of_cell? W _ d1)).trans d1
      have c2 := (PB.out.cell (World.block_lt_of_cell? W _ d2)).trans d2
      have cb := (cell_of_row V w.heap.size 0 _ _ (0, 0) ((PB.out.block _ HWL.out).trans HBX.out)).trans (show _ = some (Value.string fn) from rfl)
      have k1 : (k : Int) < m := by omega
      have k0 : (0 : Int) ≤ k := by omega
      have hw1 : IntKind.i64.wrap ((k : Int) + 1) = k + 1 := by rw [IntKind.wrap_i64]; omega
      have hse := HSEC.out p.2 htx
      have has := HASG.out p.2 htx
      rw [bs_list] at hse has
      obtain ⟨st, hst⟩ : ∃ st, st = stU fn O k := ⟨_, rfl⟩
      rw [← hst] at PA PN HST hlen hsc ⊢
      obtain ⟨nr, hnr⟩ : ∃ x, x = ((p.1 : Nat) : Int) := ⟨_, rfl⟩
      rw [← hnr] at c1
      have HNR := Lib.hid hnr
      have HSE := Lib.hid hse
      have HAS := Lib.hid has
      have HLE := Lib.hid hlen
      have HSL := Lib.hid hsc
      have HTL := Lib.hid htx
      clear hx hp htx hlen hsc d1 d2 hse has hst hnr
      cases hs : secL p.2 with
      | some sn =>
        have hv := Lib.hid (HST.out.trans (stepU_sec hs))
        have e1 : secV p.2 = sn := by unfold secV; rw [hs]; rfl
        rw [hs, e1] at HSE
        clear HAS hs e1 HST
        go_wp2_with (go_at_call 44; ((with_reducible refine (HSE.out _).mono ?_); rintro e w1 ⟨rfl, rfl⟩))
        go_roundw
        case rel => exact ⟨k + 1, by omega, by go_num, by rw [hv.out], Lib.hid (by rw [hv.out]; exact PA.out), Lib.hid (by rw [hv.out]; exact PN.out), PX, PB⟩
        case measure => simp [intOf]; omega
      | none =>
        have e1 : secV p.2 = [] := by unfold secV; rw [hs]; rfl
        rw [hs, e1] at HSE
        have HS0 := Lib.hid hs
        clear e1 hs
        cases ha : (asgL p.2).isSome with
        | true =>
          rw [ha] at HAS
          by_cases hsec : st.sec = []
          · have hv := Lib.hid (HST.out.trans (stepU_nte HS0.out (Or.inr hsec)))
            have HSE0 := Lib.hid hsec
            have tq : (bs st.sec).toList.isEmpty = true := by rw [hsec, bs_toList]; rfl
            clear ha hsec HST
            by_cases h60 : 60 < p.2.length
            · have HTK := Lib.hid (show bs (p.2.take 60) = (bs p.2).extract 0 60 by rw [ext_bs, bs_list]; rfl)
              have q1 : (60 : Int) < ((bs p.2).size : Int) := by rw [bs_size]; omega
              have q2 : ((bs p.2).size : Int) > 60 := q1
              have q3 : (60 : Int) ≤ ((bs p.2).size : Int) := by omega
              clear h60
              go_wp2_with (first
                | (go_at_call 44; ((with_reducible refine (HSE.out _).mono ?_); rintro e w1 ⟨rfl, rfl⟩))
                | (go_at_call 45; ((with_reducible refine (HAS.out _).mono ?_); rintro e W2 ⟨rfl, b2⟩); have B2 := Lib.hid (PB.out.trans (b2.mono PB.out.size)); have A2 := Lib.hid (own_on13 PA.out b2); have N2 := Lib.hid (own_on13 PN.out b2); have y1 := (b2.cell (World.block_lt_of_cell? V _ c1)).trans c1; have y2 := (b2.cell (World.block_lt_of_cell? V _ c2)).trans c2; have yb := (b2.cell (World.block_lt_of_cell? V _ cb)).trans cb; clear b2))
              go_region_law ((refine step_append_lies _ (by rfl) (.tmp 85) (.tmp 95) 38 (by rfl) W.heap.size 47 j0 _ 4 48 Tryz.underlying38 JI.out JZ0.out JZ1.out JZ2.out rfl (by omega) u7 st.nts.length (rowC encN st.nts) (by rfl) (N2.out.alloc _).drew ⟨W2.heap.size, 0, none⟩ 1 1 (encN ⟨fn, nr, 130, (bs p.2).extract 0 60⟩) (by rfl) rfl (news_row W2 _ _) (encN_one _) (by omega) (by have := HLE.out; unfold maxLen; omega) (by have := HLE.out; omega) (by show W.heap.size ≤ (W2.alloc _).heap.size; rw [World.size_alloc]; exact Nat.le_succ_of_le B2.out.size) (W2.heap.size + 1) (by show (W2.alloc _).heap.size = _; rw [World.size_alloc]) ?_); intro g6 c6 W6 o6 h6 e6 l6; have O6 := Lib.hid (outN_next o6); have A6 := Lib.hid ((A2.out.alloc _).drew.kept h6 (apart_ne PX.out.1)); have X6 := Lib.hid (And.intro (apart_new2 (w := W6) (n := st.nts.length + 1) (c := c6) PX.out.1 e6 (fun b hb => Nat.lt_succ_of_lt (A2.out.lt b hb).2)) (apart_new (w := W6) (n := st.nts.length + 1) (c := c6) PX.out.2 e6 (fun b hb => Nat.lt_succ_of_lt (A2.out.lt b hb).2))); have B6 := Lib.hid ((B2.out.alloc B2.out.size _).drew.grown h6 (by show W.heap.size ≤ (W2.alloc _).heap.size; rw [World.size_alloc]; exact Nat.le_succ_of_le B2.out.size) (fun g hg => (N2.out.lt g hg).1)); clear o6 h6 e6 l6)
              all_goals
                go_wp2_with fail
                go_roundw
                case rel => exact ⟨k + 1, by omega, by go_num, by rw [hv.out], Lib.hid (by rw [hv.out]; exact A6.out), Lib.hid (by rw [hv.out, ← HNR.out, HTK.out]; exact O6.out), X6, B6⟩
                case measure => simp [intOf]; omega
            · have HTK := Lib.hid (show bs (p.2.take 60) = bs p.2 by rw [List.take_of_length_le (by omega)])
              have q1 : ¬ (60 : Int) < ((bs p.2).size : Int) := by rw [bs_size]; omega
              have q2 : ¬ ((bs p.2).size : Int) > 60 := q1
              clear h60
              go_wp2_with (first
                | (go_at_call 44; ((with_reducible refine (HSE.out _).mono ?_); rintro e w1 ⟨rfl, rfl⟩))
                | (go_at_call 45; ((with_reducible refine (HAS.out _).mono ?_); rintro e W2 ⟨rfl, b2⟩); have B2 := Lib.hid (PB.out.trans (b2.mono PB.out.size)); have A2 := Lib.hid (own_on13 PA.out b2); have N2 := Lib.hid (own_on13 PN.out b2); have y1 := (b2.cell (World.block_lt_of_cell? V _ c1)).trans c1; have y2 := (b2.cell (World.block_lt_of_cell? V _ c2)).trans c2; have yb := (b2.cell (World.block_lt_of_cell? V _ cb)).trans cb; clear b2))
              go_region_law ((refine step_append_lies _ (by rfl) (.tmp 85) (.tmp 95) 38 (by rfl) W.heap.size 47 j0 _ 4 48 Tryz.underlying38 JI.out JZ0.out JZ1.out JZ2.out rfl (by omega) u7 st.nts.length (rowC encN st.nts) (by rfl) (N2.out.alloc _).drew ⟨W2.heap.size, 0, none⟩ 1 1 (encN ⟨fn, nr, 130, bs p.2⟩) (by rfl) rfl (news_row W2 _ _) (encN_one _) (by omega) (by have := HLE.out; unfold maxLen; omega) (by have := HLE.out; omega) (by show W.heap.size ≤ (W2.alloc _).heap.size; rw [World.size_alloc]; exact Nat.le_succ_of_le B2.out.size) (W2.heap.size + 1) (by show (W2.alloc _).heap.size = _; rw [World.size_alloc]) ?_); intro g6 c6 W6 o6 h6 e6 l6; have O6 := Lib.hid (outN_next o6); have A6 := Lib.hid ((A2.out.alloc _).drew.kept h6 (apart_ne PX.out.1)); have X6 := Lib.hid (And.intro (apart_new2 (w := W6) (n := st.nts.length + 1) (c := c6) PX.out.1 e6 (fun b hb => Nat.lt_succ_of_lt (A2.out.lt b hb).2)) (apart_new (w := W6) (n := st.nts.length + 1) (c := c6) PX.out.2 e6 (fun b hb => Nat.lt_succ_of_lt (A2.out.lt b hb).2))); have B6 := Lib.hid ((B2.out.alloc B2.out.size _).drew.grown h6 (by show W.heap.size ≤ (W2.alloc _).heap.size; rw [World.size_alloc]; exact Nat.le_succ_of_le B2.out.size) (fun g hg => (N2.out.lt g hg).1)); clear o6 h6 e6 l6)
              all_goals
                go_wp2_with fail
                go_roundw
                case rel => exact ⟨k + 1, by omega, by go_num, by rw [hv.out], Lib.hid (by rw [hv.out]; exact A6.out), Lib.hid (by rw [hv.out, ← HNR.out, HTK.out]; exact O6.out), X6, B6⟩
                case measure => simp [intOf]; omega
          · have hv := Lib.hid (HST.out.trans (stepU_asg HS0.out ha hsec))
            have tq := ne_bs hsec
            clear ha hsec HST
            go_wp2_with (first
              | (go_at_call 44; ((with_reducible refine (HSE.out _).mono ?_); rintro e w1 ⟨rfl, rfl⟩))
              | (go_at_call 45; ((with_reducible refine (HAS.out _).mono ?_); rintro e W2 ⟨rfl, b2⟩); have B2 := Lib.hid (PB.out.trans (b2.mono PB.out.size)); have A2 := Lib.hid (own_on13 PA.out b2); have N2 := Lib.hid (own_on13 PN.out b2); have y1 := (b2.cell (World.block_lt_of_cell? V _ c1)).trans c1; have y2 := (b2.cell (World.block_lt_of_cell? V _ c2)).trans c2; have yb := (b2.cell (World.block_lt_of_cell? V _ cb)).trans cb; clear b2))
            go_region_law ((refine step_append_lies _ (by rfl) (.tmp 61) (.tmp 73) 37 (by rfl) W.heap.size 60 i0 _ 5 72 Tryz.underlying37 HI.out HZ0.out HZ1.out HZ2.out rfl (by omega) u6 st.asl.length (rowC encA st.asl) (by rfl) (A2.out.alloc _).drew ⟨W2.heap.size, 0, none⟩ 1 1 (encA ⟨fn, nr, bs st.sec, bs (asgK p.2), bs (asgW p.2)⟩) (by rfl) rfl (news_row W2 _ _) (encA_one _) (by omega) (by have := HLE.out; unfold maxLen; omega) (by have := HLE.out; omega) (by show W.heap.size ≤ (W2.alloc _).heap.size; rw [World.size_alloc]; exact Nat.le_succ_of_le B2.out.size) (W2.heap.size + 1) (by show (W2.alloc _).heap.size = _; rw [World.size_alloc]) ?_); intro g6 c6 W6 o6 h6 e6 l6; have O6 := Lib.hid (outA_next o6); have N6 := Lib.hid ((N2.out.alloc _).drew.kept h6 (apart_ne PX.out.2)); have X6 := Lib.hid (And.intro (apart_new (w := W6) (n := st.asl.length + 1) (c := c6) PX.out.1 e6 (fun b hb => Nat.lt_succ_of_lt (N2.out.lt b hb).2)) (apart_new2 (w := W6) (n := st.asl.length + 1) (c := c6) PX.out.2 e6 (fun b hb => Nat.lt_succ_of_lt (N2.out.lt b hb).2))); have B6 := Lib.hid ((B2.out.alloc B2.out.size _).drew.grown h6 (by show W.heap.size ≤ (W2.alloc _).heap.size; rw [World.size_alloc]; exact Nat.le_succ_of_le B2.out.size) (fun g hg => (A2.out.lt g hg).1)); clear o6 h6 e6 l6)
            all_goals
              go_wp2_with fail
              go_roundw
              case rel => exact ⟨k + 1, by omega, by go_num, by rw [hv.out], Lib.hid (by rw [hv.out, ← HNR.out]; exact O6.out), Lib.hid (by rw [hv.out]; exact N6.out), X6, B6⟩
              case measure => simp [intOf]; omega
        | false =>
          rw [ha] at HAS
          have hv := Lib.hid (HST.out.trans (stepU_nte HS0.out (Or.inl ha)))
          clear ha HST
          by_cases h60 : 60 < p.2.length
          · have HTK := Lib.hid (show bs (p.2.take 60) = (bs p.2).extract 0 60 by rw [ext_bs, bs_list]; rfl)
            have q1 : (60 : Int) < ((bs p.2).size : Int) := by rw [bs_size]; omega
            have q2 : ((bs p.2).size : Int) > 60 := q1
            have q3 : (60 : Int) ≤ ((bs p.2).size : Int) := by omega
            clear h60
            go_wp2_with (first
              | (go_at_call 44; ((with_reducible refine (HSE.out _).mono ?_); rintro e w1 ⟨rfl, rfl⟩))
              | (go_at_call 45; ((with_reducible refine (HAS.out _).mono ?_); rintro e W2 ⟨rfl, b2⟩); have B2 := Lib.hid (PB.out.trans (b2.mono PB.out.size)); have A2 := Lib.hid (own_on13 PA.out b2); have N2 := Lib.hid (own_on13 PN.out b2); have y1 := (b2.cell (World.block_lt_of_cell? V _ c1)).trans c1; have y2 := (b2.cell (World.block_lt_of_cell? V _ c2)).trans c2; have yb := (b2.cell (World.block_lt_of_cell? V _ cb)).trans cb; clear b2))
            go_region_law ((refine step_append_lies _ (by rfl) (.tmp 85) (.tmp 95) 38 (by rfl) W.heap.size 47 j0 _ 4 48 Tryz.underlying38 JI.out JZ0.out JZ1.out JZ2.out rfl (by omega) u7 st.nts.length (rowC encN st.nts) (by rfl) (N2.out.alloc _).drew ⟨W2.heap.size, 0, none⟩ 1 1 (encN ⟨fn, nr, 130, (bs p.2).extract 0 60⟩) (by rfl) rfl (news_row W2 _ _) (encN_one _) (by omega) (by have := HLE.out; unfold maxLen; omega) (by have := HLE.out; omega) (by show W.heap.size ≤ (W2.alloc _).heap.size; rw [World.size_alloc]; exact Nat.le_succ_of_le B2.out.size) (W2.heap.size + 1) (by show (W2.alloc _).heap.size = _; rw [World.size_alloc]) ?_); intro g6 c6 W6 o6 h6 e6 l6; have O6 := Lib.hid (outN_next o6); have A6 := Lib.hid ((A2.out.alloc _).drew.kept h6 (apart_ne PX.out.1)); have X6 := Lib.hid (And.intro (apart_new2 (w := W6) (n := st.nts.length + 1) (c := c6) PX.out.1 e6 (fun b hb => Nat.lt_succ_of_lt (A2.out.lt b hb).2)) (apart_new (w := W6) (n := st.nts.length + 1) (c := c6) PX.out.2 e6 (fun b hb => Nat.lt_succ_of_lt (A2.out.lt b hb).2))); have B6 := Lib.hid ((B2.out.alloc B2.out.size _).drew.grown h6 (by show W.heap.size ≤ (W2.alloc _).heap.size; rw [World.size_alloc]; exact Nat.le_succ_of_le B2.out.size) (fun g hg => (N2.out.lt g hg).1)); clear o6 h6 e6 l6)
            all_goals
              go_wp2_with fail
              go_roundw
              case rel => exact ⟨k + 1, by omega, by go_num, by rw [hv.out], Lib.hid (by rw [hv.out]; exact A6.out), Lib.hid (by rw [hv.out, ← HNR.out, HTK.out]; exact O6.out), X6, B6⟩
              case measure => simp [intOf]; omega
          · have HTK := Lib.hid (show bs (p.2.take 60) = bs p.2 by rw [List.take_of_length_le (by omega)])
            have q1 : ¬ (60 : Int) < ((bs p.2).size : Int) := by rw [bs_size]; omega
            have q2 : ¬ ((bs p.2).size : Int) > 60 := q1
            clear h60
            go_wp2_with (first
              | (go_at_call 44; ((with_reducible refine (HSE.out _).mono ?_); rintro e w1 ⟨rfl, rfl⟩))
              | (go_at_call 45; ((with_reducible refine (HAS.out _).mono ?_); rintro e W2 ⟨rfl, b2⟩); have B2 := Lib.hid (PB.out.trans (b2.mono PB.out.size)); have A2 := Lib.hid (own_on13 PA.out b2); have N2 := Lib.hid (own_on13 PN.out b2); have y1 := (b2.cell (World.block_lt_of_cell? V _ c1)).trans c1; have y2 := (b2.cell (World.block_lt_of_cell? V _ c2)).trans c2; have yb := (b2.cell (World.block_lt_of_cell? V _ cb)).trans cb; clear b2))
            go_region_law ((refine step_append_lies _ (by rfl) (.tmp 85) (.tmp 95) 38 (by rfl) W.heap.size 47 j0 _ 4 48 Tryz.underlying38 JI.out JZ0.out JZ1.out JZ2.out rfl (by omega) u7 st.nts.length (rowC encN st.nts) (by rfl) (N2.out.alloc _).drew ⟨W2.heap.size, 0, none⟩ 1 1 (encN ⟨fn, nr, 130, bs p.2⟩) (by rfl) rfl (news_row W2 _ _) (encN_one _) (by omega) (by have := HLE.out; unfold maxLen; omega) (by have := HLE.out; omega) (by show W.heap.size ≤ (W2.alloc _).heap.size; rw [World.size_alloc]; exact Nat.le_succ_of_le B2.out.size) (W2.heap.size + 1) (by show (W2.alloc _).heap.size = _; rw [World.size_alloc]) ?_); intro g6 c6 W6 o6 h6 e6 l6; have O6 := Lib.hid (outN_next o6); have A6 := Lib.hid ((A2.out.alloc _).drew.kept h6 (apart_ne PX.out.1)); have X6 := Lib.hid (And.intro (apart_new2 (w := W6) (n := st.nts.length + 1) (c := c6) PX.out.1 e6 (fun b hb => Nat.lt_succ_of_lt (A2.out.lt b hb).2)) (apart_new (w := W6) (n := st.nts.length + 1) (c := c6) PX.out.2 e6 (fun b hb => Nat.lt_succ_of_lt (A2.out.lt b hb).2))); have B6 := Lib.hid ((B2.out.alloc B2.out.size _).drew.grown h6 (by show W.heap.size ≤ (W2.alloc _).heap.size; rw [World.size_alloc]; exact Nat.le_succ_of_le B2.out.size) (fun g hg => (N2.out.lt g hg).1)); clear o6 h6 e6 l6)
            all_goals
              go_wp2_with fail
              go_roundw
              case rel => exact ⟨k + 1, by omega, by go_num, by rw [hv.out], Lib.hid (by rw [hv.out]; exact A6.out), Lib.hid (by rw [hv.out, ← HNR.out, HTK.out]; exact O6.out), X6, B6⟩
              case measure => simp [intOf]; omega
    · obtain rfl : k = m := by omega
      have k1 : ¬ (k : Int) < k := by omega
      obtain ⟨qa, ca, rfl⟩ := out_form PA.out
      obtain ⟨qn, cn, rfl⟩ := out_form PN.out
      obtain ⟨st, hst⟩ : ∃ st, st = stU fn O k := ⟨_, rfl⟩
      rw [← hst] at PA PN
      have HA := Lib.hid (rows_own encA_len PA.out)
      have HNV := Lib.hid (show NewV w.heap.size (.slice qa st.asl.length ca) ∧ NewV w.heap.size (.slice qn st.nts.length cn) from ⟨NewV.own PA.out B1.out.size, NewV.own PN.out B1.out.size⟩)
      have HNT := Lib.hid (rows_own encN_len PN.out)
      have HST := Lib.hid hst.symm
      obtain ⟨x, hx⟩ : ∃ x, x = st.nts.length := ⟨_, rfl⟩
      have HX := Lib.hid hx
      rw [← hst, ← hx]
      rw [← hx] at HNT HNV
      clear hst hx
      by_cases h0 : x = 0
      · subst h0
        have e0 := Lib.hid (show st.nts = [] from List.eq_nil_of_length_eq_zero HX.out.symm)
        go_wp2_with fail
        go_ret2
        exact ⟨_, _, rfl, by rw [HST.out, usA_yes e0.out]; exact HA.out, by rw [HST.out, e0.out]; exact RowsAt.nil _, thn13 B1.out PB.out, HNV.out.1, NewV.nil _ _ _⟩
      · have x1 : (0 : Int) < (x : Int) := by omega
        have x2 : (x : Int) > 0 := x1
        have e0 := Lib.hid (show ¬ st.nts = [] from fun e => h0 (by rw [HX.out, e]; rfl))
        clear h0
        go_wp2_with fail
        go_ret2
        exact ⟨_, _, rfl, by rw [HST.out, usA_no e0.out]; exact RowsAt.nil _, by rw [HST.out]; exact HNT.out, thn13 B1.out PB.out, NewV.nil _ _ _, HNV.out.2⟩
theorem parse_go (fn : ByteArray) (dir : Int) (a0 : Option Addr) (n cap : Nat) (l : List UInt8) (w : World) (hl : l.length = n) (hn : n ≤ 1000000) (hc : n ≤ cap) (hm : cap ≤ maxLen) (hr : RdB w w.heap.size a0 l) (hE : splE l = 0) : Calls Tryz.prog 31 #[.agg #[.string fn, .int .i64 dir, .slice a0 n cap]] w fun e w' =>
    ∃ va vn, e = .returned (.tuple #[va, vn]) ∧ RowsAt 5 encA w' va (usA (filS fn l)) ∧ RowsAt 4 encN w' vn (filS fn l).nts ∧ Below w.heap.size w w' :=
  (parse_go_n fn dir a0 n cap l w hl hn hc hm hr hE).mono fun e w' ⟨va, vn, h1, h2, h3, h4, _⟩ => ⟨va, vn, h1, h2, h3, h4⟩
end Go.Proofs.YtgigdhincpcdbaaGreatDoor
namespace Go.Proofs.YtgigdhincpcdbaaGreatDoor
open Go.RowKit
set_option linter.unusedVariables false
set_option linter.unusedSimpArgs false
attribute [local go_sem ↓] Go.wp_at_zero Go.wp_at_succ

theorem refParse13 (fn : ByteArray) (dir : Int) (a0 : Option Addr) (n cap : Nat) (l : List UInt8) (w : World) (hl : l.length = n) (hn : n ≤ 1000000) (hc : n ≤ cap) (hm : cap ≤ maxLen) (hr : RdB w w.heap.size a0 l) : Calls Tryz.prog 31 #[.agg #[.string fn, .int .i64 dir, .slice a0 n cap]] w fun e w' =>
    ∃ va vn, e = .returned (.tuple #[va, vn]) ∧ RowsAt 5 encA w' va (filA fn l) ∧ RowsAt 4 encN w' vn (filN fn l) ∧ Below w.heap.size w w' := by
  unfold filA filN
  by_cases hE : splE l = 0
  · rw [if_neg (fun h => h hE), if_neg (fun h => h hE)]
    exact parse_go fn dir a0 n cap l w hl hn hc hm hr hE
  · rw [if_pos hE, if_pos hE]
    exact parse_err fn dir a0 n cap l w hl hn hc hm hr hE
theorem refParse13_n (fn : ByteArray) (dir : Int) (a0 : Option Addr) (n cap : Nat) (l : List UInt8) (w : World) (hl : l.length = n) (hn : n ≤ 1000000) (hc : n ≤ cap) (hm : cap ≤ maxLen) (hr : RdB w w.heap.size a0 l) : Calls Tryz.prog 31 #[.agg #[.string fn, .int .i64 dir, .slice a0 n cap]] w fun e w' =>
    ∃ va vn, e = .returned (.tuple #[va, vn]) ∧ RowsAt 5 encA w' va (filA fn l) ∧ RowsAt 4 encN w' vn (filN fn l) ∧ Below w.heap.size w w' ∧ NewV w.heap.size va ∧ NewV w.heap.size vn := by
  unfold filA filN
  by_cases hE : splE l = 0
  · rw [if_neg (fun h => h hE), if_neg (fun h => h hE)]
    exact parse_go_n fn dir a0 n cap l w hl hn hc hm hr hE
  · rw [if_pos hE, if_pos hE]
    exact parse_err_n fn dir a0 n cap l w hl hn hc hm hr hE
set_option maxHeartbeats 4000000 in
theorem sameN_yes (u v : Value) (O : List Nte) (w : World) (hu : RowsAt 4 encN w u O) (hv : RowsAt 4 encN w v O) (hO : O.length ≤ 1000000) : Calls Tryz.prog 19 #[u, v] w fun e w' => e = .returned (.bool true) ∧ Below w.heap.size w w' := by
  obtain ⟨q1, c1, rfl, hr1⟩ := hu
  obtain ⟨q2, c2, rfl, hr2⟩ := hv
  have H1 := Lib.hid hr1
  have H2 := Lib.hid hr2
  obtain ⟨n, hn⟩ : ∃ n, n = O.length := ⟨_, rfl⟩
  have HN := Lib.hid hn
  rw [← hn] at hO ⊢
  clear hr1 hr2 hn
  have t1 : ((n : Int) != (n : Int)) = false := by simp
  go_enter Tryz.func19, Tryz.ntmps19
  go_wp2_with fail
  go_loopw [5] (fun v5 wr => ∃ k : Nat, k ≤ n ∧ v5 = .int .i64 k ∧ Hid (Below w.heap.size w wr)) (fun v5 _ => n - (intOf v5).toNat)
  case atStart => exact ⟨0, by omega, rfl, Lib.hid (Below.refl _ _)⟩
  case round =>
    obtain ⟨k, hk, rfl, PB⟩ := hrel
    obtain ⟨V, rfl⟩ : ∃ wo : World, wo = wr := ⟨_, rfl⟩
    by_cases hlt : k < n
    · have hx : O[k]? = some (O[k]'(by rw [← HN.out]; exact hlt)) := List.getElem?_eq_getElem _
      obtain ⟨p, hp⟩ : ∃ p, p = O[k]'(by rw [← HN.out]; exact hlt) := ⟨_, rfl⟩
      rw [← hp] at hx
      obtain ⟨g1, o1, rfl, d1⟩ := H1.out k p hx
      obtain ⟨g2, o2, rfl, d2⟩ := H2.out k p hx
      have x0 := (PB.out.cell (World.block_lt_of_cell? w _ (d1 0 _ rfl))).trans (d1 0 _ rfl)
      have x1 := (PB.out.cell (World.block_lt_of_cell? w _ (d1 1 _ rfl))).trans (d1 1 _ rfl)
      have x2 := (PB.out.cell (World.block_lt_of_cell? w _ (d1 2 _ rfl))).trans (d1 2 _ rfl)
      have x3 := (PB.out.cell (World.block_lt_of_cell? w _ (d1 3 _ rfl))).trans (d1 3 _ rfl)
      have y0 := (PB.out.cell (World.block_lt_of_cell? w _ (d2 0 _ rfl))).trans (d2 0 _ rfl)
      have y1 := (PB.out.cell (World.block_lt_of_cell? w _ (d2 1 _ rfl))).trans (d2 1 _ rfl)
      have y2 := (PB.out.cell (World.block_lt_of_cell? w _ (d2 2 _ rfl))).trans (d2 2 _ rfl)
      have y3 := (PB.out.cell (World.block_lt_of_cell? w _ (d2 3 _ rfl))).trans (d2 3 _ rfl)
      rw [Nat.add_zero] at x0 y0
      have k1 : (k : Int) < n := by omega
      have k0 : (0 : Int) ≤ k := by omega
      have hw1 : IntKind.i64.wrap ((k : Int) + 1) = k + 1 := by rw [IntKind.wrap_i64]; omega
      obtain ⟨f0, f1, f2, f3⟩ := p
      clear hx hp d1 d2
      have e0 : (f0.toList == f0.toList) = true := by simp
      have e1 : (f1 == f1) = true := by simp
      have e2 : (f2 == f2) = true := by simp
      have e3 : (f3.toList == f3.toList) = true := by simp
      go_wp2_with fail
      go_quiet (fail)
      go_wp2_with fail
      go_roundw
      case rel => exact ⟨k + 1, by omega, by go_num, Lib.hid (Go.below_drewN PB.out _)⟩
      case measure => simp [intOf]; omega
    · obtain rfl : k = n := by omega
      have k1 : ¬ (k : Int) < k := by omega
      go_wp2_with fail
      go_ret
      exact ⟨rfl, PB.out⟩
end Go.Proofs.YtgigdhincpcdbaaGreatDoor
namespace Go.Proofs.YtgigdhincpcdbaaGreatDoor
open Go.RowKit
set_option linter.unusedVariables false
set_option linter.unusedSimpArgs false
attribute [local go_sem ↓] Go.wp_at_zero Go.wp_at_succ

/-- What unit.Parse, Section, Assignment have to return, over what must lie in memory. -/
structure UnitC (G : World → Prop) : Prop where
  on : ∀ {w w' : World}, G w → Below w.heap.size w w' → G w'
  parse : ∀ (fn : ByteArray) (dir : Int) (a0 : Option Addr) (n cap : Nat) (l : List UInt8) (w : World), G w → fn.size ≤ maxLen → l.length = n → n ≤ 140737488355328 → n ≤ cap → cap ≤ maxLen → (a0 = none → cap = 0) → RdB w w.heap.size a0 l → Calls Tryz.prog 20 #[.agg #[.string fn, .int .i64 dir, .slice a0 n cap]] w fun e w' =>
    ∃ va vn, e = .returned (.tuple #[va, vn]) ∧ RowsAt 5 encA w' va (filA fn l) ∧ RowsAt 4 encN w' vn (filN fn l) ∧ Below w.heap.size w w'
  section_ : ∀ (s : ByteArray) (w : World), G w → s.size ≤ 4294967280 → Calls Tryz.prog 48 #[.string s] w fun e w' => e = .returned (.tuple #[.string (bs (secV s.data.toList)), .bool (secL s.data.toList).isSome]) ∧ Below w.heap.size w w'
  assignment : ∀ (s : ByteArray) (w : World), G w → s.size ≤ 4294967280 → Calls Tryz.prog 49 #[.string s] w fun e w' => e = .returned (.tuple #[.string (bs (asgK s.data.toList)), .string (bs (asgW s.data.toList)), .bool (asgL s.data.toList).isSome]) ∧ Below w.heap.size w w'
def encI (x : Int) : List Value := [.int .i64 x]
theorem encI_len (x : Int) : (encI x).length = 1 := rfl
theorem encI_one (x : Int) : ∀ u ∈ encI x, u.oneCell' = true := fun u hu => by
  unfold encI at hu
  rw [List.mem_singleton] at hu
  subst hu; rfl
theorem int_info13 : (Tryz.prog.info? 3).map (fun i => (i.zero, i.size, i.bytes)) = some (some (.int .i64 0), 1, 8) := by kernel_rfl
abbrev fF : ByteArray := ⟨#[102]⟩
theorem filN_len (fn : ByteArray) (l : List UInt8) : (filN fn l).length ≤ 1000 := by
  unfold filN filS
  split
  · exact Nat.le_of_ble_eq_true rfl
  · have := stU_len fn (splL l) (splL l).length (Nat.le_refl _)
    have := splL_len l
    omega
theorem filA_len (fn : ByteArray) (l : List UInt8) : (filA fn l).length ≤ 1000 := by
  unfold filA filS usA
  split
  · exact Nat.zero_le _
  · split
    · have := stU_len fn (splL l) (splL l).length (Nat.le_refl _)
      have := splL_len l
      omega
    · exact Nat.zero_le _
end Go.Proofs.YtgigdhincpcdbaaGreatDoor
