/- What the landed read makes of a line whose name is no code's; what the library's iterator over a text's lines hands over. Conditions: the tables and the library's two errors lie in their variables; a text of at most 2^47 bytes. -/
import Derived.Test.YtlneiiljdghmjaaDoorHq
import Derived.RegionIn
namespace Go.Proofs.YtlneiiljdghmjaaDoor
open Go.RowKit Go.Shelf
set_option linter.unusedVariables false
set_option linter.unusedSimpArgs false

theorem r_start {w w1 w2 : World} {at_ : Nat} {l1 : List UInt8} (b1 : Below ((w.alloc (.cells #[.int .i64 at_] 3)).alloc (insO 0 0 0 0)).heap.size ((w.alloc (.cells #[.int .i64 at_] 3)).alloc (insO 0 0 0 0)) w1) (b2 : Below (w1.alloc (.cells #[.string (bs l1)] 9)).heap.size (w1.alloc (.cells #[.string (bs l1)] 9)) w2) :
    w2.heap[w.heap.size + 1]? = some (insO 0 0 0 0) ∧ Below w.heap.size w w2 ∧ w.heap.size + 1 < w2.heap.size := by
  have s1 := b1.size
  have s2 := b2.size
  rw [World.size_alloc, World.size_alloc] at s1
  rw [World.size_alloc] at s2
  have e2 : ((w.alloc (.cells #[.int .i64 at_] 3)).alloc (insO 0 0 0 0)).heap[w.heap.size + 1]? = some (insO 0 0 0 0) := by
    have := heap_alloc_new (w.alloc (.cells #[.int .i64 at_] 3)) (insO 0 0 0 0)
    rwa [World.size_alloc] at this
  have f2 := (b1.block (w.heap.size + 1) (by rw [World.size_alloc, World.size_alloc]; omega)).trans e2
  have g2 := (b2.block (w.heap.size + 1) (by rw [World.size_alloc]; omega)).trans ((Below.heap_alloc _ _ _ (by omega)).trans f2)
  have bw : Below w.heap.size w w2 := (((ball w _).trans ((ball _ _).mono (by simp))).trans (b1.mono (by rw [World.size_alloc, World.size_alloc]; omega))).trans (((ball w1 _).mono (by omega)).trans (b2.mono (by rw [World.size_alloc]; omega)))
  exact ⟨g2, bw, by omega⟩
section
attribute [local go_sem ↓] Go.wp_at_zero Go.wp_at_succ
set_option maxRecDepth 100000 in
set_option maxHeartbeats 4000000 in
theorem read_none (l : List UInt8) (hl : l.length ≤ 140737488355328) (at_ : Nat) (hc : codeOfL (befL l) = none) (w : World) (hG : GP w) : Calls Tryd.prog 51 #[.string (bs l), .int .i64 at_] w (ReadTo l at_ w) := by
  have HCU := Lib.hid (fun W => cut_call l hl W)
  have HCO := Lib.hid (fun W (g : GW W) => codeC (bs (befL l)) W g (bs_le (bef_bound hl)))
  rw [(code_none hc).1, (code_none hc).2] at HCO
  have HG := Lib.hid hG
  have HB0 := Lib.hid (th2 (ball w (.cells #[.int .i64 at_] 3)) (ball (w.alloc (.cells #[.int .i64 at_] 3)) (.cells #[.int .u16 0, .int .u8 0, .int .u8 0, .int .u32 0] 33)))
  have HE := Lib.hid (show readL l at_ = none by unfold readL; rw [hc])
  unfold ReadTo
  clear hl hG hc
  go_enter Tryd.func51, Tryd.ntmps51
  go_wp2_with (first
    | (go_at_call 59; ((with_reducible refine (HCU.out _).mono ?_); rintro e w1 ⟨bb, rfl, b1⟩); have B1 := Lib.hid (th2 HB0.out b1); have C1 := Lib.hid b1; clear b1)
    | (go_at_call 60; ((with_reducible refine (HCO.out _ ((HG.out.toGA.on B1.out).alloc _).rows).mono ?_); rintro e w2 ⟨rfl, b2⟩); have D0 := Lib.hid (r_start (at_ := at_) C1.out b2); have hlt := D0.out.2.2; obtain ⟨r0, r1, r2, r3⟩ := four_ins D0.out.1; have f0 := fun i => free_ins (i := i) D0.out.1; clear b2))
  have n1 : ¬ w.heap.size + 1 = w2.heap.size := by omega
  refine bodyPost_ret (v := .tuple #[.agg #[.int .u16 0, .int .u8 0, .int .u8 0, .int .u32 0], .bool false]) (by simp [results, Tryd.results51, go_sem, r0, r1, r2, r3, n1, hlt]) rfl ?_
  refine ⟨⟨0, 0, 0, 0⟩, false, rfl, by rw [HE.out]; rfl, ?_⟩
  have bf := (((D0.out.2.1.setCell (p := ⟨w.heap.size + 1, 0, none⟩) (Nat.le_succ _) (.int .u16 0)).setCell (p := ⟨w.heap.size + 1, 1, none⟩) (Nat.le_succ _) (.int .u8 0)).setCell (p := ⟨w.heap.size + 1, 2, none⟩) (Nat.le_succ _) (.int .u8 0)).setCell (p := ⟨w.heap.size + 1, 3, none⟩) (Nat.le_succ _) (.int .u32 0)
  exact bf.alloc bf.size _
end
/-- What the landed read returns. -/
theorem read_call (l : List UInt8) (hl : l.length ≤ 140737488355328) (at_ : Nat) (hat : at_ ≤ 1099511627776) (w : World) (hG : GP w) : Calls Tryd.prog 51 #[.string (bs l), .int .i64 at_] w (ReadTo l at_ w) := by
  cases hc : codeOfL (befL l) with
  | none => exact read_none l hl at_ hc w hG
  | some c =>
    by_cases h5 : c = 5
    · subst h5; exact read_J l hl at_ hat hc w hG
    · cases hu : usesKB c with
      | true =>
        cases hf : forksB c with
        | true =>
          rcases hp : Lib.parseUintB 32 (befL (aftL l)) with k | _ | _
          · exact read_UF l hl at_ hat c hc h5 k hu hf hp w hG
          · exact read_UFn l hl at_ hat c hc h5 hu hf (fun k h => by rw [hp] at h; cases h) w hG
          · exact read_UFn l hl at_ hat c hc h5 hu hf (fun k h => by rw [hp] at h; cases h) w hG
        | false =>
          rcases hp : Lib.parseUintB 32 (befL (aftL l)) with k | _ | _
          · exact read_U l hl at_ hat c hc h5 k hu hf hp w hG
          · exact read_Un l hl at_ hat c hc h5 hu hf (fun k h => by rw [hp] at h; cases h) w hG
          · exact read_Un l hl at_ hat c hc h5 hu hf (fun k h => by rw [hp] at h; cases h) w hG
      | false =>
        cases hf : forksB c with
        | true => exact read_F l hl at_ hat c hc h5 hu hf w hG
        | false => exact read_N l hl at_ hat c hc h5 hu hf w hG
/-- The box's string's length. -/
def boxLen (z : Nat) (V : World) : Nat := match V.cell? ⟨z, 0, none⟩ with | some (.string b) => b.size | _ => 0
theorem boxLen_of {z : Nat} {V : World} {t : TypeId} {m : List UInt8} (h : Boxed V z t (.string (bs m))) : boxLen z V = m.length := by
  unfold boxLen
  rw [h.cell]
  exact bs_size m
theorem cuts_at {s : List UInt8} {k : Nat} (h : restN s k ≠ []) : (cutsL s)[k]? = some (headN (restN s k)) := by
  have e := rest_cuts s k
  rw [cuts_head h] at e
  have : ((cutsL s).drop k)[0]? = some (headN (restN s k)) := by rw [← e]; rfl
  rwa [List.getElem?_drop, Nat.add_zero] at this
theorem cuts_end {s : List UInt8} {k : Nat} (hk : k ≤ (cutsL s).length) (h : restN s k = []) : (cutsL s).length = k := by
  have e := rest_cuts s k
  rw [h] at e
  have : ((cutsL s).drop k).length = 0 := by rw [← e]; rfl
  rw [List.length_drop] at this
  omega
section
attribute [local go_sem] Oper.semAt_some
set_option maxRecDepth 100000 in
set_option maxHeartbeats 8000000 in
theorem linesS_gives (z : Nat) (s : List UInt8) (hs : s.length ≤ 140737488355328) (w0 : World) (hz : Boxed w0 z 9 (.string (bs s))) :
    GivesK Tryd.prog 55 #[.pointer (some ⟨z, 0, none⟩)] (KeepZ z) (· = z) (strV (cutsL s)) w0 := by
  intro l J Jx W hW hJ hJx hZ hY hj0
  have hzw := (Array.getElem?_eq_some_iff.1 hz).1
  have HB0 := Lib.hid (show Boxed W z 9 (.string (bs s)) from (hW.block z hzw).trans hz)
  have hzW : z < W.heap.size := Nat.lt_of_lt_of_le hzw hW.size
  have HJ := Lib.hid hJ
  have HJX := Lib.hid hJx
  have HY := Lib.hid hY
  have HZ := Lib.hid hZ
  have HS := Lib.hid hs
  have HJ0 := Lib.hid hj0
  have HIX := Lib.hid (fun (m : List UInt8) V => index10_call m V)
  obtain ⟨xs, hxs⟩ : ∃ xs, xs = strV (cutsL s) := ⟨_, rfl⟩
  have HXL := Lib.hid (show xs.length = (cutsL s).length by rw [hxs, strV_len])
  have HGT := Lib.hid (fun j t (h : (cutsL s)[j]? = some t) => show xs[j]? = some (Value.string (bs t)) from by
    rw [hxs]; unfold strV; rw [List.getElem?_map, h]; rfl)
  rw [← hxs] at HY ⊢
  clear hW hJ hJx hZ hY hj0 hz hzw hs hxs
  refine (callsIn_wide (n := 4)).1 ?_
  refine callsIn_of_wp Tryd.func55 rfl trivial ?_ rfl
  simp only [Tryd.ntmps55, List.size_toArray, List.length_cons, List.length_nil, Nat.reduceAdd, Nat.reduceSub, Array.replicate_succ, Array.replicate_zero, List.push_toArray, List.append_toArray, List.nil_append, List.cons_append]
  gi_wp2
  gi_loopw [] (fun wr => ∃ k : Nat, k ≤ (cutsL s).length ∧ Hid (J k wr) ∧ Hid (Boxed wr z 9 (.string (bs (restN s k)))) ∧ W.heap.size ≤ wr.heap.size) (fun wr => boxLen z wr)
  case atStart => exact ⟨0, Nat.zero_le _, HJ0, HB0, Nat.le_refl _⟩
  case round =>
    clear HB0 HJ0
    obtain ⟨k, hk, HJ1, HB1, hz1⟩ := hrel
    obtain ⟨V, rfl⟩ : ∃ wo : World, wo = wr := ⟨_, rfl⟩
    obtain ⟨m, hm⟩ : ∃ m, m = restN s k := ⟨_, rfl⟩
    have HM := Lib.hid hm
    have hml : m.length ≤ 140737488355328 := by rw [hm]; exact Nat.le_trans (rest_le s k) HS.out
    have HNX := Lib.hid (show restN s (k + 1) = tailN m by rw [hm]; rfl)
    rw [← hm] at HB1
    have c1 := HB1.out.cell
    obtain ⟨n, hn⟩ : ∃ n, n = m.length := ⟨_, rfl⟩
    have hsz : (bs m).size = n := by rw [hn]; exact bs_size m
    have HBL := Lib.hid (show boxLen z V = n by rw [hn]; exact boxLen_of HB1.out)
    have HAT := Lib.hid (fun (h : m ≠ []) => show (cutsL s)[k]? = some (headN m) from by rw [HM.out] at h ⊢; exact cuts_at h)
    have HEN := Lib.hid (fun (h : m = []) => show (cutsL s).length = k from cuts_end hk (by rw [← HM.out]; exact h))
    clear hm
    by_cases h0 : m = []
    · have hn0 : n = 0 := by rw [hn, h0]; rfl
      subst hn0
      have HJE := Lib.hid (show J xs.length V by rw [HXL.out, HEN.out h0]; exact HJ1.out)
      clear h0 hn
      gi_wp2
      go_end0
      exact ⟨⟨_, rfl⟩, .inl HJE.out⟩
    · have hn1 : 0 < n := by rw [hn]; exact List.length_pos_iff.2 h0
      have i1 : (0 : Int) < n := by omega
      have hat := HAT.out h0
      have HX := Lib.hid (HGT.out _ _ hat)
      have hkl : k < (cutsL s).length := (List.getElem?_eq_some_iff.1 hat).1
      have HTL := Lib.hid (tail_lt h0)
      rw [← hn] at HTL hml
      have hfz := HB1.out.frozen
      have n47 : (n : Int) ≤ 140737488355328 := by omega
      rcases head_index m with ⟨h1, h2, h3⟩ | ⟨i, h1, hi, h2, h3⟩
      · have HI := Lib.hid (fun V => HIX.out m V)
        rw [h1] at HI
        rw [h2] at HX
        rw [h3] at HNX HTL
        have HBn := Lib.hid (show Boxed (V.setCell ⟨z, 0, none⟩ (.string ⟨#[]⟩)) z 9 (.string (bs [])) from HB1.out.set (.string ⟨#[]⟩))
        have hzz : W.heap.size ≤ (V.setCell ⟨z, 0, none⟩ (.string ⟨#[]⟩)).heap.size := by simp; exact hz1
        obtain ⟨fn, tmps, assign, body, hy, hR⟩ := HY.out k (.string (bs m)) (V.setCell ⟨z, 0, none⟩ (.string ⟨#[]⟩)) HX.out (HZ.out k z V _ rfl HJ1.out) hzz
        have HR := Lib.hid hR
        have HZZ := Lib.hid hzz
        clear hR hzz h0 hn hat h1 h2 h3 hml
        gi_wp2_with (refine ⟨trivial, ?_⟩
                     gi_at_call 56
                     refine (callsIn_wide.2 (HI.out _)).mono ?_
                     rintro e w2 ⟨rfl, rfl⟩)
        refine HR.out.mono ?_
        rintro e V' ⟨hkf, ⟨rfl, hJ3, hk3⟩ | ⟨rfl, hJx3⟩⟩
        · have hb3 : Boxed V' z 9 (.string (bs [])) := hk3.2 _ HBn.out
          have HB3 := Lib.hid hb3
          have HZ3 := Lib.hid (Nat.le_trans HZZ.out hk3.1)
          clear hkf hk3 hb3 hy
          gi_wp2
          go_roundw
          case rel => exact ⟨k + 1, hkl, Lib.hid hJ3, Lib.hid (by rw [HNX.out]; exact HB3.out), HZ3.out⟩
          case measure => rw [HBL.out, boxLen_of HB3.out]; exact hn1
        · gi_wp2
          refine bodyPost_ret (results_none rfl _ _ _) rfl ?_
          exact ⟨⟨_, rfl⟩, .inr ⟨_, hJx3⟩⟩
      · have HI := Lib.hid (fun V => HIX.out m V)
        rw [h1] at HI
        have H2 := Lib.hid (show (bs m).extract 0 (i + 1) = bs (headN m) by rw [bs_sub, h2]; rfl)
        have H3 := Lib.hid (show (bs m).extract (i + 1) n = bs (tailN m) by rw [bs_sub, h3, hn, List.take_of_length_le (by simp)])
        rw [← hn] at hi
        have i0 : (0 : Int) ≤ i := by omega
        have i2 : (i : Int) < n := by omega
        have w1 : IntKind.i64.wrap ((i : Int) + 1) = i + 1 := IntWalk.i64_in _ (by omega)
        have j0 : (0 : Int) ≤ (i : Int) + 1 := by omega
        have j1 : ((i : Int) + 1).toNat = i + 1 := by omega
        have j2 : (i : Int) + 1 ≤ n := by omega
        clear h0 hn hat h1 h2 h3 hml
        gi_wp2_with (refine ⟨trivial, ?_⟩
                     gi_at_call 56
                     refine (callsIn_wide.2 (HI.out _)).mono ?_
                     rintro e w2 ⟨rfl, rfl⟩)
        gi_region
        have HBn := Lib.hid (show Boxed (V.setCell ⟨z, 0, none⟩ (.string ((bs m).extract (i + 1) n))).drew z 9 (.string (bs (tailN m))) from by
          have h := HB1.out.set (.string ((bs m).extract (i + 1) n))
          rw [H3.out] at h ⊢
          exact h)
        have hzz : W.heap.size ≤ (V.setCell ⟨z, 0, none⟩ (.string ((bs m).extract (i + 1) n))).drew.heap.size := by simp [World.drew]; exact hz1
        obtain ⟨fn, tmps, assign, body, hy, hR⟩ := HY.out k (.string ((bs m).extract 0 (i + 1))) (V.setCell ⟨z, 0, none⟩ (.string ((bs m).extract (i + 1) n))).drew (by rw [H2.out]; exact HX.out) (ownOn HJ.out (HZ.out k z V _ rfl HJ1.out) (Below.refl _ _).drew) hzz
        have HR := Lib.hid hR
        have HZZ := Lib.hid hzz
        clear hR hzz
        gi_wp2
        refine HR.out.mono ?_
        rintro e V' ⟨hkf, ⟨rfl, hJ3, hk3⟩ | ⟨rfl, hJx3⟩⟩
        · have hb3 : Boxed V' z 9 (.string (bs (tailN m))) := hk3.2 _ HBn.out
          have HB3 := Lib.hid hb3
          have HZ3 := Lib.hid (Nat.le_trans HZZ.out hk3.1)
          clear hkf hk3 hb3 hy
          gi_wp2
          go_roundw
          case rel => exact ⟨k + 1, hkl, Lib.hid hJ3, Lib.hid (by rw [HNX.out]; exact HB3.out), HZ3.out⟩
          case measure => rw [HBL.out, boxLen_of HB3.out]; exact HTL.out
        · gi_wp2
          refine bodyPost_ret (results_none rfl _ _ _) rfl ?_
          exact ⟨⟨_, rfl⟩, .inr ⟨_, hJx3⟩⟩
end
/-- What the library's Lines returns. -/
theorem linesS_call (s : ByteArray) (w : World) : Calls Tryd.prog 48 #[.string s] w fun e w' => e = .returned (.func (.func 55) #[] #[.pointer (some ⟨w.heap.size, 0, none⟩)]) ∧ w' = w.alloc (.cells #[.string s] 9) := by
  go_enter Tryd.func48, Tryd.ntmps48
  go_wp2
  go_ret
  exact ⟨rfl, rfl⟩
end Go.Proofs.YtlneiiljdghmjaaDoor
