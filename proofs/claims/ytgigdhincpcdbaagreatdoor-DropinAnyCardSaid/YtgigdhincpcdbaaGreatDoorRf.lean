/- What the landed Order returns. Condition: files that lie in memory, at most 1,000,000 bytes each, at most 1000. -/
import Derived.Test.YtgigdhincpcdbaaGreatDoorRe
namespace Go.Proofs.YtgigdhincpcdbaaGreatDoor
open Go.RowKit Go.Maps
set_option linter.unusedVariables false
set_option linter.unusedSimpArgs false
attribute [local go_sem ↓] Go.wp_at_zero Go.wp_at_succ

theorem all_may {D : List Fle} : ∀ {n : Nat}, badN D n = false → ∀ j, j < n → mayL (D.getD j f0).name.data.toList = true
  | n + 1, h, j, hj => by
    have h2 : (badN D n || !mayL (D.getD n f0).name.data.toList) = false := h
    rw [Bool.or_eq_false_iff, Bool.not_eq_false'] at h2
    by_cases e : j = n
    · subst e; exact h2.2
    · exact all_may h2.1 j (by omega)
theorem first_bad {D : List Fle} : ∀ {n : Nat}, badN D n = true → ∃ K, K < n ∧ (∀ j, j < K → mayL (D.getD j f0).name.data.toList = true) ∧ mayL (D.getD K f0).name.data.toList = false
  | n + 1, h => by
    have h2 : (badN D n || !mayL (D.getD n f0).name.data.toList) = true := h
    cases hb : badN D n with
    | true =>
      obtain ⟨K, h3, h4, h5⟩ := first_bad hb
      exact ⟨K, by omega, h4, h5⟩
    | false =>
      rw [hb, Bool.false_or, Bool.not_eq_true'] at h2
      exact ⟨n, Nat.lt_succ_self _, all_may hb, h2⟩
theorem newF_nil (B : Nat) (w : World) : NewF B w (.slice none 0 0) [] := ⟨World.ownsRow_nil _ _ _ _, fun f hf => (by cases hf)⟩
theorem newF_snoc {V V3 : World} {B : Nat} {v v3 : Value} {L : List Fle} {f : Fle} {o : Obj} (h : NewF B V v L) (hf : OwnB B V f) (ho : V3.ownsRow B 24 3 v3 (L.length + 1) (rowC encF L ++ encF f)) (hg : (V.alloc o).grownBy V3 v.ownBlock) : NewF B V3 v3 (L ++ [f]) := by
  refine ⟨by rw [List.length_append, List.length_singleton, rowC_app, rowC_one1]; exact ho, fun x hx => ?_⟩
  have hx2 : OwnB B V x := by
    rcases List.mem_append.1 hx with e | e
    · exact h.each x e
    · rw [List.mem_singleton.1 e]; exact hf
  exact ⟨hx2.1, own_other (hx2.2.alloc o) (h.own.alloc o) (by decide) hg⟩
theorem ordL_nil {m : Fle} {D : List Fle} (h : ordE D ≠ 0) : ([] : List Fle).map Fle.fil = (ordL m D).map Fle.fil := by unfold ordL; rw [if_neg h]
set_option maxRecDepth 100000 in
set_option maxHeartbeats 8000000 in
theorem order_bad (m : Fle) (D : List Fle) (a : Option Addr) (n cap : Nat) (w : World) (hm : FleAt w.heap.size w m) (h : FsAt w a n cap D) (hb : ∀ f ∈ m :: D, f.len ≤ 1000000 ∧ f.name.size ≤ 1000000) (hn : n ≤ 1000) (hE : ordE D ≠ 0) : Calls Tryz.prog 10 #[.agg #[.string m.name, .int .i64 m.dir, .slice m.ptr m.len m.cap], .slice a n cap] w fun e w' =>
    ∃ v L, e = .returned (.tuple #[v, .int .i64 (ordE D)]) ∧ NewF w.heap.size w' v L ∧ L.map Fle.fil = (ordL m D).map Fle.fil ∧ Below w.heap.size w w' := by
  have hDn := h.len
  have HL := Lib.hid (ordL_nil (m := m) hE)
  by_cases hfull : 16 < n
  · have HE := Lib.hid (ordE_full (D := D) (by omega))
    have n1 : (16 : Int) < n := by omega
    have n2 : (n : Int) > 16 := n1
    clear hDn hfull h hE hb hm
    go_enter Tryz.func10, Tryz.ntmps10
    go_wp2_with fail
    go_ret2
    exact ⟨_, [], by rw [HE.out]; rfl, newF_nil _ _, HL.out, (Below.refl _ _).alloc (Nat.le_refl _) _⟩
  · have n1 : ¬ (16 : Int) < n := by omega
    have n2 : ¬ (n : Int) > 16 := n1
    have hbad : badN D n = true := by
      cases e : badN D n with
      | true => rfl
      | false => exact absurd (ordE_ok (by omega) (by rw [hDn]; exact e)) hE
    have HE := Lib.hid (ordE_bad (D := D) (by omega) (by rw [hDn]; exact hbad))
    obtain ⟨K, hK, h1, h2⟩ := first_bad hbad
    have HW := Lib.hid (fun (W : World) (b : Below w.heap.size w W) => (wrong14 D a n cap K W (h.on b) hn (by omega) h1 (fun _ => h2)))
    rw [idxR_yes hK] at HW
    have k0 : (0 : Int) ≤ (K : Int) := by omega
    have k1 : (K : Int) ≥ 0 := k0
    have B0 := Lib.hid ((Below.refl w.heap.size w).alloc (Nat.le_refl _) (.cells #[.string m.name, .int .i64 m.dir, .slice m.ptr m.len m.cap] 24))
    clear hDn hfull h hE hb hm hbad hK h1 h2
    go_enter Tryz.func10, Tryz.ntmps10
    go_wp2_with (go_at_call 22; ((with_reducible refine (HW.out _ B0.out).mono ?_); rintro e w1 ⟨rfl, b1⟩); have B1 := Lib.hid (thn13 B0.out b1); clear b1)
    go_ret2
    exact ⟨_, [], by rw [HE.out]; rfl, newF_nil _ _, HL.out, B1.out⟩
set_option maxRecDepth 100000 in
set_option maxHeartbeats 32000000 in
theorem order_go (m : Fle) (D : List Fle) (a : Option Addr) (n cap : Nat) (w : World) (hm : FleAt w.heap.size w m) (h : FsAt w a n cap D) (hb : ∀ f ∈ m :: D, f.len ≤ 1000000 ∧ f.name.size ≤ 1000000) (hn : n ≤ 1000) (hE : ordE D = 0) : Calls Tryz.prog 10 #[.agg #[.string m.name, .int .i64 m.dir, .slice m.ptr m.len m.cap], .slice a n cap] w fun e w' =>
    ∃ v L, e = .returned (.tuple #[v, .int .i64 (ordE D)]) ∧ NewF w.heap.size w' v L ∧ L.map Fle.fil = (ordL m D).map Fle.fil ∧ Below w.heap.size w w' := by
  have hDn := h.len
  have hfull : ¬ 16 < n := fun hf => by rw [ordE_full (by omega)] at hE; cases hE
  have hgood : badN D n = false := by
    cases e : badN D n with
    | false => rfl
    | true => rw [ordE_bad (by omega) (by rw [hDn]; exact e)] at hE; cases hE
  rw [hE]
  have n1 : ¬ (16 : Int) < n := by omega
  have n2 : ¬ (n : Int) > 16 := n1
  have HW := Lib.hid (fun (W : World) (b : Below w.heap.size w W) => (wrong14 D a n cap n W (h.on b) hn (Nat.le_refl _) (all_may hgood) (fun h => absurd h (Nat.lt_irrefl _))))
  rw [idxR_no (Nat.lt_irrefl n)] at HW
  have HOM := Lib.hid (fun (W : World) (b : Below w.heap.size w W) => own_c m W (hm.on b) (by have := (hb m List.mem_cons_self).1; omega))
  have HOF := Lib.hid (fun (f : Fle) (hf : f ∈ effL D n) (W : World) (b : Below w.heap.size w W) => own_c f W (by
    obtain ⟨i, hi, e, _⟩ := eff_mem hf
    rw [e]; exact (h.each _ (getD_memF (by omega))).on b) (by
    obtain ⟨i, hi, e, _⟩ := eff_mem hf
    have hk : i < D.length := by omega
    have := (hb _ (List.mem_cons_of_mem _ (getD_memF hk))).1
    rw [e]; omega))
  have HEF := Lib.hid (fun (W : World) (b : Below w.heap.size w W) => (effective14 D a n cap W (h.on b) hn).mono (fun e w' ⟨M, h1, h2, h3, h4⟩ => (⟨W.heap.size, M, h1, Nat.le_refl _, h2, h3, h4⟩ : ∃ bm M, e = Ending.returned (.map (some bm)) ∧ W.heap.size ≤ bm ∧ w'.ownsMap Tryz.prog 9 RV bm n M ∧ MapK M D n ∧ Below W.heap.size W w')))
  have HDN := Lib.hid hDn
  have HEO := Lib.hid hE
  have HEA := Lib.hid (eff_names (D := D) n (by omega))
  have HMF := Lib.hid (show m.name.size ≤ maxLen from hm.nm)
  have B0 := Lib.hid ((Below.refl w.heap.size w).alloc (Nat.le_refl _) (.cells #[.string m.name, .int .i64 m.dir, .slice m.ptr m.len m.cap] 24))
  have HBX := Lib.hid (heap_alloc_new w (.cells #[.string m.name, .int .i64 m.dir, .slice m.ptr m.len m.cap] 24))
  have HNN := Lib.hid hfull
  obtain ⟨i0, hi0, hz0, hz1, hz2⟩ := info_parts fle_info
  have HI := Lib.hid hi0
  have HZ0 := Lib.hid hz0
  have HZ1 := Lib.hid hz1
  have HZ2 := Lib.hid hz2
  clear hDn hfull hgood hE hm h hb hn hi0 hz0 hz1 hz2
  go_enter Tryz.func10, Tryz.ntmps10
  go_wp2_with (first
    | (go_at_call 22
       with_reducible refine (HW.out _ B0.out).mono ?_
       rintro e W1 ⟨rfl, b1⟩
       have xb := (b1.block w.heap.size (by rw [World.size_alloc]; exact Nat.lt_succ_self _)).trans HBX.out
       have x0 := (cell_of_row W1 w.heap.size 0 _ _ (0, 0) xb).trans (show _ = some (Value.string m.name) from rfl)
       have x1 := (cell_of_row W1 w.heap.size 1 _ _ (0, 0) xb).trans (show _ = some (Value.int .i64 m.dir) from rfl)
       have x2 := (cell_of_row W1 w.heap.size 2 _ _ (0, 0) xb).trans (show _ = some (Value.slice m.ptr m.len m.cap) from rfl)
       have B1 := Lib.hid (thn13 B0.out b1)
       clear b1 xb)
    | (go_at_call 23
       with_reducible refine (HOM.out _ B1.out).mono ?_
       rintro e W2 ⟨q, k, rfl, om, b2⟩
       have B2 := Lib.hid (thn13 B1.out b2)
       have OM := Lib.hid (show OwnB w.heap.size W2 ⟨m.name, m.dir, q, m.len, k, m.bytes⟩ from ⟨om.1, own_base14 om.2 B1.out.size⟩)
       have HNEW := Lib.hid (show NewF w.heap.size (W2.alloc (.cells #[.string m.name, .int .i64 m.dir, .slice q m.len k] 24)) (.slice (some ⟨W2.heap.size, 0, none⟩) 1 1) [⟨m.name, m.dir, q, m.len, k, m.bytes⟩] from ⟨own_base14 (own_fresh W2 ⟨m.name, m.dir, q, m.len, k, m.bytes⟩ 24) B2.out.size, fun f hf => by rw [List.mem_singleton.1 hf]; exact ⟨OM.out.1, OM.out.2.alloc _⟩⟩)
       have B3 := Lib.hid (B2.out.alloc B2.out.size (.cells #[.string m.name, .int .i64 m.dir, .slice q m.len k] 24))
       clear om b2 x0 x1 x2)
    | (go_at_call 24
       with_reducible refine (HEF.out _ B3.out).mono ?_
       rintro e W3 ⟨bm, M, rfl, hbm, hown, hmk, b3⟩
       have B4 := Lib.hid (thn13 B3.out b3)
       have HBM := Lib.hid (show w.heap.size ≤ bm from Nat.le_trans B3.out.size hbm)
       have HMK := Lib.hid hmk
       have HOW := Lib.hid hown
       have HN3 := Lib.hid (HNEW.out.on b3)
       clear b3 hbm hown hmk)
    | (at_range
       refine wpList_range_own _ rfl (.tmp 19) 52 rfl 9 24 keyed14 Tryz.underlying52 RV bm n M rfl HOW.out ?_
       intro W4 hrg hg4 hs4
       have HRG := Lib.hid hrg
       have B5 := Lib.hid (B4.out.grown hg4 B4.out.size (fun g e => (by cases e)))
       have HN4 := Lib.hid (HN3.out.on ⟨hg4.os, hg4.tape, hg4.output, hg4.size, fun k hk => hg4.block k hk (by intro e; cases e)⟩)
       have HRS := Lib.hid (show w.heap.size ≤ W3.heap.size from B4.out.size)
       have HCN := Lib.hid (HOW.out.size_le)
       have HST := Lib.hid (GotF.start (E := effL D n) (left := has M) (fun f hf => by
         obtain ⟨i, hi, e, _⟩ := eff_mem hf
         rw [e]; exact HMK.out.all i hi))
       clear hrg hg4 hs4))
  go_frame
  obtain ⟨r, hr⟩ : ∃ r, r = W3.heap.size := ⟨_, rfl⟩
  rw [← hr] at HRG HRS ⊢
  clear hr
  go_loopw [6] (fun v6 wr => ∃ (left : Lit → Bool) (cnt : Nat) (T F : List Fle), Hid (NewF w.heap.size wr v6 (⟨m.name, m.dir, q, m.len, k, m.bytes⟩ :: T)) ∧ Hid (T.map Fle.fil = F.map Fle.fil) ∧ Hid (wr.ranges Tryz.prog 9 RV bm r n M left cnt) ∧ Hid (GotF (effL D n) left F) ∧ Hid (T.length + cnt ≤ n) ∧ Hid (Below w.heap.size w wr)) (fun _ wr => wr.rangeLeft bm r)
  case atStart => exact ⟨_, _, [], [], HN4, Lib.hid rfl, HRG, HST, Lib.hid (by have := HCN.out; simpa using this), B5⟩
  case round =>
    obtain ⟨left, cnt, T, F, HNF, HTF, HRN, HGF, HLN, PB⟩ := hrel
    obtain ⟨V, rfl⟩ : ∃ wo : World, wo = wr := ⟨_, rfl⟩
    clear HRG HST HN4 HN3 HNEW B5 B4 B3 B2 B1 B0 HCN HOW OM
    go_wp2_with (at_next; refine next14 rfl (.tmp 20) rfl bm r n HMK.out HDN.out rfl HRN.out ?_ ?_)
    · intro hl0
      have HPM := Lib.hid (HGF.out.perm HEA.out hl0)
      have HSP := Lib.hid (show ∃ g c, u6 = .slice (some ⟨g, 0, none⟩) (T.length + 1) c ∧ T.length + 1 ≤ c ∧ c ≤ maxLen ∧ ∃ cur, V.heap[g]? = some (.cells cur 24 (0, 0)) from (by
        rcases HNF.out.own.2 with ⟨_, e⟩ | ⟨g, c, cur, hv, _, hh, h1, h2, _⟩
        · rw [List.length_cons] at e; omega
        · exact ⟨g, c, hv, h1, h2, cur, hh⟩))
      obtain ⟨g, c, rfl, hc1, hc2, cur, hcur⟩ := HSP.out
      have HCUR := Lib.hid hcur
      have HFIN := Lib.hid (fun d' hp hs => order_of (m := m) (mm := ⟨m.name, m.dir, q, m.len, k, m.bytes⟩) (D := D) (T := T) (F := F) (d' := d') HEO.out rfl HTF.out (by rw [HDN.out]; exact HPM.out) hp hs)
      have HFI0 := Lib.hid (fun h0 => order_of0 (m := m) (mm := ⟨m.name, m.dir, q, m.len, k, m.bytes⟩) (D := D) (T := T) (F := F) HEO.out rfl HTF.out (by rw [HDN.out]; exact HPM.out) h0)
      have HTN := Lib.hid (show T.length ≤ 16 from by have h1 := HLN.out; have h2 := HNN.out; omega)
      have HS1 := Lib.hid (fun (h0 : 0 < T.length) (c2 : Nat) => sort14 V w.heap.size g c c2 ⟨m.name, m.dir, q, m.len, k, m.bytes⟩ T.toArray (by have := HNF.out.own; rw [List.size_toArray]; exact this) (by rw [List.size_toArray]; have := HTN.out; omega) PB.out.size)
      have HC2 := Lib.hid hc2
      have HC1 := Lib.hid hc1
      obtain ⟨N, hN⟩ : ∃ N, N = T.length := ⟨_, rfl⟩
      have HN0 := Lib.hid hN
      rw [List.size_toArray, ← hN] at HS1
      rw [← hN] at hc1 HTN ⊢
      clear hc2 hcur hN HSP hl0
      by_cases h0 : N = 0
      · subst h0
        by_cases hcc : c = 1
        · subst hcc
          clear hc1
          go_wp2_with (go_at_call 25; ((with_reducible refine (sort14_none _ _ _).mono ?_); rintro e W9 ⟨rfl, rfl⟩))
          go_ret2
          exact ⟨_, _, rfl, by have h9 := HNF.out; rw [← HN0.out] at h9; exact h9, HFI0.out (List.eq_nil_of_length_eq_zero HN0.out.symm), PB.out⟩
        · have c1 : (1 : Int) < (c : Int) := by omega
          clear hc1
          go_wp2_with (go_at_call 25; ((with_reducible refine (sort14_none _ _ _).mono ?_); rintro e W9 ⟨rfl, rfl⟩))
          go_ret2
          exact ⟨_, _, rfl, by have h9 := HNF.out; rw [← HN0.out] at h9; exact h9, HFI0.out (List.eq_nil_of_length_eq_zero HN0.out.symm), PB.out⟩
      · have hc3 : 1 < c := by omega
        have c1 : (1 : Int) < (c : Int) := by omega
        have HSS := Lib.hid (HS1.out (by omega))
        go_wp2_with (go_at_call 25; ((with_reducible refine (HSS.out _).mono ?_); rintro e W9 ⟨rfl, d', hp, hs, ho, hb9, hk9⟩))
        go_ret2
        have hln : d'.size = N := by rw [hp.1, List.size_toArray]; exact HN0.out.symm
        refine ⟨_, ⟨m.name, m.dir, q, m.len, k, m.bytes⟩ :: d'.toList, rfl, ⟨by rw [List.length_cons, Array.length_toList, hln]; exact ho, fun f hf => ?_⟩, HFIN.out d' (by rw [List.size_toArray, ← HN0.out]; exact hp) (by rw [List.size_toArray, ← HN0.out]; exact hs), PB.out.trans hb9⟩
        have hf2 : OwnB w.heap.size V f := HNF.out.each f (by
          rcases List.mem_cons.1 hf with e | e
          · rw [e]; exact List.mem_cons_self
          · exact List.mem_cons_of_mem _ (show f ∈ T from (perm_list (d := T.toArray) (by rw [List.size_toArray, ← HN0.out]; exact hp)).subset e))
        exact ⟨hf2.1, own_apart14 hf2.2 HCUR.out (by decide) hk9⟩
    · intro key fn fd fp fl fc fb V1 cnt1 hmem hlk hrg hlt hg1 hs1 hen
      have HRG1 := Lib.hid hrg
      have HMEM := Lib.hid hmem
      have HLT := Lib.hid hlt
      have HN1 := Lib.hid (HNF.out.iter HRN.out hg1)
      have PB1 := Lib.hid (PB.out.grown hg1 PB.out.size (fun g e => by have e2 : r = g := Option.some.inj e; have := HRS.out; omega))
      have HGS := Lib.hid (HGF.out.step HEA.out hmem hlk trivial)
      have HOC := Lib.hid (HOF.out _ hmem)
      clear hmem hlk hrg hlt hg1 hs1
      go_wp2_with (first
        | (go_at_call 23
           with_reducible refine (HOC.out _ (PB1.out.alloc PB1.out.size _)).mono ?_
           rintro e V2 ⟨q2, k2, rfl, of2, b2⟩
           have PB2 := Lib.hid ((PB1.out.alloc PB1.out.size (.cells #[.string fn, .int .i64 fd, .slice fp fl fc] 24)).trans (b2.mono (PB1.out.alloc PB1.out.size (.cells #[.string fn, .int .i64 fd, .slice fp fl fc] 24)).size))
           have hball : Below V1.heap.size V1 V2 := (ball V1 _).trans (b2.mono (by rw [World.size_alloc]; exact Nat.le_succ _))
           have HN2 := Lib.hid (HN1.out.on hball)
           have HR2 := Lib.hid (ranges_on HRG1.out hball)
           have OF2 := Lib.hid (show OwnB w.heap.size V2 ⟨fn, fd, q2, fl, k2, fb⟩ from ⟨of2.1, own_base14 of2.2 (by rw [World.size_alloc]; exact Nat.le_succ_of_le PB1.out.size)⟩)
           clear of2 b2 hball)
        | (at_builtin
           have hc1 : T.length + 1 + 1 ≤ maxLen := by have h1 := HLN.out; have h2 := HNN.out; unfold maxLen; omega
           have hc2 : (T.length + 1 + 1) * 48 ≤ 140737488355328 := by have h1 := HLN.out; have h2 := HNN.out; omega
           have hc3 : w.heap.size ≤ (V2.alloc (.cells #[.string fn, .int .i64 fd, .slice q2 fl k2] 24)).heap.size := by rw [World.size_alloc]; exact Nat.le_succ_of_le PB2.out.size
           have hc4 : (V2.alloc (.cells #[.string fn, .int .i64 fd, .slice q2 fl k2] 24)).ownsRow w.heap.size 24 3 u6 (T.length + 1) (rowC encF (⟨m.name, m.dir, q, m.len, k, m.bytes⟩ :: T)) := HN2.out.own.alloc _
           refine wpList_app_r rfl (.tmp 25) (.tmp 28) 25 rfl w.heap.size 24 i0 _ 3 48 Tryz.underlying25 HI.out HZ0.out HZ1.out HZ2.out rfl (by omega) u6 (T.length + 1) (rowC encF (⟨m.name, m.dir, q, m.len, k, m.bytes⟩ :: T)) rfl hc4 (some ⟨V2.heap.size, 0, none⟩) 1 1 (encF ⟨fn, fd, q2, fl, k2, fb⟩) rfl rfl (fun _ => ⟨_, rfl, news_row V2 _ _⟩) (encF_one _) hc1 hc2 hc3 ?_
           clear hc1 hc2 hc3 hc4
           intro v3 V3 o3 h3
           have HN3 := Lib.hid (show NewF w.heap.size V3 v3 (⟨m.name, m.dir, q, m.len, k, m.bytes⟩ :: (T ++ [⟨fn, fd, q2, fl, k2, fb⟩])) from newF_snoc HN2.out OF2.out o3 h3)
           have PB3 := Lib.hid ((PB2.out.alloc PB2.out.size _).grown h3 (by rw [World.size_alloc]; exact Nat.le_succ_of_le PB2.out.size) (fun x e => (HN2.out.own.lt x e).1))
           have HR3 := Lib.hid ((HR2.out.alloc _).kept h3 (row_iter HR2.out HN2.out.own).1 (row_iter HR2.out HN2.out.own).2)
           clear o3 h3))
      go_roundw
      case rel => exact ⟨_, cnt1, T ++ [⟨fn, fd, q2, fl, k2, fb⟩], F ++ [⟨fn, fd, fp, fl, fc, fb⟩], HN3, Lib.hid (by rw [List.map_append, List.map_append, HTF.out]; rfl), HR3, HGS, Lib.hid (by have h1 := HLN.out; have h2 := HLT.out; rw [List.length_append, List.length_singleton]; omega), PB3⟩
      case measure => rw [HR3.out.left_eq, HRN.out.left_eq]; exact HLT.out
theorem order14 (m : Fle) (D : List Fle) (a : Option Addr) (n cap : Nat) (w : World) (hm : FleAt w.heap.size w m) (h : FsAt w a n cap D) (hb : ∀ f ∈ m :: D, f.len ≤ 1000000 ∧ f.name.size ≤ 1000000) (hn : n ≤ 1000) : Calls Tryz.prog 10 #[.agg #[.string m.name, .int .i64 m.dir, .slice m.ptr m.len m.cap], .slice a n cap] w fun e w' =>
    ∃ v L, e = .returned (.tuple #[v, .int .i64 (ordE D)]) ∧ NewF w.heap.size w' v L ∧ L.map Fle.fil = (ordL m D).map Fle.fil ∧ Below w.heap.size w w' := by
  by_cases hE : ordE D = 0
  · exact order_go m D a n cap w hm h hb hn hE
  · exact order_bad m D a n cap w hm h hb hn hE
end Go.Proofs.YtgigdhincpcdbaaGreatDoor
