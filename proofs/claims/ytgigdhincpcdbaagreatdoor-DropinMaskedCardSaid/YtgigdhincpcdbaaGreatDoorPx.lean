/- The statement DropinAny holds, over what the calls have to return: drop-ins of unlike names come to the same in whatever order. -/
import Derived.Test.YtgigdhincpcdbaaGreatDoorPk
import Derived.Test.YtgigdhincpcdbaaGreatDoorRf
import Derived.Deep.DeepCutAuto
namespace Go.Proofs.YtgigdhincpcdbaaGreatDoor
open Go.RowKit
set_option linter.unusedVariables false

theorem bad_of {D : List Fle} : ∀ {n : Nat}, (∀ j, j < n → mayL (D.getD j f0).name.data.toList = true) → badN D n = false
  | 0, _ => rfl
  | n + 1, h => by
    show (badN D n || !mayL (D.getD n f0).name.data.toList) = false
    rw [bad_of (n := n) (fun j hj => h j (by omega)), h n (Nat.lt_succ_self _)]; rfl
theorem may_mem {D : List Fle} (h : ∀ j, j < D.length → mayL (D.getD j f0).name.data.toList = true) {f : Fle} (hf : f ∈ D) : mayL f.name.data.toList = true := by
  obtain ⟨j, hj, e⟩ := List.mem_iff_getElem.1 hf
  have := h j hj
  rwa [List.getD_eq_getElem?_getD, List.getElem?_eq_getElem hj, Option.getD_some, e] at this
/-- Drop-ins of unlike names that may be come to the same in whatever order. -/
theorem any_same {m : Fle} {D D' : List Fle} (hp : D.Perm D') (ha : Apart14 D) (hg : ∀ j, j < D.length → mayL (D.getD j f0).name.data.toList = true) : mrgA m D' = mrgA m D ∧ mrgN m D' = mrgN m D := by
  have hl := hp.length_eq
  have ha' : Apart14 D' := (hp.pairwise_iff fun {a b} hab => Ne.symm hab).1 ha
  have hg' : ∀ j, j < D'.length → mayL (D'.getD j f0).name.data.toList = true := fun j hj => may_mem hg (hp.mem_iff.2 (getD_memF hj))
  by_cases h16 : 16 < D.length
  · have e1 := ordE_full h16
    have e2 := ordE_full (D := D') (by omega)
    have n1 : mrgN m D = [⟨m.name, 0, 4, ⟨#[]⟩⟩] := by unfold mrgN; rw [e1]; rfl
    have n2 : mrgN m D' = [⟨m.name, 0, 4, ⟨#[]⟩⟩] := by unfold mrgN; rw [e2]; rfl
    have a1 : mrgA m D = [] := by unfold mrgA; rw [e1, if_neg (fun h => by cases h.1)]
    have a2 : mrgA m D' = [] := by unfold mrgA; rw [e2, if_neg (fun h => by cases h.1)]
    exact ⟨a2.trans a1.symm, n2.trans n1.symm⟩
  · have e1 := ordE_ok h16 (bad_of hg)
    have e2 := ordE_ok (D := D') (by omega) (bad_of hg')
    have eo : ordL m D' = ordL m D := (ordL_any ha ha' hp e1 e2).symm
    have en : mrgN m D' = mrgN m D := by unfold mrgN; rw [e1, e2, eo]; rfl
    exact ⟨by unfold mrgA; rw [e1, e2, eo, en], en⟩
theorem rows_drop {w : World} {g o n cap K : Nat} {D : List Fle} (hn : D.length = n) (h : RowsAt 3 encF w (.slice (some ⟨g, o, none⟩) n cap) D) (hK : K ≤ n) (c : Nat) : RowsAt 3 encF w (.slice (some ⟨g, o + K * 3, none⟩) (n - K) c) (D.drop K) := by
  obtain ⟨q, c', e, hr⟩ := h
  refine ⟨some ⟨g, o + K * 3, none⟩, c, by rw [List.length_drop, hn], fun k p hk => ?_⟩
  rw [List.getElem?_drop] at hk
  obtain ⟨g', o', hq, hc⟩ := hr (K + k) p hk
  injection e with e1 _ _
  rw [hq] at e1
  injection e1 with e1
  injection e1 with e2 e3 _
  refine ⟨g, o + K * 3, rfl, fun j u hu => ?_⟩
  have := hc j u hu
  rw [← e2, ← e3, Nat.add_mul, ← Nat.add_assoc] at this
  exact this
theorem fs_own {w : World} {B : Nat} {v : Value} {L : List Fle} (h : w.ownsRow B 24 3 v L.length (rowC encF L)) (he : ∀ f ∈ L, FleAt w.heap.size w f) : ∃ q c, v = .slice q L.length c ∧ FsAt w q L.length c L := by
  rcases h.2 with ⟨rfl, e⟩ | ⟨g, cap, cur, rfl, hg, hh, hc, hm, hs, ht⟩
  · refine ⟨none, 0, by rw [e], rfl, by omega, Nat.zero_le _, fun _ => rfl, ?_, he⟩
    have := rows_own encF_len h
    rwa [e] at *
  · exact ⟨_, _, rfl, rfl, hc, hm, fun h => (by cases h), rows_own encF_len h, he⟩
theorem rows_take {w : World} {g o n cap K : Nat} {D : List Fle} (hn : D.length = n) (h : RowsAt 3 encF w (.slice (some ⟨g, o, none⟩) n cap) D) (hK : K ≤ n) (c : Nat) : RowsAt 3 encF w (.slice (some ⟨g, o, none⟩) K c) (D.take K) := by
  obtain ⟨q, c', e, hr⟩ := h
  refine ⟨some ⟨g, o, none⟩, c, by rw [List.length_take, hn, Nat.min_eq_left hK], fun k p hk => ?_⟩
  have hk2 : D[k]? = some p := by
    rw [List.getElem?_take] at hk
    split at hk
    · exact hk
    · cases hk
  obtain ⟨g', o', hq, hc⟩ := hr k p hk2
  injection e with e1 _ _
  exact ⟨g', o', by rw [e1, hq], hc⟩
end Go.Proofs.YtgigdhincpcdbaaGreatDoor
namespace Go.Proofs.YtgigdhincpcdbaaGreatDoor.dropinAny
open Go.RowKit
set_option linter.unusedVariables false
set_option linter.unusedSimpArgs false
attribute [local go_sem ↓] Go.wp_at_zero Go.wp_at_succ
set_option maxRecDepth 100000 in
set_option maxHeartbeats 64000000 in
theorem walk {G : World → Prop} (HC : DropinC G) (HAW : AwakeC14 G) (m : Fle) (D : List Fle) (a : Option Addr) (n cap : Nat) (at_ : Int) (w : World) (hG : G w) (hm : FleAt w.heap.size w m) (h : FsAt w a n cap D) :
    Calls Tryz.prog 5 #[.agg #[.string m.name, .int .i64 m.dir, .slice m.ptr m.len m.cap], .slice a n cap, .int .i64 at_] w fun e w' => e = .returned (.bool true) ∧ Below w.heap.size w w' := by
  have HON := Lib.hid (fun (w w' : World) => HC.on (w := w) (w' := w'))
  have HG := Lib.hid hG
  have HGT := Lib.hid (fun (W : World) (b : Below w.heap.size w W) => great14 m D a n cap W (h.on b))
  have HW := Lib.hid HAW
  have B0 := Lib.hid ((Below.refl w.heap.size w).alloc (Nat.le_refl _) (.cells #[.string m.name, .int .i64 m.dir, .slice m.ptr m.len m.cap] 24))
  have HBX := Lib.hid (heap_alloc_new w (.cells #[.string m.name, .int .i64 m.dir, .slice m.ptr m.len m.cap] 24))
  by_cases hn0 : n = 0
  · subst hn0
    clear HC HAW hG hm h
    go_enter Tryz.func5, Tryz.ntmps5
    go_upto_if 23 with (first
      | (go_at_call 8
         with_reducible refine (HGT.out _ B0.out).mono ?_
         rintro e W1 ⟨b, rfl, hs, b1⟩
         have B1 := Lib.hid (B0.out.trans (b1.mono B0.out.size))
         clear b1 hs))
    all_goals
      first
        | (go_wp2_with (go_at_call 15; ((with_reducible refine (HW.out _ (HON.out _ _ HG.out B1.out)).mono ?_); rintro e Z ⟨rfl, bz⟩); have BZ := Lib.hid (thn13 B1.out bz); clear bz)
           go_ret
           exact ⟨rfl, BZ.out⟩)
        | (cases b <;>
           (go_wp2_with (go_at_call 15; ((with_reducible refine (HW.out _ (HON.out _ _ HG.out B1.out)).mono ?_); rintro e Z ⟨rfl, bz⟩); have BZ := Lib.hid (thn13 B1.out bz); clear bz)
            go_ret
            exact ⟨rfl, BZ.out⟩))
  have HH := Lib.hid h
  have HM := Lib.hid hm
  have HME := Lib.hid (fun (L : List Fle) (a : Option Addr) (n cap : Nat) (W : World) (g : G W) (f1 : FleAt W.heap.size W m) (f2 : FsAt W a n cap L) (hb : ∀ f ∈ m :: L, f.len ≤ 1000000 ∧ f.name.size ≤ 1000000) (hn : n ≤ 1000) => HC.merge m L a n cap W g f1 f2 hb hn)
  have HLA := Lib.hid (Nat.le_trans (mrgA_len m D) (show 17000 ≤ 1000000 by decide))
  have HLA2 := Lib.hid (Nat.le_trans (mrgN_len m D) (show 17000 ≤ 1000000 by decide))
  have HDN := Lib.hid h.len
  obtain ⟨g, o, hbase, hcells⟩ := h.base
  obtain rfl := hbase (by omega)
  have HCL := Lib.hid (fun (W : World) (b : Below w.heap.size w W) k (hk : k < n) => (show W.cell? ⟨g, o + k * 3, none⟩ = some (.string (D.getD k f0).name) from (b.cell (World.block_lt_of_cell? w _ (hcells k hk).1)).trans (hcells k hk).1))
  have HMY := Lib.hid (fun k (hk : k < n) (hs : (D.getD k f0).name.size ≤ 4294967280) (W : World) (g : G W) => HC.may (D.getD k f0).name W g hs)
  have HAP := Lib.hid (fun (hh : ∀ i, i < n → ∀ k, k < i → (D.getD i f0).name.toList ≠ (D.getD k f0).name.toList) => show Apart14 D from (by
    rw [Apart14, List.pairwise_iff_getElem]
    intro i j hi hj hij e
    have h1 := hh j (by rw [← h.len]; exact hj) i hij
    rw [List.getD_eq_getElem?_getD, List.getD_eq_getElem?_getD, List.getElem?_eq_getElem hi, List.getElem?_eq_getElem hj] at h1
    exact h1 e.symm))
  have n0 : ¬ (n : Int) = 0 := by omega
  have n1 : ((n : Int) == 0) = false := by rw [beq_eq_false_iff_ne]; exact n0
  have HN0 := Lib.hid hn0
  clear HC HAW hG hm h hn0 hbase hcells
  go_enter Tryz.func5, Tryz.ntmps5
  go_upto_if 23 with (first
    | (go_at_call 8
       with_reducible refine (HGT.out _ B0.out).mono ?_
       rintro e W1 ⟨b, rfl, hs, b1⟩
       have HS := Lib.hid hs
       have B1 := Lib.hid (B0.out.trans (b1.mono B0.out.size))
       have HB1 := Lib.hid b1
       clear b1 hs))
  · go_wp2_with (go_at_call 15; ((with_reducible refine (HW.out _ (HON.out _ _ HG.out B1.out)).mono ?_); rintro e Z ⟨rfl, bz⟩); have BZ := Lib.hid (thn13 B1.out bz); clear bz)
    go_ret
    exact ⟨rfl, BZ.out⟩
  · rename_i hb
    obtain rfl : b = false := by cases b with | true => exact absurd rfl hb | false => rfl
    clear hb
    have HSM := Lib.hid (HS.out rfl)
    have HN20 := Lib.hid (HSM.out.1)
    clear HS HGT
    go_wp2_with fail
    go_loopw [7] (fun v7 wr => ∃ i : Nat, i ≤ n ∧ v7 = .int .i64 i ∧ Hid (∀ i', i' < i → ∀ k, k < i' → (D.getD i' f0).name.toList ≠ (D.getD k f0).name.toList) ∧ Hid (Below W1.heap.size W1 wr)) (fun v7 _ => n - (intOf v7).toNat)
    case atStart => exact ⟨0, Nat.zero_le _, rfl, Lib.hid (fun i' h => absurd h (Nat.not_lt_zero _)), Lib.hid (Below.refl _ _)⟩
    case round =>
      obtain ⟨i, hi, rfl, HI, PB⟩ := hrel
      obtain ⟨V, rfl⟩ : ∃ wo : World, wo = wr := ⟨_, rfl⟩
      by_cases hit : i < n
      · have i1 : (i : Int) < n := by omega
        have i0 : (0 : Int) ≤ i := by omega
        have hw1 : IntKind.i64.wrap ((i : Int) + 1) = i + 1 := by have := HN20.out; rw [IntKind.wrap_i64]; omega
        go_wp2_with fail
        go_loopw [8] (fun v8 wr => ∃ k : Nat, k ≤ i ∧ v8 = .int .i64 k ∧ Hid (∀ k', k' < k → (D.getD i f0).name.toList ≠ (D.getD k' f0).name.toList) ∧ Hid (Below W1.heap.size W1 wr)) (fun v8 _ => i - (intOf v8).toNat)
        case atStart => exact ⟨0, Nat.zero_le _, rfl, Lib.hid (fun k' h => absurd h (Nat.not_lt_zero _)), PB⟩
        case round =>
          clear PB
          obtain ⟨k, hk, rfl, HK, PB⟩ := hrel
          obtain ⟨U, rfl⟩ : ∃ wo : World, wo = wr := ⟨_, rfl⟩
          by_cases hkt : k < i
          · have k1 : (k : Int) < i := by omega
            have k0 : (0 : Int) ≤ k := by omega
            have k2 : (k : Int) < n := by omega
            have hw2 : IntKind.i64.wrap ((k : Int) + 1) = k + 1 := by have := HN20.out; rw [IntKind.wrap_i64]; omega
            have c0 := HCL.out U (thn13 B1.out PB.out) i hit
            have d0 := HCL.out U (thn13 B1.out PB.out) k (by omega)
            have HNE := Lib.hid (fun (hne : (D.getD i f0).name.toList ≠ (D.getD k f0).name.toList) => show ∀ k', k' < k + 1 → (D.getD i f0).name.toList ≠ (D.getD k' f0).name.toList from fun k' h => by
              by_cases e : k' = k
              · subst e; exact hne
              · exact HK.out k' (by omega))
            obtain ⟨x, hx⟩ : ∃ x, x = (D.getD i f0).name := ⟨_, rfl⟩
            obtain ⟨y, hy⟩ : ∃ y, y = (D.getD k f0).name := ⟨_, rfl⟩
            rw [← hx] at c0 HNE
            rw [← hy] at d0 HNE
            have PX := Lib.hid (And.intro hx hy)
            clear hx hy
            cases he : (x.toList == y.toList) with
            | true =>
              go_wp2_with fail
              go_quiet (fail)
              go_wp2_with (go_at_call 15; ((with_reducible refine (HW.out _ (HON.out _ _ HG.out (thn13 B1.out (Go.below_drewN PB.out _)))).mono ?_); rintro e Z ⟨rfl, bz⟩); have BZ := Lib.hid (thn13 (thn13 B1.out (Go.below_drewN PB.out _)) bz); clear bz)
              go_ret
              exact ⟨rfl, BZ.out⟩
            | false =>
              have HNX := Lib.hid (HNE.out (beq_eq_false_iff_ne.1 he))
              go_wp2_with fail
              go_quiet (fail)
              go_wp2_with fail
              go_roundw
              case rel => exact ⟨k + 1, by omega, by go_num, Lib.hid (by rw [PX.out.1] at HNX; exact HNX.out), Lib.hid (Go.below_drewN PB.out _)⟩
              case measure => simp [intOf]; omega
          · obtain rfl : k = i := by omega
            have k1 : ¬ (k : Int) < k := by omega
            go_wp2_with fail
            go_roundw
            case rel => exact ⟨k + 1, by omega, by go_num, Lib.hid (fun i' h k' hk' => by
              by_cases e : i' = k
              · subst e; exact HK.out k' hk'
              · exact HI.out i' (by omega) k' hk'), PB⟩
            case measure => simp [intOf]; omega
      · obtain rfl : i = n := by omega
        have i1 : ¬ (i : Int) < i := by omega
        have HA := Lib.hid (HAP.out HI.out)
        clear HI HAP
        go_wp2_with fail
        go_loopw [9] (fun v9 wr => ∃ k : Nat, k ≤ i ∧ v9 = .int .i64 k ∧ Hid (∀ j, j < k → mayL (D.getD j f0).name.data.toList = true) ∧ Hid (Below W1.heap.size W1 wr)) (fun v9 _ => i - (intOf v9).toNat)
        case atStart => exact ⟨0, Nat.zero_le _, rfl, Lib.hid (fun j h => absurd h (Nat.not_lt_zero _)), PB⟩
        case round =>
          clear PB
          obtain ⟨k, hk, rfl, HK, PB⟩ := hrel
          obtain ⟨U, rfl⟩ : ∃ wo : World, wo = wr := ⟨_, rfl⟩
          by_cases hkt : k < i
          · have k1 : (k : Int) < i := by omega
            have k0 : (0 : Int) ≤ k := by omega
            have hw2 : IntKind.i64.wrap ((k : Int) + 1) = k + 1 := by have := HN20.out; rw [IntKind.wrap_i64]; omega
            have c0 := HCL.out U (thn13 B1.out PB.out) k hkt
            have HY := Lib.hid (HMY.out k hkt (by have := (HSM.out.2 _ (List.mem_cons_of_mem _ (getD_memF (by rw [HDN.out]; exact hkt)))).2; omega) U (HON.out _ _ HG.out (thn13 B1.out PB.out)))
            have HNE := Lib.hid (fun (hy : mayL (D.getD k f0).name.data.toList = true) => show ∀ j, j < k + 1 → mayL (D.getD j f0).name.data.toList = true from fun j h => by
              by_cases e : j = k
              · subst e; exact hy
              · exact HK.out j (by omega))
            obtain ⟨x, hx⟩ : ∃ x, x = (D.getD k f0).name := ⟨_, rfl⟩
            rw [← hx] at c0 HY HNE
            clear hx
            cases he : mayL x.data.toList with
            | false =>
              rw [he] at HY
              clear HNE
              go_wp2_with (first
                | (go_at_call 13; ((with_reducible refine (HY.out).mono ?_); rintro e U2 ⟨rfl, b2⟩); have B2 := Lib.hid (thn13 (thn13 B1.out PB.out) b2); clear b2)
                | (go_at_call 15; ((with_reducible refine (HW.out _ (HON.out _ _ HG.out B2.out)).mono ?_); rintro e Z ⟨rfl, bz⟩); have BZ := Lib.hid (thn13 B2.out bz); clear bz))
              go_ret
              exact ⟨rfl, BZ.out⟩
            | true =>
              have HNX := Lib.hid (HNE.out he)
              rw [he] at HY
              clear HNE he
              go_wp2_with (go_at_call 13; ((with_reducible refine (HY.out).mono ?_); rintro e U2 ⟨rfl, b2⟩); have B2 := Lib.hid (thn13 PB.out b2); clear b2)
              go_roundw
              case rel => exact ⟨k + 1, by omega, by go_num, HNX, B2⟩
              case measure => simp [intOf]; omega
          · obtain rfl : k = i := by omega
            have k1 : ¬ (k : Int) < k := by omega
            have HG2 := Lib.hid HK.out
            have hk20 := HN20.out
            have hk0 := HN0.out
            have wk : IntKind.u64.wrap (k : Int) = k := by simp [IntKind.wrap, IntKind.bits, IntKind.signed]; omega
            obtain ⟨x, hx⟩ : ∃ x : Int, IntKind.u64.wrap at_ = x := ⟨_, rfl⟩
            have hx0 : 0 ≤ x := by rw [← hx]; simp [IntKind.wrap, IntKind.bits, IntKind.signed]; omega
            obtain ⟨K, hK⟩ : ∃ K : Nat, x % (k : Int) = (K : Int) := ⟨(x % (k : Int)).toNat, by have := Int.emod_nonneg x n0; omega⟩
            have hKk : K < k := by have := Int.emod_lt_of_pos x (show (0 : Int) < k by omega); omega
            have hK2 : x.tmod (k : Int) = (K : Int) := by rw [Int.tmod_eq_emod_of_nonneg hx0]; exact hK
            have wK : IntKind.i64.wrap (K : Int) = K := by rw [IntKind.wrap_i64]; omega
            have wK2 : IntKind.u64.wrap (K : Int) = K := by simp [IntKind.wrap, IntKind.bits, IntKind.signed]; omega
            have HFIT := Lib.hid (HH.out.fit)
            have K1 : (K : Int) ≤ k := by omega
            have K3 : (K : Int) < cap := by have := HFIT.out; omega
            have K4 : (0 : Int) ≤ K := by omega
            have K5 : (K : Int) ≤ cap := by omega
            have K6 : ¬ cap = K := by omega
            have HKK := Lib.hid (show K ≤ k ∧ k ≤ 20 from ⟨by omega, hk20⟩)
            have HX := Lib.hid (And.intro hx hx0)
            have HKM := Lib.hid (And.intro hK hK2)
            obtain ⟨i0, hi0, hz0, hz1, hz2⟩ := info_parts fle_info
            have HI := Lib.hid hi0
            have HZ0 := Lib.hid hz0
            have HZ1 := Lib.hid hz1
            have HZ2 := Lib.hid hz2
            have HAS := Lib.hid (any_same (m := m) (D := D) (D' := D.drop K ++ D.take K) (List.perm_append_comm.trans (by rw [List.take_append_drop])).symm HA.out (fun j hj => HG2.out j (by rw [← HDN.out]; exact hj)))
            have OL := Lib.hid (World.ownsRow_lit (base := U.heap.size) (e := 24) (size := 3) U #[] 0 (Nat.le_refl _) (Nat.zero_le _) rfl)
            have BA := Lib.hid (((PB.out.alloc PB.out.size (.cells #[] 24)).drew))
            have HRW := Lib.hid (fun (W : World) (b : Below W1.heap.size W1 W) => (HH.out.rows.on (thn13 B1.out b)))
            have RN1 := Lib.hid (rows_news encF_len (by omega) (rows_drop HDN.out (HRW.out _ BA.out) HKK.out.1 (cap - K)))
            clear hk20 hk0 hi0 hz0 hz1 hz2 hKk
            go_upto_region 17 with (fail)
            clear wk wK wK2 hx hx0 hK hK2
            go_region_held3 (fun _ => True) (trivial)
              (first
                | ((refine step_app_r (by rfl) (.tmp 69) (.tmp 72) 25 (by rfl) U.heap.size 24 i0 _ 3 48 Tryz.underlying25 HI.out HZ0.out HZ1.out HZ2.out rfl (by omega) (.slice (some ⟨U.heap.size, 0, none⟩) 0 0) 0 [] (by rfl) OL.out.drew (some ⟨g, o + K * 3, none⟩) (k - K) (cap - K) (rowC encF (D.drop K)) (by rfl) RN1.out.1 RN1.out.2 (rowC_oneCell encF_one _) (by have := HKK.out; unfold maxLen; omega) (by have := HKK.out; omega) (by show U.heap.size ≤ (U.alloc _).heap.size; rw [World.size_alloc]; exact Nat.le_succ _) ?_); intro v1 w1 o1 h1; rw [Nat.zero_add, List.nil_append] at o1; have C1 := Lib.hid (BA.out.grown h1 (by show W1.heap.size ≤ (U.alloc _).heap.size; rw [World.size_alloc]; exact Nat.le_succ_of_le PB.out.size) (fun x e => by have e2 : U.heap.size = x := Option.some.inj e; have := PB.out.size; omega)); have O1 := Lib.hid o1; have RN2 := Lib.hid (rows_news encF_len (by omega) (rows_take HDN.out (HRW.out _ C1.out) HKK.out.1 cap)); have HU1 := Lib.hid (show U.heap.size ≤ w1.heap.size from Nat.le_trans (by show U.heap.size ≤ (U.alloc _).heap.size; rw [World.size_alloc]; exact Nat.le_succ _) h1.size); clear o1 h1)
                | ((refine step_app_r (by rfl) (.tmp 73) (.tmp 76) 25 (by rfl) U.heap.size 24 i0 _ 3 48 Tryz.underlying25 HI.out HZ0.out HZ1.out HZ2.out rfl (by omega) v1 (k - K) (rowC encF (D.drop K)) (by rfl) O1.out (some ⟨g, o, none⟩) K cap (rowC encF (D.take K)) (by rfl) RN2.out.1 RN2.out.2 (rowC_oneCell encF_one _) (by have := HKK.out; unfold maxLen; omega) (by have := HKK.out; omega) HU1.out ?_); intro v2 w2 o2 h2; have C2 := Lib.hid (C1.out.grown h2 C1.out.size (fun x e => Nat.le_trans PB.out.size (O1.out.lt x e).1)); have O2 := Lib.hid o2; clear o2 h2))
            obtain ⟨D', hD'⟩ : ∃ D', D' = D.drop K ++ D.take K := ⟨_, rfl⟩
            rw [← hD'] at HAS
            have HO3 := Lib.hid (show w2.ownsRow U.heap.size 24 3 v2 D'.length (rowC encF D') from (by
              have h1 := O2.out
              have h2 := HKK.out.1
              have h3 : D'.length = k - K + K := by rw [hD', List.length_append, List.length_drop, List.length_take, HDN.out]; omega
              rw [h3, hD', rowC_app]; exact h1))
            have HMD := Lib.hid (show ∀ f, f ∈ D' → f ∈ D from fun f hf => by
              rw [hD'] at hf
              rcases List.mem_append.1 hf with e | e
              · exact List.mem_of_mem_drop e
              · exact List.mem_of_mem_take e)
            have HDL := Lib.hid (show D'.length = k by rw [hD', List.length_append, List.length_drop, List.length_take, HDN.out]; have := HKK.out.1; omega)
            have B2 := Lib.hid (thn13 B1.out C2.out)
            have HB2 := Lib.hid (thn13 HB1.out C2.out)
            obtain ⟨q2, c2, hv2, fs2⟩ := fs_own HO3.out (fun f hf => (HH.out.each f (HMD.out f hf)).on B2.out)
            subst hv2
            have FS2 := Lib.hid fs2
            rw [HDL.out] at FS2 ⊢
            have HSB := Lib.hid (show ∀ f ∈ m :: D, f.len ≤ 1000000 ∧ f.name.size ≤ 1000000 from fun f hf => by have := HSM.out.2 f hf; exact ⟨by have := this.1; omega, by have := this.2; omega⟩)
            have HSB2 := Lib.hid (show ∀ f ∈ m :: D', f.len ≤ 1000000 ∧ f.name.size ≤ 1000000 from fun f hf => by
              rcases List.mem_cons.1 hf with e | e
              · rw [e]; exact HSB.out m List.mem_cons_self
              · exact HSB.out f (List.mem_cons_of_mem _ (HMD.out f e)))
            have HK1000 := Lib.hid (show k ≤ 1000 from by have := HKK.out.2; omega)
            clear hD' fs2
            have xb := (HB2.out.block w.heap.size (by rw [World.size_alloc]; exact Nat.lt_succ_self _)).trans HBX.out
            have x0 := (cell_of_row w2 w.heap.size 0 _ _ (0, 0) xb).trans (show _ = some (Value.string m.name) from rfl)
            have x1 := (cell_of_row w2 w.heap.size 1 _ _ (0, 0) xb).trans (show _ = some (Value.int .i64 m.dir) from rfl)
            have x2 := (cell_of_row w2 w.heap.size 2 _ _ (0, 0) xb).trans (show _ = some (Value.slice m.ptr m.len m.cap) from rfl)
            clear xb
            go_wp2_with (first
              | (go_at_call 16
                 with_reducible refine (HME.out D (some ⟨g, o, none⟩) k cap _ (HON.out _ _ HG.out B2.out) (HM.out.on B2.out) (HH.out.on B2.out) HSB.out HK1000.out).mono ?_
                 rintro e W3 ⟨va, vn, rfl, ra, rn, b3⟩
                 have RA := Lib.hid ra
                 have RN := Lib.hid rn
                 have B3 := Lib.hid (thn13 B2.out b3)
                 have HB3 := Lib.hid (thn13 HB2.out b3)
                 have FS3 := Lib.hid (FS2.out.on b3)
                 have xb := (HB3.out.block w.heap.size (by rw [World.size_alloc]; exact Nat.lt_succ_self _)).trans HBX.out
                 have x0 := (cell_of_row W3 w.heap.size 0 _ _ (0, 0) xb).trans (show _ = some (Value.string m.name) from rfl)
                 have x1 := (cell_of_row W3 w.heap.size 1 _ _ (0, 0) xb).trans (show _ = some (Value.int .i64 m.dir) from rfl)
                 have x2 := (cell_of_row W3 w.heap.size 2 _ _ (0, 0) xb).trans (show _ = some (Value.slice m.ptr m.len m.cap) from rfl)
                 clear xb
                 clear b3 ra rn)
              | (go_at_call 16
                 with_reducible refine (HME.out D' q2 k c2 _ (HON.out _ _ HG.out B3.out) (HM.out.on B3.out) FS3.out HSB2.out HK1000.out).mono ?_
                 rintro e W4 ⟨ua, un, rfl, ra, rn, b4⟩
                 rw [HAS.out.1] at ra
                 rw [HAS.out.2] at rn
                 have UA := Lib.hid ra
                 have UN := Lib.hid rn
                 have RA4 := Lib.hid (RA.out.on b4)
                 have RN4 := Lib.hid (RN.out.on b4)
                 have B4 := Lib.hid (thn13 B3.out b4)
                 clear b4 ra rn)
              | (go_at_call 18
                 with_reducible refine (sameA14 _ _ _ _ RA4.out UA.out HLA.out).mono ?_
                 rintro e W5 ⟨rfl, b5⟩
                 have RN5 := Lib.hid (RN4.out.on b5)
                 have UN5 := Lib.hid (UN.out.on b5)
                 have B5 := Lib.hid (thn13 B4.out b5)
                 clear b5)
              | (go_at_call 19
                 with_reducible refine (sameN_yes _ _ _ _ RN5.out UN5.out HLA2.out).mono ?_
                 rintro e W6 ⟨rfl, b6⟩
                 have B6 := Lib.hid (thn13 B5.out b6)
                 clear b6)
              | (go_at_call 15
                 with_reducible refine (HW.out _ (HON.out _ _ HG.out B6.out)).mono ?_
                 rintro e W7 ⟨rfl, b7⟩
                 have B7 := Lib.hid (thn13 B6.out b7)
                 clear b7))
            go_ret
            exact ⟨rfl, B7.out⟩
end Go.Proofs.YtgigdhincpcdbaaGreatDoor.dropinAny
