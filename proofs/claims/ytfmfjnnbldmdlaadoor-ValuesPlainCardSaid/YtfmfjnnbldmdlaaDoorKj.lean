/- The statement ValuesPlain holds, over what the calls have to return: words hold no white space and are not empty; put together with white space between they have the same words. -/
import Derived.Test.YtfmfjnnbldmdlaaDoorRows
import Derived.Test.YtfmfjnnbldmdlaaDoorCards
import Derived.Test.YtfmfjnnbldmdlaaDoorTie
import Derived.SevenTiedAt
import Derived.Test.YtfmfjnnbldmdlaaDoorFr
import Derived.Test.YtfmfjnnbldmdlaaDoorKy
import Derived.Test.YtfmfjnnbldmdlaaDoorKh
import Derived.BigQuiet
import Derived.Deep.QuietTactic
namespace Go.Proofs.YtfmfjnnbldmdlaaDoor.valuesPlain
open Go.ChangeShapes Go.WideShapes Go.ChangeAt Go.RowKit
open Go.ChangeMaps (open_string shut_string)
set_option linter.unusedVariables false
attribute [local go_sem ↓] Go.wp_at_zero Go.wp_at_succ
theorem glue_take {L : List (List UInt8)} {k : Nat} {p : List UInt8} (h : L[k]? = some p) : glueL (L.take (k + 1)) = glueL (L.take k) ++ (32 :: 9 :: (p ++ [13])) := by
  rw [List.take_add_one, h]
  show glueL (L.take k ++ [p]) = _
  rw [glue_app]; rfl
theorem glue_take_le (L : List (List UInt8)) (k : Nat) : (glueL (L.take k)).length ≤ (glueL L).length := by
  conv => rhs; rw [← List.take_append_drop k L, glue_app, List.length_append]
  omega
set_option maxRecDepth 100000 in
set_option maxHeartbeats 16000000 in
theorem walk {G : World → Prop} (HC : ValuesC G) (a0 : ByteArray) (w : World) (hG : G w) (w0 : a0.size ≤ maxLen) :
    Calls Tryd.prog 6 #[.string a0] w fun e w' => e = .returned (.bool true) ∧ Below w.heap.size w w' := by
  have HON := Lib.hid (fun (w w' : World) => HC.on (w := w) (w' := w'))
  have HG := Lib.hid hG
  have HA := Lib.hid (fun (W : World) (g : G W) => awake15_any HC W g)
  by_cases hlong : (2000 : Int) < a0.size
  · clear HC hG w0
    go_enter Tryd.func6, Tryd.ntmps6
    go_wp2_with (go_at_call 13; ((with_reducible refine (HA.out _ HG.out).mono ?_); rintro e v7 ⟨rfl, b7⟩))
    go_ret
    exact ⟨rfl, b7⟩
  have hs : (a0.size : Int) ≤ 2000 := by omega
  have hsl : a0.data.toList.length = a0.size := by simp
  have HW := Lib.hid (fun (W : World) (g : G W) => HC.words a0 W g (by omega))
  have hl2 : (wdL a0.data.toList).length ≤ 2000 := by have := wdL_len a0.data.toList; omega
  have hgl : (glueL (wdL a0.data.toList)).length ≤ 8000 := by rw [glue_len]; have := wdL_sum a0.data.toList; omega
  have HOK := Lib.hid (fun x (h : x ∈ wdL a0.data.toList) => wdL_ok h)
  have HGW := Lib.hid (glue_words (wdL a0.data.toList) (fun x h => wdL_ok h))
  obtain ⟨L, hL⟩ : ∃ L, L = wdL a0.data.toList := ⟨_, rfl⟩
  rw [← hL] at HW hl2 hgl HOK HGW
  have HGL := Lib.hid (fun k => Nat.le_trans (glue_take_le L k) hgl)
  have HW2 := Lib.hid (fun (z : ByteArray) (W : World) (g : G W) (hz : z = bs (glueL L)) (h : z.size ≤ 8000) => HC.words z W g (by omega))
  obtain ⟨n, hn⟩ : ∃ n, n = L.length := ⟨_, rfl⟩
  have HN := Lib.hid hn
  have HW2 := Lib.hid (show ∀ (z : ByteArray) (W : World), G W → z = bs (glueL L) → z.size ≤ 8000 → Calls Tryd.prog 7 #[.string z] W fun e w' => ∃ q c, e = .returned (.slice q n c) ∧ WdsAt w' q L ∧ Below W.heap.size W w' from fun z W g hz h => by
    have h2 := HW2.out z W g hz h
    rw [hz, bs_list, HGW.out, ← hn] at h2
    rw [hz]; exact h2)
  rw [← hn] at HW hl2
  clear HC hG w0 hlong hL hn hgl hsl HGW
  go_enter Tryd.func6, Tryd.ntmps6
  go_wp2_with (go_at_call 7; ((with_reducible refine (HW.out _ HG.out).mono ?_); rintro e v1 ⟨q1, k1', rfl, r1, b1⟩); have B1 := Lib.hid b1; have G1 := Lib.hid (HON.out _ _ HG.out b1); have V1 := Lib.hid r1; clear b1 r1)
  go_loop [4, 5] (fun v4 v5 => ∃ (k : Nat) (z : ByteArray), k ≤ n ∧ z.size ≤ 8000 ∧ v5 = .int .i64 k ∧ v4 = .string z ∧ Hid (z = bs (glueL (L.take k)))) (fun _ v5 => n - (intOf v5).toNat)
  case atStart => exact ⟨0, ⟨#[]⟩, by omega, Nat.zero_le _, rfl, rfl, Lib.hid rfl⟩
  case round =>
    obtain ⟨k, z, hk, hz, rfl, rfl, HZ⟩ := hrel
    by_cases hlt : k < n
    · have hx : L[k]? = some (L[k]'(by rw [← HN.out]; exact hlt)) := List.getElem?_eq_getElem _
      obtain ⟨p, hp⟩ : ∃ p, p = L[k]'(by rw [← HN.out]; exact hlt) := ⟨_, rfl⟩
      have hmem : p ∈ L := by rw [hp]; exact List.getElem_mem _
      rw [← hp] at hx
      obtain ⟨hne, hnb⟩ := HOK.out p hmem
      obtain ⟨g1, o1, rfl, d1⟩ := V1.out k p hx
      have HT := Lib.hid (glue_take hx)
      have HGL2 := HGL.out (k + 1)
      rw [HT.out] at HGL2
      simp only [List.length_append, List.length_cons, List.length_nil] at HGL2
      have hzs : z.size = (glueL (L.take k)).length := by rw [HZ.out, bs_size]
      obtain ⟨y, hy⟩ : ∃ x, x = bs p := ⟨_, rfl⟩
      have hyl : y.toList = p := by rw [hy, bs_toList]
      have hys : y.size = p.length := by rw [hy, bs_size]
      have HYB := Lib.hid (show ∀ j (h : j < y.size), blkB (y[j]'h) = false from fun j h => by
        subst hy
        rw [bs_get h]
        exact hnb _ (List.getElem_mem _))
      have HY := Lib.hid hy
      rw [← hy] at d1
      obtain ⟨m, hm⟩ : ∃ m, m = y.size := ⟨_, rfl⟩
      have hym : y.size = m := hm.symm
      have hm2 : z.size + m ≤ 7000 + 1000 - 3 := by omega
      have t1 : y.toList.isEmpty = false := by rw [hyl]; cases p with | nil => exact absurd rfl hne | cons => rfl
      have t2 : (y.toList == []) = false := by rw [hyl]; cases p with | nil => exact absurd rfl hne | cons => rfl
      have k1 : (k : Int) < n := by omega
      have k0 : (0 : Int) ≤ k := by omega
      have hw1 : IntKind.i64.wrap ((k : Int) + 1) = k + 1 := by rw [IntKind.wrap_i64]; omega
      have hmI : (m : Int) ≤ 8000 := by omega
      clear hx hp hmem hne hnb HGL2 hzs hyl hys hy hm HOK HGL
      go_wp2_with fail
      go_loop [6] (fun v6 => ∃ j : Nat, j ≤ m ∧ v6 = .int .i64 j) (fun v6 => m - (intOf v6).toNat)
      case atStart => exact ⟨0, by omega, rfl⟩
      case round =>
        obtain ⟨j, hj, rfl⟩ := hrel
        by_cases hjm : j < m
        · have hjs : j < y.size := by omega
          have hb := HYB.out j hjs
          obtain ⟨x, hx⟩ : ∃ x, x = ((y[j]'hjs).toNat : Int) := ⟨_, rfl⟩
          have hidx : ((y[j]'hjs).toNat : Int) = x := hx.symm
          have hbl : blkI x = false := by rw [hx, blkI_nat]; exact hb
          unfold blkI at hbl
          rw [Bool.or_eq_false_iff, Bool.or_eq_false_iff] at hbl
          obtain ⟨⟨e1, e2⟩, e3⟩ := hbl
          have j1 : (j : Int) < m := by omega
          have j0 : (0 : Int) ≤ j := by omega
          have hw2 : IntKind.i64.wrap ((j : Int) + 1) = j + 1 := by rw [IntKind.wrap_i64]; omega
          clear hb hx
          go_wp2_with fail
          go_round
          case rel => exact ⟨j + 1, by omega, by go_num⟩
          case measure => first | (simp [intOf]; done) | (simp [intOf]; omega)
        · obtain rfl : j = m := by omega
          have jj : ¬ (j : Int) < j := by omega
          go_wp2_with fail
          go_round
          case rel => exact ⟨k + 1, _, by omega, by first | (simp; omega) | (simp only [ByteArray.size_append', ByteArray.size_mk']; simp; omega), by go_num, rfl, Lib.hid (by
            rw [HT.out, HZ.out, HY.out]
            show bs _ ++ bs [32, 9] ++ bs p ++ bs [13] = _
            rw [bs_app, bs_app, bs_app]
            simp)⟩
          case measure => first | (simp [intOf]; done) | (simp [intOf]; omega)
    · obtain rfl : k = n := by omega
      have kk : ¬ (k : Int) < k := by omega
      have hzz : z = bs (glueL L) := by rw [HZ.out, List.take_of_length_le (by rw [HN.out]; exact Nat.le_refl _)]
      have HC2 := Lib.hid (fun (W : World) (g : G W) => HW2.out z W g hzz hz)
      clear HOK HGL HW2 hzz HZ
      go_wp2_with (go_at_call 7; ((with_reducible refine (HC2.out _ G1.out).mono ?_); rintro e v2 ⟨q2, k2', rfl, r2, b2⟩); have B2 := Lib.hid b2; have G2 := Lib.hid (HON.out _ _ G1.out b2); have V2 := Lib.hid r2; clear b2 r2)
      go_loopw [8] (fun v8 wr => ∃ i : Nat, i ≤ k ∧ v8 = .int .i64 i ∧ Hid (Below v2.heap.size v2 wr)) (fun v8 _ => k - (intOf v8).toNat)
      case atStart => exact ⟨0, by omega, rfl, Lib.hid (Below.refl _ _)⟩
      case round =>
        obtain ⟨i, hi, rfl, PB⟩ := hrel
        obtain ⟨W, rfl⟩ : ∃ wo : World, wo = wr := ⟨_, rfl⟩
        by_cases hil : i < k
        · have hx : L[i]? = some (L[i]'(by rw [← HN.out]; exact hil)) := List.getElem?_eq_getElem _
          obtain ⟨p, hp⟩ : ∃ p, p = L[i]'(by rw [← HN.out]; exact hil) := ⟨_, rfl⟩
          rw [← hp] at hx
          obtain ⟨g1, o1, rfl, d1⟩ := V1.out i p hx
          obtain ⟨g2, o2, rfl, d2⟩ := V2.out i p hx
          have c1 := ((thn B2.out PB.out).cell (World.block_lt_of_cell? v1 _ d1)).trans d1
          have c2 := (PB.out.cell (World.block_lt_of_cell? v2 _ d2)).trans d2
          obtain ⟨y, hy⟩ : ∃ x, x = bs p := ⟨_, rfl⟩
          rw [← hy] at c1 c2
          have i1 : (i : Int) < k := by omega
          have i0 : (0 : Int) ≤ i := by omega
          have hw1 : IntKind.i64.wrap ((i : Int) + 1) = i + 1 := by rw [IntKind.wrap_i64]; omega
          have t2 : (y.toList == y.toList) = true := by simp
          clear hx hp d1 d2 hy
          go_wp2_with fail
          go_quiet (fail)
          go_wp2_with fail
          go_roundw
          case rel => exact ⟨i + 1, by omega, by go_num, Lib.hid (Go.below_drewN PB.out _)⟩
          case measure => first | (simp [intOf]; done) | (simp [intOf]; omega)
        · obtain rfl : i = k := by omega
          have G3 := Lib.hid (HON.out _ _ G2.out PB.out)
          have B3 := Lib.hid (thn (thn B1.out B2.out) PB.out)
          go_wp2_with (go_at_call 13; ((with_reducible refine (HA.out _ G3.out).mono ?_); rintro e v7 ⟨rfl, b7⟩))
          go_ret
          exact ⟨rfl, thn B3.out b7⟩

set_option maxRecDepth 100000 in
theorem lifted (HC : ValuesC G15) (os : Os) (started : os.Started) (H : Type) (enc : TypeId × Value → H) :
    ReturnsInHanded {} Tryd.checked os 6 .any (fun w args => (Rows.valuesPlainSpec.pre enc Tryd.prog Tryd.f6 [] false w args ∧ laidMetH Tryd.prog listed15 w) ∧ sizedMet enc Tryd.prog Tryd.f6 (OpenSpec.ofChange Rows.valuesPlainSpec) false w args)
      (Rows.valuesPlainSpec.post enc Tryd.prog Tryd.f6 false true false false) := by
  refine returnsInHanded_of_change_and (C := Tryd.checked) (X := fun w _ => laidMetH Tryd.prog listed15 w) (fun _ _ _ hh h => h.of_heap hh) ownKnob_none started (by kernel_rfl) Tryd.func6
    (ChangeSpec.witness_shaped (enc := enc) (C := Tryd.checked) (os := os) (X := fun w _ => laidMetH Tryd.prog listed15 w) false (World.doorLaid Tryd.prog 4000 os) #[.string ⟨#[]⟩] 8 rfl (World.shaped_of_RefB (by kernel_rfl) (by kernel_rfl)) (by kernel_rfl) (by kernel_rfl) (by kernel_rfl) (door_met15 os _)) ?_
  intro W base args ds gs before hval0 hW _ _ hL _
  have hG : G15 W := of_laid15 hL
  have hval : ∀ (j : Nat) t v, Tryd.f6.params[j]? = some t → args[j]? = some v → Value.okWide Tryd.prog W .any base t v := hval0
  have hW' := hW
  obtain ⟨p, q, hA0, hV, rfl, hfz, hnd⟩ := hW
  have hA : DataW.TrodAll enc Tryd.prog W 0 (fun _ => true) true Tryd.f6.params.toList args.toList ds p := hA0
  rw [Tryd.params6] at hA hval
  obtain ⟨v0, vs0, d0, ds0, p0, q0, hargs, rfl, rfl, h0, r0⟩ := trodAll_cons hA
  obtain ⟨rfl, rfl, rfl⟩ := trodAll_nil r0
  obtain rfl : args = #[v0] := by cases args; simp_all
  obtain ⟨rfl, rfl⟩ := trodVars_none hV
  obtain ⟨a0, rfl, rfl, rfl, w0⟩ := open_string Tryd.underlying9 (hval 0 9 v0 rfl rfl) h0
  clear hA0 hval0
  simp only [List.append_nil] at hW'
  refine (walk HC a0 W hG w0).mono fun e W' ⟨he, bel⟩ => ?_
  subst he
  exact ⟨_, rfl, _, _, _, [], [], [], hW', trodAll_mk1 (shut_bool Tryd.underlying4 _), (trodAll_cons_mk (shut_string Tryd.underlying9 w0) trodAll_mk0), rfl, bel.frame _, fun h => by cases h⟩

theorem over (HC : ValuesC G15) : Rows.valuesPlainRow.holds Tryd.pinned (OpenSpec.ofChange Rows.valuesPlainSpec) :=
  OpenClaim.holds_of_wide 6 Tryd.f6 rfl rfl rfl rfl rfl rfl rfl ⟨rfl, rfl, rfl, rfl, rfl⟩ rfl rfl rfl rfl rfl (by kernel_rfl) Tryd.func6 (by kernel_rfl)
    (of_decide_eq_true (by kernel_rfl)) (by unfold Func.isWrapper; first | (rw [if_pos (by decide +kernel)]; kernel_rfl) | (rw [if_neg (by decide +kernel)]; exact ⟨rfl, rfl⟩))
    (fun os started H enc _ => lifted HC os started H enc)

/-- The row's statement. -/
theorem row_holds : Rows.ValuesPlainSaid := over valuesC
/-- The statement: the row, its table tied to the program's text. -/
theorem proved : Rows.ValuesPlainCardSaid :=
  Claim7.holds_tied_plain_at .later [] [.data, .data, .data, .sentinel, .sentinel, .data, .data] true Rows.valuesPlainCard.stood.harness Rows.valuesPlainCard.stood.looks
    row_holds (fun _ h => by cases h) (by kernel_rfl) (fun _ h => by cases h) valuesPlain_row_tie rfl ⟨rfl, rfl⟩ (by kernel_rfl) rfl
    (fun f fn hf hfn => by
      obtain rfl : f = 6 := Option.some.inj ((show Tryd.prog.funcNamed "vestibule/vestibulelaw15.ValuesPlain" = some 6 by kernel_rfl).symm.trans hf) |>.symm
      obtain rfl : fn = Tryd.f6 := (Option.some.inj (Tryd.func6.symm.trans hfn)).symm
      exact ⟨by kernel_rfl, fun j t ht => by
        have hm : t ∈ Tryd.f6.params.toList := by simpa using Array.mem_of_getElem? ht
        have hall : (Tryd.f6.params.toList.all fun u => !Tryd.prog.wantsStandIn u) = true := by kernel_rfl
        exact (show Tryd.prog.wantsStandIn t = false by simpa using List.all_eq_true.1 hall t hm)⟩)
    (by kernel_rfl)
#print axioms proved
end Go.Proofs.YtfmfjnnbldmdlaaDoor.valuesPlain
