/- What the calls of the landed names return that read or write digits: as the chapter says; and so all of the package. Condition: the tables, and the library's errors, lie as the text lays them. -/
import Derived.Test.YtfmfjnnbldmdlaaDoorJp
import Derived.Test.YtfmfjnnbldmdlaaDoorJe
import Derived.Test.YtfmfjnnbldmdlaaDoorHc
import Derived.Lib.ParseIntB
import Derived.Lib.AppendIntMem
import Derived.Lib.AtoiErrMem
import Derived.OwnWalk
namespace Go.Proofs.YtfmfjnnbldmdlaaDoor
open Go.RowKit Go.Shelf Go.Sort
set_option linter.unusedVariables false
set_option linter.unusedSimpArgs false
attribute [local go_sem ↓] Go.wp_at_zero Go.wp_at_succ

theorem dec_dig4 {n : Nat} (h : n < 10000) : Lib.decDigits n = dig4 n := by
  have e2 : n / 10 / 10 = n / 100 := Nat.div_div_eq_div_mul ..
  have e3 : n / 100 / 10 = n / 1000 := Nat.div_div_eq_div_mul ..
  unfold dig4
  by_cases h1 : n < 10
  · rw [Lib.decDigits, dif_pos h1, if_pos h1]; rfl
  · rw [if_neg h1, Lib.decDigits, dif_neg h1]
    by_cases h2 : n < 100
    · rw [Lib.decDigits, dif_pos (by omega), if_pos h2]; rfl
    · rw [if_neg h2, Lib.decDigits, dif_neg (by omega)]
      by_cases h3 : n < 1000
      · rw [Lib.decDigits, dif_pos (by omega), if_pos h3, e2]; rfl
      · rw [if_neg h3, Lib.decDigits, dif_neg (by omega), Lib.decDigits, dif_pos (by omega), e2, e3]; rfl
theorem bs10_list (l : List UInt8) : (bs10 l).data.toList = l := by unfold bs10; rfl
theorem bs10_self (s : ByteArray) : bs10 s.data.toList = s := by unfold bs10; rfl
/-- What the library reads of digits alone. -/
theorem parseM_digs {M : Nat} (hM : M < 18446744073709551616) : ∀ (l : List UInt8) (a : Nat), l.all digB10 = true → (a + 1) * 10 ^ l.length ≤ M + 1 → Lib.parseUintM M a l = .ok (l.foldl (fun a c => 10 * a + (c.toNat - 48)) a)
  | [], a, _, _ => rfl
  | c :: r, a, h, hm => by
    rw [List.all_cons, Bool.and_eq_true] at h
    obtain ⟨hc, hr⟩ := h
    unfold digB10 at hc
    rw [Bool.and_eq_true, decide_eq_true_eq, decide_eq_true_eq] at hc
    rw [List.length_cons, Nat.pow_succ] at hm
    have hp : 1 ≤ 10 ^ r.length := Nat.one_le_pow _ _ (by decide)
    have h1 : (10 * a + (c.toNat - 48) + 1) * 10 ^ r.length ≤ M + 1 := by
      refine Nat.le_trans (Nat.mul_le_mul_right _ (show 10 * a + (c.toNat - 48) + 1 ≤ (a + 1) * 10 by omega)) ?_
      rw [Nat.mul_assoc, Nat.mul_comm 10]; exact hm
    have h2 : 10 * a + (c.toNat - 48) + 1 ≤ M + 1 := Nat.le_trans (by simpa using Nat.mul_le_mul_left (10 * a + (c.toNat - 48) + 1) hp) h1
    unfold Lib.parseUintM
    rw [if_pos ⟨hc.1, hc.2⟩, if_neg (by omega), if_neg (by omega), Nat.mul_comm a 10, parseM_digs hM r _ hr h1]
    rfl
theorem parseM_bad {M : Nat} : ∀ (l : List UInt8) (a u : Nat), l.all digB10 = false → Lib.parseUintM M a l ≠ .ok u
  | [], a, u, h => by cases h
  | c :: r, a, u, h => by
    unfold Lib.parseUintM
    by_cases hc : 48 ≤ c.toNat ∧ c.toNat ≤ 57
    · rw [if_pos hc]
      have hd : digB10 c = true := by unfold digB10; rw [decide_eq_true hc.1, decide_eq_true hc.2]; rfl
      rw [List.all_cons, hd, Bool.true_and] at h
      split
      · intro e; cases e
      · split
        · intro e; cases e
        · exact parseM_bad r _ u h
    · rw [if_neg hc]; intro e; cases e
theorem parseB_digs {l : List UInt8} (h0 : l ≠ []) (h4 : l.length ≤ 4) (h : l.all digB10 = true) : Lib.parseUintB 32 l = .ok (valD l) := by
  unfold Lib.parseUintB
  rw [if_neg h0]
  refine parseM_digs (by decide) l 0 h ?_
  have : 10 ^ l.length ≤ 10 ^ 4 := Nat.pow_le_pow_right (by decide) h4
  omega
theorem parseB_bad {l : List UInt8} (h : ¬ (l ≠ [] ∧ l.all digB10 = true)) (u : Nat) : Lib.parseUintB 32 l ≠ .ok u := by
  unfold Lib.parseUintB
  by_cases h0 : l = []
  · rw [if_pos h0]; intro e; cases e
  · rw [if_neg h0]
    exact parseM_bad l 0 u (by cases hh : l.all digB10 with
      | false => rfl
      | true => exact absurd ⟨h0, hh⟩ h)
theorem errno_plain : (errnoT.all fun e => (parse4 e.1.data.toList).isNone) = true := by decide +kernel
/-- A name is no number's digits. -/
theorem digits_none {s : ByteArray} {x : Nat} (h : parse4 s.data.toList = some x) : errnoR s = some x := by
  unfold errnoR
  cases hf : findR errnoT s with
  | none => exact h
  | some y =>
    exfalso
    have : ∀ l : List En10, (l.all fun e => (parse4 e.1.data.toList).isNone) = true → findR l s = some y → False := by
      intro l
      induction l with
      | nil => intro _ h; cases h
      | cons e r ih =>
        intro ha hh
        rw [List.all_cons, Bool.and_eq_true] at ha
        unfold findR at hh
        split at hh
        · rename_i he
          have h1 := ha.1
          rw [he, h] at h1; cases h1
        · exact ih ha.2 hh
    exact this errnoT errno_plain hf
theorem fmt_smallN (n : Nat) (h : n < 100) (w : World) : Calls Tryd.prog 40 #[.int .u64 n, .int .i64 10] w fun e w' => e = .returned (.string (bs10 (Lib.decDigits n))) ∧ Below w.heap.size w w' := by
  have HC := Lib.hid (fun W => Tryd.internal_strconv_small n h W)
  have i1 : (n : Int) < 100 := by omega
  have hw : IntKind.i64.wrap (n : Int) = n := IntWalk.i64_in _ (by omega)
  clear h
  go_enter Tryd.func40, Tryd.ntmps40
  go_wp2_with (go_at_call 46; ((with_reducible refine (HC.out _).mono ?_); rintro e w1 ⟨rfl, rfl⟩))
  go_ret
  exact ⟨rfl, Below.refl _ _⟩
set_option maxHeartbeats 12800000 in
set_option maxRecDepth 100000 in
theorem fmt_bigN (u : Nat) (hu : 100 ≤ u) (hu64 : u < 18446744073709551616) (w : World) (htab : Lib.TabIs Tryd.prog w "internal/strconv.uint64pow10" .u64 Lib.pow10Tab) :
    Calls Tryd.prog 40 #[.int .u64 u, .int .i64 10] w fun e w' => e = .returned (.string (bs10 (Lib.decDigits u))) ∧ Below w.heap.size w w' := by
  have hu1 : 1 ≤ u := by omega
  have hnd20 : Lib.nDigits u ≤ 20 := by have := Lib.numDigits_eq u hu1 hu64; split at this <;> omega
  have hal : Program.arrayLen Tryd.prog 85 = 24 := by simp [Program.arrayLen, Tryd.underlying85]
  have hsl : ∀ W, (Instr.sliceAt 85 (.pointer (some ⟨w.heap.size, 0, none⟩)) none (some (.int .i64 (Lib.nDigits u : Int))) none).run Tryd.prog W = .ok (.slice (some ⟨w.heap.size, 0, none⟩) (Lib.nDigits u) 24) W := fun W => by
    rw [run_sliceAt_array_h W 85 ⟨w.heap.size, 0, none⟩ (by simp [Program.arrayLen, Program.elem, Tryd.underlying85]) .i64 (Lib.nDigits u : Int) (by omega) (by rw [hal]; omega)]
    go_simp
  have hH0 := Lib.holds_zero0 w 85 (Lib.nDigits u) (by omega)
  have hfmt := Tryd.internal_strconv_formatBase10 w.heap.size 0 24 u (Array.replicate (Lib.nDigits u) 0) (w.alloc (.cells Lib.zeros24 85)) hH0 (by rw [Array.size_replicate]; exact Lib.lt_pow_nDigits u) hu64 (by rw [Array.size_replicate]; omega)
  rw [Array.size_replicate] at hfmt
  have HH0 := Lib.hid hH0
  have HND := Lib.hid (fun W (h : Lib.TabIs Tryd.prog W "internal/strconv.uint64pow10" .u64 Lib.pow10Tab) => Tryd.internal_strconv_numDigits u hu1 hu64 W h)
  have HT := Lib.hid htab
  have HF := Lib.hid hfmt
  have iu : ¬ (u : Int) < 100 := by omega
  have iv : (100 : Int) ≤ (u : Int) := by omega
  clear hH0 hal hfmt hu1 hu64 htab
  go_enter Tryd.func40, Tryd.ntmps40
  go_wp2_with (go_at_call 47; (refine (HND.out _ (Lib.tabIs_alloc HT.out _)).mono ?_); rintro e w1 ⟨rfl, rfl⟩)
  go_at_call 48
  refine (HF.out).mono ?_
  rintro e w' ⟨rfl, k, v', dk, rfl, hF⟩
  have hcv : (convert 83 9 (.slice (some ⟨w.heap.size, 0, none⟩) (Lib.nDigits u) 24)).run Tryd.prog ((putRow (fun (b : UInt8) => Value.int .u8 (b.toNat : Int)) (w.alloc (.cells Lib.zeros24 85)) w.heap.size 0 dk).drewN k) = .ok (.string ⟨(Lib.decDigits u).toArray⟩) ((putRow (fun (b : UInt8) => Value.int .u8 (b.toNat : Int)) (w.alloc (.cells Lib.zeros24 85)) w.heap.size 0 dk).drewN k) := by
    have h := run_convert_bytes_back (P := Tryd.prog) ((putRow (fun (b : UInt8) => Value.int .u8 (b.toNat : Int)) (w.alloc (.cells Lib.zeros24 85)) w.heap.size 0 dk).drewN k) 83 9 5 ⟨w.heap.size, 0, none⟩ 24 (Lib.decDigits u) Tryd.underlying83 Tryd.underlying5 Tryd.underlying9 (fun j hj => by
      rw [Lib.row_is_numeral hF j hj, Lib.add_plain, World.cell?_drewN]
      exact cell?_putRow (fun (b : UInt8) => Value.int .u8 (b.toNat : Int)) _ w.heap.size 0 _ dk HH0.out (by rw [hF.size, Array.size_replicate]) j (by rw [hF.size]; rw [Lib.decDigits_length] at hj; exact hj))
    rw [Lib.decDigits_length] at h
    exact h
  obtain ⟨os, eo⟩ := Lib.fin_at w (.cells Lib.zeros24 85) dk k 0
  have HB := Lib.hid (show Below w.heap.size w ((putRow (fun (b : UInt8) => Value.int .u8 (b.toNat : Int)) (w.alloc (.cells Lib.zeros24 85)) w.heap.size 0 dk).drewN k) by rw [eo]; exact Lib.below_grow _ w (Nat.le_refl _) k os)
  clear eo
  go_wp2
  go_ret
  exact ⟨rfl, HB.out⟩
theorem fmtN (n : Nat) (hn : n < 18446744073709551616) (w : World) (hG : GN w) : Calls Tryd.prog 30 #[.int .u64 n, .int .i64 10] w fun e w' => e = .returned (.string (bs10 (Lib.decDigits n))) ∧ Below w.heap.size w w' := by
  have HC := Lib.hid (show Calls Tryd.prog 40 #[.int .u64 n, .int .i64 10] w fun e w' => e = .returned (.string (bs10 (Lib.decDigits n))) ∧ Below w.heap.size w w' by
    by_cases h : n < 100
    · exact fmt_smallN n h w
    · exact fmt_bigN n (by omega) hn w hG.pow)
  clear hn
  go_enter Tryd.func30, Tryd.ntmps30
  go_wp2_with (go_at_call 40; ((with_reducible refine (HC.out).mono ?_); rintro e w1 ⟨rfl, b1⟩))
  go_ret
  exact ⟨rfl, b1⟩
theorem parse_yesN (s : ByteArray) (hl : s.size ≤ 4) (u : Nat) (h : Lib.parseUintB 32 s.data.toList = .ok u) (w : World) : Calls Tryd.prog 56 #[.string s, .int .i64 10, .int .i64 32] w fun e w' => e = .returned (.tuple #[.int .u64 u, .nilIface]) ∧ Below w.heap.size w w' :=
  (Tryd.strconv_ParseUint_10_at32_ok s (by omega) u h w).mono fun e w' ⟨h1, h2⟩ => ⟨h1, by
    rcases h2 with rfl | rfl
    · exact Below.refl _ _
    · exact Lib.bytesWorld_below _ _ _⟩
theorem parse_noN (s : ByteArray) (hl : s.size ≤ 4) (h : ∀ u, Lib.parseUintB 32 s.data.toList ≠ .ok u) (w : World) (hG : GN w) : Calls Tryd.prog 56 #[.string s, .int .i64 10, .int .i64 32] w fun e w' => ∃ (v : Int) (N : Nat), e = .returned (.tuple #[.int .u64 v, .iface 108 (.pointer (some ⟨N, 0, none⟩))]) ∧ 0 ≤ v ∧ v < 4294967296 ∧ Below w.heap.size w w' := by
  obtain ⟨t0, p0, h0⟩ := hG.syn
  obtain ⟨t1, p1, h1⟩ := hG.rng
  rcases hr : Lib.parseUintB 32 s.data.toList with u | _ | _
  · exact absurd hr (h u)
  · exact (Tryd.strconv_ParseUint_10_at32_syntax s (by omega) hr _ w h0 (Or.inr ⟨_, _, rfl⟩)).mono fun e w' ⟨N, e1, _, _, e2⟩ => ⟨0, N, e1, by omega, by omega, e2⟩
  · exact (Tryd.strconv_ParseUint_10_at32_range s (by omega) hr _ w h1 (Or.inr ⟨_, _, rfl⟩)).mono fun e w' ⟨N, e1, _, _, e2⟩ => ⟨4294967295, N, e1, by omega, by omega, e2⟩
theorem decimalN (s : ByteArray) (hs : s.size ≤ maxLen) (w : World) (hG : GN w) : Calls Tryd.prog 44 #[.string s] w fun e w' =>
    e = .returned (.tuple #[.int .u32 ((parse4 s.data.toList).getD 0 : Nat), .bool (parse4 s.data.toList).isSome]) ∧ Below w.heap.size w w' := by
  have hlen : s.data.toList.length = s.size := by simp
  have hs2 : (s.size : Int) ≤ 9223372036854775807 := by unfold maxLen at hs; omega
  by_cases h4 : 4 < s.size
  · have HV := Lib.hid (show parse4 s.data.toList = none from parse4_long (by omega))
    have i1 : (4 : Int) < s.size := by omega
    clear hG hs hlen h4
    go_enter Tryd.func44, Tryd.ntmps44
    go_wp2
    go_ret2
    exact ⟨by rw [HV.out]; rfl, Below.refl _ _⟩
  · have i1 : ¬ (4 : Int) < s.size := by omega
    by_cases hd : s.data.toList ≠ [] ∧ s.data.toList.all digB10 = true
    · have hp := parseB_digs hd.1 (by omega) hd.2
      have hv4 : valD s.data.toList < 10000 := Nat.lt_of_lt_of_le (valD_lt _ hd.2) (show 10 ^ s.data.toList.length ≤ 10 ^ 4 from Nat.pow_le_pow_right (by decide) (by omega))
      have HP := Lib.hid (fun W => parse_yesN s (by omega) _ hp W)
      have HV := Lib.hid (show parse4 s.data.toList = if valD s.data.toList ≤ 4095 then some (valD s.data.toList) else none by unfold parse4; rw [if_pos ⟨hd.1, by omega, hd.2⟩])
      obtain ⟨v, hv⟩ : ∃ v, v = valD s.data.toList := ⟨_, rfl⟩
      rw [← hv] at HP HV hv4
      by_cases h5 : v ≤ 4095
      · have q1 : ¬ (4095 : Int) < v := by omega
        have hr := Lib.hid (show parse4 s.data.toList = some v by rw [HV.out, if_pos h5])
        have hw : IntKind.u32.wrap (v : Int) = v := by rw [IntKind.wrap_u32]; omega
        clear hG hs hlen h4 hd hp hv HV h5
        go_enter Tryd.func44, Tryd.ntmps44
        go_wp2_with (go_at_call 56; ((with_reducible refine (HP.out _).mono ?_); rintro e w1 ⟨rfl, b1⟩))
        go_ret2
        exact ⟨by rw [hr.out]; rfl, b1⟩
      · have q1 : (4095 : Int) < v := by omega
        have hr := Lib.hid (show parse4 s.data.toList = none by rw [HV.out, if_neg h5])
        clear hG hs hlen h4 hd hp hv HV h5
        go_enter Tryd.func44, Tryd.ntmps44
        go_wp2_with (go_at_call 56; ((with_reducible refine (HP.out _).mono ?_); rintro e w1 ⟨rfl, b1⟩))
        go_ret2
        exact ⟨by rw [hr.out]; rfl, b1⟩
    · have HP := Lib.hid (parse_noN s (by omega) (parseB_bad hd) w hG)
      have hr := Lib.hid (show parse4 s.data.toList = none by unfold parse4; rw [if_neg (fun h => hd ⟨h.1, h.2.2⟩)])
      clear hG hs hlen h4 hd
      go_enter Tryd.func44, Tryd.ntmps44
      go_wp2_with (go_at_call 56; ((with_reducible refine (HP.out).mono ?_); rintro e w1 ⟨v, N, rfl, v0, v1, b1⟩))
      go_ret2
      exact ⟨by rw [hr.out]; rfl, b1⟩
set_option maxHeartbeats 1600000 in
theorem errnoN (s : ByteArray) (w : World) (hG : GN w) (hs : s.size ≤ maxLen) : Calls Tryd.prog 35 #[.string s] w fun e w' =>
    e = .returned (.tuple #[.int .u32 ((errnoR s).getD 0 : Nat), .int .i64 (errE (errnoR s) 160)]) ∧ Below w.heap.size w w' := by
  have HD := Lib.hid (decimalN s hs w hG)
  have GX0 := Lib.hid hG
  have HON := Lib.hid (fun (w w' : World) => GN.on (w := w) (w' := w'))
  clear hG hs
  cases hp : parse4 s.data.toList with
  | some v =>
    rw [hp] at HD
    have HV := Lib.hid (digits_none hp)
    clear hp
    go_enter Tryd.func35, Tryd.ntmps35
    go_wp2_with (go_at_call 44; ((with_reducible refine (HD.out).mono ?_); rintro e w1 ⟨rfl, b1⟩))
    go_ret2
    exact ⟨by rw [HV.out]; rfl, b1⟩
  | none =>
    rw [hp] at HD
    have HV := Lib.hid (show errnoR s = findR errnoT s by
      unfold errnoR
      cases hf : findR errnoT s with
      | some x => rfl
      | none => exact hp)
    have HF := Lib.hid (fun (b : Nat) (W : World) (h : Rows_u32 W b errnoT) => numOf_u32 errnoT b s 160 W (by decide) h)
    rw [show errnoT.length = 15 from rfl, ← HV.out] at HF
    have HV2 := Lib.hid (show errE (errnoR s) 160 = if (errnoR s).isSome = true then 0 else 160 from rfl)
    rw [HV2.out]
    obtain ⟨x, hx⟩ : ∃ x, x = (errnoR s).getD 0 := ⟨_, rfl⟩
    obtain ⟨y, hy⟩ : ∃ y : Int, y = if (errnoR s).isSome = true then 0 else 160 := ⟨_, rfl⟩
    rw [← hx, ← hy] at HF ⊢
    have HI_errs := Lib.hid info_errs
    have HJ_errs := Lib.hid infa_errs
    clear hx hy hp HV HV2
    go_enter Tryd.func35, Tryd.ntmps35
    go_wp2_with (first
      | (go_at_call 44; ((with_reducible refine (HD.out).mono ?_); rintro e w1 ⟨rfl, b1⟩); have GX := Lib.hid (HON.out _ _ GX0.out b1))
      | ((with_reducible show wpList _ _ _ (⟨some 14, .load 61 _, _, _, _, _⟩ :: _) _ _)
         refine wpList_load_mid rfl 61 (.global 1) rfl 1 0 rfl (cellsT .u32 errnoT) _ (range_errs GX.out) Tryd.underlying61 rfl HI_errs.out ?_)
      | ((with_reducible show wpList _ _ _ (⟨some 6, .alloc 61, _, _, _, _⟩ :: _) _ _)
         refine wpList_new_errs rfl rfl ?_)
      | ((with_reducible show wpList _ _ _ (⟨none, .store 61 (.tmp 6) (.tmp 14), _, _, _, _⟩ :: _) _ _)
         refine wpList_store_mid rfl 61 (.tmp 6) (.tmp 14) rfl w1.heap.size 0 (cellsT .u32 errnoT).toArray rfl rfl (there_errs w1) HJ_errs.out (one_errs) ?_
         obtain ⟨rV, bV⟩ := copy_errs w1
         generalize (w1.alloc (.cells (zeroT_errs) 61)).setCells w1.heap.size 0 (cellsT .u32 errnoT).toArray.toList = V at rV bV ⊢)
      | (go_at_call 45; ((with_reducible refine (HF.out _ _ rV).mono ?_); rintro e w2 ⟨rfl, b2⟩)))
    go_ret2
    exact ⟨rfl, thnJ (thnJ b1 bV) b2⟩
set_option maxRecDepth 100000 in
set_option maxHeartbeats 1600000 in
theorem errnoNameN (n : Nat) (w : World) (hG : GN w) (hn : n < 4294967296) : Calls Tryd.prog 19 #[.int .u32 n] w fun e w' => e = .returned (.string (errnoNameR n)) ∧ Below w.heap.size w w' := by
  have HF := Lib.hid (fun (b : Nat) (W : World) (h : Rows_u32 W b errnoT) => namOf_u32 errnoT b n W (by decide) h)
  rw [show errnoT.length = 15 from rfl] at HF
  have HV := Lib.hid (show errnoNameR n = match nameR errnoT n with | some t => t | none => if n < 4096 then bs10 (dig4 n) else ⟨#[]⟩ from rfl)
  have GX := Lib.hid hG
  have HON := Lib.hid (fun (w w' : World) => GN.on (w := w) (w' := w'))
  have HI_errs := Lib.hid info_errs
  have HJ_errs := Lib.hid infa_errs
  have u1 : IntKind.u64.wrap (n : Int) = n := by rw [IntKind.wrap_u64]; omega
  clear hG
  cases hf : nameR errnoT n with
  | some t =>
    rw [hf] at HF HV
    obtain ⟨e, he, rfl⟩ := name_mem hf
    have e1 := errno_full e he
    obtain ⟨t, ht⟩ : ∃ t, t = e.1 := ⟨_, rfl⟩
    rw [← ht] at HF HV e1
    clear hf he ht hn
    go_enter Tryd.func19, Tryd.ntmps19
    go_wp2_with (first
      | ((with_reducible show wpList _ _ _ (⟨some 5, .load 61 _, _, _, _, _⟩ :: _) _ _)
         refine wpList_load_mid rfl 61 (.global 1) rfl 1 0 rfl (cellsT .u32 errnoT) _ (range_errs GX.out) Tryd.underlying61 rfl HI_errs.out ?_)
      | ((with_reducible show wpList _ _ _ (⟨some 3, .alloc 61, _, _, _, _⟩ :: _) _ _)
         refine wpList_new_errs rfl rfl ?_)
      | ((with_reducible show wpList _ _ _ (⟨none, .store 61 (.tmp 3) (.tmp 5), _, _, _, _⟩ :: _) _ _)
         refine wpList_store_mid rfl 61 (.tmp 3) (.tmp 5) rfl w.heap.size 0 (cellsT .u32 errnoT).toArray rfl rfl (there_errs w) HJ_errs.out (one_errs) ?_
         obtain ⟨rV, bV⟩ := copy_errs w
         generalize (w.alloc (.cells (zeroT_errs) 61)).setCells w.heap.size 0 (cellsT .u32 errnoT).toArray.toList = V at rV bV ⊢)
      | (go_at_call 29; ((with_reducible refine (HF.out _ _ rV).mono ?_); rintro e w2 ⟨rfl, b2⟩)))
    go_ret
    exact ⟨by rw [HV.out]; rfl, thnJ bV b2⟩
  | none =>
    rw [hf] at HF HV
    by_cases h4 : n < 4096
    · have i1 : (n : Int) ≤ 4095 := by omega
      have HV2 := Lib.hid (show errnoNameR n = bs10 (dig4 n) by rw [HV.out]; show (if n < 4096 then _ else _) = _; rw [if_pos h4])
      have HD := Lib.hid (fun W (g : GN W) => fmtN n (by omega) W g)
      rw [dec_dig4 (by omega)] at HD
      clear hf h4 hn
      go_enter Tryd.func19, Tryd.ntmps19
      go_wp2_with (first
        | ((with_reducible show wpList _ _ _ (⟨some 5, .load 61 _, _, _, _, _⟩ :: _) _ _)
           refine wpList_load_mid rfl 61 (.global 1) rfl 1 0 rfl (cellsT .u32 errnoT) _ (range_errs GX.out) Tryd.underlying61 rfl HI_errs.out ?_)
        | ((with_reducible show wpList _ _ _ (⟨some 3, .alloc 61, _, _, _, _⟩ :: _) _ _)
           refine wpList_new_errs rfl rfl ?_)
        | ((with_reducible show wpList _ _ _ (⟨none, .store 61 (.tmp 3) (.tmp 5), _, _, _, _⟩ :: _) _ _)
           refine wpList_store_mid rfl 61 (.tmp 3) (.tmp 5) rfl w.heap.size 0 (cellsT .u32 errnoT).toArray rfl rfl (there_errs w) HJ_errs.out (one_errs) ?_
           obtain ⟨rV, bV⟩ := copy_errs w
           generalize (w.alloc (.cells (zeroT_errs) 61)).setCells w.heap.size 0 (cellsT .u32 errnoT).toArray.toList = V at rV bV ⊢)
        | (go_at_call 29; ((with_reducible refine (HF.out _ _ rV).mono ?_); rintro e w2 ⟨rfl, b2⟩); have B2 := Lib.hid (thnJ bV b2); have GY := Lib.hid (HON.out _ _ GX.out B2.out))
        | (go_at_call 30; ((with_reducible refine (HD.out _ GY.out).mono ?_); rintro e w3 ⟨rfl, b3⟩)))
      go_ret
      exact ⟨by rw [HV2.out]; rfl, thnJ B2.out b3⟩
    · have i1 : ¬ (n : Int) ≤ 4095 := by omega
      have HV2 := Lib.hid (show errnoNameR n = ⟨#[]⟩ by rw [HV.out]; show (if n < 4096 then _ else _) = _; rw [if_neg h4])
      clear hf h4 hn
      go_enter Tryd.func19, Tryd.ntmps19
      go_wp2_with (first
        | ((with_reducible show wpList _ _ _ (⟨some 5, .load 61 _, _, _, _, _⟩ :: _) _ _)
           refine wpList_load_mid rfl 61 (.global 1) rfl 1 0 rfl (cellsT .u32 errnoT) _ (range_errs GX.out) Tryd.underlying61 rfl HI_errs.out ?_)
        | ((with_reducible show wpList _ _ _ (⟨some 3, .alloc 61, _, _, _, _⟩ :: _) _ _)
           refine wpList_new_errs rfl rfl ?_)
        | ((with_reducible show wpList _ _ _ (⟨none, .store 61 (.tmp 3) (.tmp 5), _, _, _, _⟩ :: _) _ _)
           refine wpList_store_mid rfl 61 (.tmp 3) (.tmp 5) rfl w.heap.size 0 (cellsT .u32 errnoT).toArray rfl rfl (there_errs w) HJ_errs.out (one_errs) ?_
           obtain ⟨rV, bV⟩ := copy_errs w
           generalize (w.alloc (.cells (zeroT_errs) 61)).setCells w.heap.size 0 (cellsT .u32 errnoT).toArray.toList = V at rV bV ⊢)
        | (go_at_call 29; ((with_reducible refine (HF.out _ _ rV).mono ?_); rintro e w2 ⟨rfl, b2⟩)))
      go_ret
      exact ⟨by rw [HV2.out]; rfl, thnJ bV b2⟩
end Go.Proofs.YtfmfjnnbldmdlaaDoor
