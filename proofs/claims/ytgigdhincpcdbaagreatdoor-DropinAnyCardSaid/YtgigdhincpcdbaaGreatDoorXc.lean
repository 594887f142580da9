/- What the landed Section and Assignment return of any line. Conditions: the library's two tables lie in their variables; a line of less than 2^32 - 15 bytes. What the landed reader has come to, as it lies in memory; the closure that records a fault. Condition: a line of at most 2^27 bytes, at most 1000 notes. -/
import Derived.Test.YtgigdhincpcdbaaGreatDoorXa
import Derived.Test.YtgigdhincpcdbaaGreatDoorYe
import Derived.Test.YtgigdhincpcdbaaGreatDoorZj
import Derived.RangeFuncBox
namespace Go.Proofs.YtgigdhincpcdbaaGreatDoor
open Go.RowKit Go.Shelf
set_option linter.unusedVariables false
set_option linter.unusedSimpArgs false
attribute [local go_sem ↓] Go.wp_at_zero Go.wp_at_succ

theorem thn_x {w V W : World} (a : Below w.heap.size w V) (b : Below V.heap.size V W) : Below w.heap.size w W := a.trans (b.mono a.size)
theorem ne_bs_x {l : List UInt8} (h : l ≠ []) : (bs l).toList.isEmpty = false := by
  rw [bs_toList]; cases l with | nil => exact absurd rfl h | cons _ _ => rfl
theorem cutP_call (l : List UInt8) (w : World) : Calls Tryz.prog 72 #[.string (bs l), .string ⟨#[91]⟩] w fun e w' => e = .returned (.tuple #[.string (bs (Lib.trimPrefix l [91])), .bool (Lib.hasPrefix l [91])]) ∧ w = w' :=
  (Tryz.strings_CutPrefix (bs l) ⟨#[91]⟩ w).mono fun e w' ⟨h1, h2⟩ => ⟨h1, h2.symm⟩
theorem cutE_call (l : List UInt8) (hl : l.length ≤ 140737488355328) (w : World) : Calls Tryz.prog 70 #[.string (bs l), .string ⟨#[93]⟩] w fun e w' => e = .returned (.tuple #[.string (bs (Lib.trimSuffix l [93])), .bool (Lib.hasSuffix l [93])]) ∧ w = w' :=
  (Tryz.strings_CutSuffix (bs l) ⟨#[93]⟩ w (by rw [bs_size]; omega)).mono fun e w' ⟨h1, h2⟩ => ⟨h1, h2.symm⟩
theorem preO_call (l : List UInt8) (w : World) : Calls Tryz.prog 76 #[.string (bs l), .string ⟨#[91]⟩] w fun e w' => e = .returned (.bool (Lib.hasPrefix l [91])) ∧ w = w' :=
  (Tryz.strings_HasPrefix (bs l) ⟨#[91]⟩ w).mono fun e w' ⟨h1, h2⟩ => ⟨h1, h2.symm⟩
theorem trimR_call (l : List UInt8) (hl : l.length ≤ 140737488355328) (w : World) : Calls Tryz.prog 75 #[.string (bs l), .string ⟨#[32, 9, 13]⟩] w fun e w' => e = .returned (.string (bs (rtrimL l))) ∧ Below w.heap.size w w' := by
  have h := Tryz.strings_TrimRight_ascii (zero_of_info bool256_info).1 (bs l) ⟨#[32, 9, 13]⟩ w (by rw [bs_size]; omega) (by decide) (set_wht.ascii)
  rw [← rtrim_set]
  exact h
theorem bs_sub13 (l : List UInt8) (a b : Nat) : (bs l).extract a b = bs ((l.drop a).take (b - a)) := by
  rw [Lib.extract_eq, bs_list]; rfl
set_option maxRecDepth 100000 in
theorem index61_call (l : List UInt8) (w : World) : Calls Tryz.prog 112 #[.string (bs l), .string ⟨#[61]⟩] w fun e w' => e = .returned (.int .i64 (Lib.indexByte l 61)) ∧ w = w' := by
  have HC := Lib.hid (show ∀ W, Calls Tryz.prog 107 #[.string (bs l), .int .u8 61] W fun e w' => e = .returned (.int .i64 (Lib.indexByte l 61)) ∧ W = w' from fun W => index8_call l 61 W)
  by_cases h : l = [61]
  · have e1 : ([61] == (bs l).toList) = true := by rw [ByteArray.toList_eq, bs_list, h]; rfl
    have HR := Lib.hid (show Lib.indexByte l 61 = 0 by rw [h]; rfl)
    clear h
    go_enter Tryz.func112, Tryz.ntmps112
    go_wp2
    go_ret
    exact ⟨congrArg (fun v => Ending.returned (.int .i64 v)) HR.out.symm, rfl⟩
  · have e1 : ([61] == (bs l).toList) = false := beq_eq_false_iff_ne.2 fun e => h (by rw [e, ByteArray.toList_eq, bs_list])
    clear h
    go_enter Tryz.func112, Tryz.ntmps112
    go_wp2_with (go_at_call 107; refine (HC.out _).mono ?_; rintro e w1 ⟨rfl, rfl⟩)
    go_ret
    exact ⟨rfl, rfl⟩
theorem cut61_in (l : List UInt8) (hl : l.length ≤ 140737488355328) (w : World) : Calls Tryz.prog 94 #[.string (bs l), .string ⟨#[61]⟩] w fun e w' => e = .returned (.tuple #[.string (bs (befE l)), .string (bs (aftE l)), .bool (decide (61 ∈ l))]) ∧ Below w.heap.size w w' := by
  have HC := Lib.hid (fun W => index61_call l W)
  have hsz : (bs l).size = l.length := bs_size l
  rcases eq_index l with ⟨h1, h2, h3, h4⟩ | ⟨i, h1, hi, h2, h3, h4⟩
  · rw [h1] at HC
    rw [h2, h3, decide_eq_false h4]
    clear h1 h2 h3 h4 hsz
    go_enter Tryz.func94, Tryz.ntmps94
    go_wp2_with (go_at_call 112; ((with_reducible refine (HC.out _).mono ?_); rintro e w1 ⟨rfl, rfl⟩))
    go_ret3
    exact ⟨rfl, Below.refl _ _⟩
  · rw [h1] at HC
    have H2 := Lib.hid (show (bs l).extract 0 i = bs (befE l) by rw [bs_sub13, h2]; rfl)
    have H3 := Lib.hid (show (bs l).extract (i + 1) l.length = bs (aftE l) by rw [bs_sub13, h3, List.take_of_length_le (by simp)])
    rw [decide_eq_true h4]
    obtain ⟨n, hn⟩ : ∃ n, n = l.length := ⟨_, rfl⟩
    rw [← hn] at hsz hi hl H3
    have i0 : (0 : Int) ≤ i := by omega
    have i1 : (i : Int) < n := by omega
    have i2 : (n : Int) ≤ 140737488355328 := by omega
    have w1 : IntKind.i64.wrap ((i : Int) + 1) = i + 1 := IntWalk.i64_in _ (by omega)
    have j0 : (0 : Int) ≤ (i : Int) + 1 := by omega
    have j1 : ((i : Int) + 1).toNat = i + 1 := by omega
    clear h1 h2 h3 h4 hn
    go_enter Tryz.func94, Tryz.ntmps94
    go_wp2_with (go_at_call 112; ((with_reducible refine (HC.out _).mono ?_); rintro e w1 ⟨rfl, rfl⟩))
    go_quiet (fail)
    go_wp2
    go_ret3
    exact ⟨by rw [H2.out, H3.out]; rfl, Go.below_drewN (Below.refl _ _) nq⟩
theorem cut61_call (l : List UInt8) (hl : l.length ≤ 140737488355328) (w : World) : Calls Tryz.prog 74 #[.string (bs l), .string ⟨#[61]⟩] w fun e w' => e = .returned (.tuple #[.string (bs (befE l)), .string (bs (aftE l)), .bool (decide (61 ∈ l))]) ∧ Below w.heap.size w w' := by
  have HC := Lib.hid (fun W => cut61_in l hl W)
  obtain ⟨b, hb⟩ : ∃ b, b = decide (61 ∈ l) := ⟨_, rfl⟩
  rw [← hb] at HC ⊢
  clear hl hb
  go_enter Tryz.func74, Tryz.ntmps74
  go_wp2_with (go_at_call 94; ((with_reducible refine (HC.out _).mono ?_); rintro e w1 ⟨rfl, b1⟩))
  go_ret3
  exact ⟨rfl, b1⟩
theorem e_nil {l : List UInt8} (h : l = []) : bs l = ⟨#[]⟩ := by rw [h]; rfl
set_option maxRecDepth 100000 in
set_option maxHeartbeats 8000000 in
theorem section_in (l : List UInt8) (hl : l.length < 4294967281) (w : World) : Calls Tryz.prog 48 #[.string (bs l)] w fun e w' => e = .returned (.tuple #[.string (bs (secV l)), .bool (secL l).isSome]) ∧ Below w.heap.size w w' := by
  have HCP := Lib.hid (fun W => cutP_call l W)
  have hr : (Lib.trimPrefix l [91]).length ≤ l.length := by
    unfold Lib.trimPrefix
    split
    · rw [List.length_drop]; omega
    · exact Nat.le_refl _
  have HCS := Lib.hid (fun W => cutE_call (Lib.trimPrefix l [91]) (by omega) W)
  cases hp : Lib.hasPrefix l [91] with
  | false =>
    have hE := sec_nopre hp
    rw [hp] at HCP
    obtain ⟨r, hr2⟩ : ∃ r, r = Lib.trimPrefix l [91] := ⟨_, rfl⟩
    rw [← hr2] at HCP HCS
    obtain ⟨q, hq⟩ : ∃ q, q = Lib.hasSuffix r [93] := ⟨_, rfl⟩
    rw [← hq] at HCS
    have HE := Lib.hid hE
    clear hE hp hr hr2 hq hl
    go_enter Tryz.func48, Tryz.ntmps48
    go_wp2_with (first
        | (go_at_call 72; ((with_reducible refine (HCP.out _).mono ?_); rintro e w1 ⟨rfl, rfl⟩))
        | (go_at_call 70; ((with_reducible refine (HCS.out _).mono ?_); rintro e w1 ⟨rfl, rfl⟩)))
    go_ret2
    exact ⟨by unfold secV; rw [HE.out]; rfl, Below.refl _ _⟩
  | true =>
    rw [hp] at HCP
    cases hs : Lib.hasSuffix (Lib.trimPrefix l [91]) [93] with
    | false =>
      have hE := sec_nosuf hp hs
      rw [hs] at HCS
      obtain ⟨r, hr2⟩ : ∃ r, r = Lib.trimPrefix l [91] := ⟨_, rfl⟩
      rw [← hr2] at HCP HCS
      have HE := Lib.hid hE
      clear hE hp hr hr2 hs hl
      go_enter Tryz.func48, Tryz.ntmps48
      go_wp2_with (first
          | (go_at_call 72; ((with_reducible refine (HCP.out _).mono ?_); rintro e w1 ⟨rfl, rfl⟩))
          | (go_at_call 70; ((with_reducible refine (HCS.out _).mono ?_); rintro e w1 ⟨rfl, rfl⟩)))
      go_ret2
      exact ⟨by unfold secV; rw [HE.out]; rfl, Below.refl _ _⟩
    | true =>
      have hE := sec_both hp hs
      rw [hs] at HCS
      have hn : (Lib.trimSuffix (Lib.trimPrefix l [91]) [93]).length ≤ (Lib.trimPrefix l [91]).length := by
        unfold Lib.trimSuffix
        split <;> first | exact Nat.le_refl _ | exact (List.take_sublist _ _).length_le
      have HCA := Lib.hid (fun W => any_call set_brk (Lib.trimSuffix (Lib.trimPrefix l [91]) [93]) (by omega) W)
      rw [show bs [91, 93] = ⟨#[91, 93]⟩ from rfl] at HCA
      obtain ⟨n, hn2⟩ : ∃ n, n = Lib.trimSuffix (Lib.trimPrefix l [91]) [93] := ⟨_, rfl⟩
      rw [← hn2] at HCS HCA hE
      obtain ⟨r, hr2⟩ : ∃ r, r = Lib.trimPrefix l [91] := ⟨_, rfl⟩
      rw [← hr2] at HCP HCS
      clear hp hs hn hn2 hr2 hr
      by_cases h0 : n = []
      · rw [if_neg (fun h => h.1 h0)] at hE
        have e0 : (bs n).toList.isEmpty = true := by rw [bs_toList, h0]; rfl
        have e1 : ((bs n).toList == []) = true := by rw [bs_toList, h0]; rfl
        have HE := Lib.hid hE
        clear hE h0 hl
        go_enter Tryz.func48, Tryz.ntmps48
        go_wp2_with (first
            | (go_at_call 72; ((with_reducible refine (HCP.out _).mono ?_); rintro e w1 ⟨rfl, rfl⟩))
            | (go_at_call 70; ((with_reducible refine (HCS.out _).mono ?_); rintro e w1 ⟨rfl, rfl⟩)))
        go_ret2
        exact ⟨by unfold secV; rw [HE.out]; rfl, Below.refl _ _⟩
      · have e0 : (bs n).toList.isEmpty = false := ne_bs_x h0
        have e1 : ((bs n).toList == []) = false := by rw [bs_toList]; exact beq_eq_false_iff_ne.2 h0
        cases hc : Lib.containsAny n [91, 93] with
        | true =>
          rw [hc] at hE HCA
          rw [if_neg (fun h => Bool.noConfusion h.2)] at hE
          have HE := Lib.hid hE
          clear hE h0 hl hc
          go_enter Tryz.func48, Tryz.ntmps48
          go_wp2_with (first
              | (go_at_call 72; ((with_reducible refine (HCP.out _).mono ?_); rintro e w1 ⟨rfl, rfl⟩))
              | (go_at_call 70; ((with_reducible refine (HCS.out _).mono ?_); rintro e w1 ⟨rfl, rfl⟩))
              | (go_at_call 73; ((with_reducible refine (HCA.out _).mono ?_); rintro e w3 ⟨rfl, b3⟩)))
          go_ret2
          exact ⟨by unfold secV; rw [HE.out]; rfl, b3⟩
        | false =>
          rw [hc] at hE HCA
          rw [if_pos ⟨h0, rfl⟩] at hE
          have HE := Lib.hid hE
          clear hE h0 hl hc
          go_enter Tryz.func48, Tryz.ntmps48
          go_wp2_with (first
              | (go_at_call 72; ((with_reducible refine (HCP.out _).mono ?_); rintro e w1 ⟨rfl, rfl⟩))
              | (go_at_call 70; ((with_reducible refine (HCS.out _).mono ?_); rintro e w1 ⟨rfl, rfl⟩))
              | (go_at_call 73; ((with_reducible refine (HCA.out _).mono ?_); rintro e w3 ⟨rfl, b3⟩)))
          go_ret2
          exact ⟨by unfold secV; rw [HE.out]; rfl, b3⟩

theorem section13 (s : ByteArray) (w : World) (hs : s.size < 4294967281) : Calls Tryz.prog 48 #[.string s] w fun e w' => e = .returned (.tuple #[.string (bs (secV s.data.toList)), .bool (secL s.data.toList).isSome]) ∧ Below w.heap.size w w' := by
  have := section_in s.data.toList (by rw [← Lib.size_eq]; exact hs) w
  rwa [bs_self] at this
set_option maxRecDepth 100000 in
set_option maxHeartbeats 8000000 in
theorem assignment_in (l : List UInt8) (hl : l.length < 4294967281) (w : World) (hG : G12 w) : Calls Tryz.prog 49 #[.string (bs l)] w fun e w' => e = .returned (.tuple #[.string (bs (asgK l)), .string (bs (asgW l)), .bool (asgL l).isSome]) ∧ Below w.heap.size w w' := by
  have HCU := Lib.hid (fun W => cut61_call l (by omega) W)
  have HTR := Lib.hid (fun W => trimR_call (befE l) (by have := bef_len l; omega) W)
  rw [show rtrimL (befE l) = keyL l from rfl] at HTR
  have HHP := Lib.hid (fun W => preO_call l W)
  have HCA := Lib.hid (fun W => any_call set_wht (keyL l) (by have := key_len l; omega) W)
  rw [show bs [32, 9, 13] = ⟨#[32, 9, 13]⟩ from rfl] at HCA
  have HTT := Lib.hid (fun W (b : Below w.heap.size w W) => trim_in (aftE l) (by have := aft_len l; unfold maxLen; omega) W (G12_on hG b))
  obtain ⟨B, hB⟩ : ∃ B, B = befE l := ⟨_, rfl⟩
  rw [← hB] at HCU HTR
  obtain ⟨T, hT⟩ : ∃ T, T = trimL (aftE l) := ⟨_, rfl⟩
  rw [← hT] at HTT
  obtain ⟨X, hX⟩ : ∃ X, X = aftE l := ⟨_, rfl⟩
  rw [← hX] at HCU HTT
  by_cases hm : 61 ∈ l
  · rw [decide_eq_true hm] at HCU
    cases hp : Lib.hasPrefix l [91] with
    | true =>
      have hE := asg_nohead hp
      rw [hp] at HHP
      obtain ⟨K, hK⟩ : ∃ K, K = keyL l := ⟨_, rfl⟩
      rw [← hK] at HTR
      have HE := Lib.hid hE
      clear hE hm hp hl hG hB hT hX hK
      go_enter Tryz.func49, Tryz.ntmps49
      go_wp2_with (first
          | (go_at_call 74; ((with_reducible refine (HCU.out _).mono ?_); rintro e w1 ⟨rfl, b1⟩))
          | (go_at_call 75; ((with_reducible refine (HTR.out _).mono ?_); rintro e w2 ⟨rfl, b2⟩); have B2 := Lib.hid (thn_x b1 b2); clear b1 b2)
          | (go_at_call 76; ((with_reducible refine (HHP.out _).mono ?_); rintro e w1 ⟨rfl, rfl⟩)))
      go_ret3
      exact ⟨by unfold asgK asgW; rw [HE.out]; rfl, B2.out⟩
    | false =>
      rw [hp] at HHP
      by_cases h0 : keyL l = []
      · have hE := asg_nokey h0
        have e0 : (bs (keyL l)).toList.isEmpty = true := by rw [bs_toList, h0]; rfl
        have e1 : ((bs (keyL l)).toList == []) = true := by rw [bs_toList, h0]; rfl
        obtain ⟨K, hK⟩ : ∃ K, K = keyL l := ⟨_, rfl⟩
        rw [← hK] at HTR e0 e1
        have HE := Lib.hid hE
        clear hE hm hp hl hG hB hT hX hK h0
        go_enter Tryz.func49, Tryz.ntmps49
        go_wp2_with (first
            | (go_at_call 74; ((with_reducible refine (HCU.out _).mono ?_); rintro e w1 ⟨rfl, b1⟩))
            | (go_at_call 75; ((with_reducible refine (HTR.out _).mono ?_); rintro e w2 ⟨rfl, b2⟩); have B2 := Lib.hid (thn_x b1 b2); clear b1 b2)
            | (go_at_call 76; ((with_reducible refine (HHP.out _).mono ?_); rintro e w1 ⟨rfl, rfl⟩)))
        go_ret3
        exact ⟨by unfold asgK asgW; rw [HE.out]; rfl, B2.out⟩
      · have e0 : (bs (keyL l)).toList.isEmpty = false := ne_bs_x h0
        have e1 : ((bs (keyL l)).toList == []) = false := by rw [bs_toList]; exact beq_eq_false_iff_ne.2 h0
        cases hc : Lib.containsAny (keyL l) [32, 9, 13] with
        | true =>
          have hE := asg_white hc
          rw [hc] at HCA
          obtain ⟨K, hK⟩ : ∃ K, K = keyL l := ⟨_, rfl⟩
          rw [← hK] at HTR e0 e1 HCA
          have HE := Lib.hid hE
          clear hE hm hp hl hG hB hT hX hK h0 hc
          go_enter Tryz.func49, Tryz.ntmps49
          go_wp2_with (first
              | (go_at_call 74; ((with_reducible refine (HCU.out _).mono ?_); rintro e w1 ⟨rfl, b1⟩))
              | (go_at_call 75; ((with_reducible refine (HTR.out _).mono ?_); rintro e w2 ⟨rfl, b2⟩); have B2 := Lib.hid (thn_x b1 b2); clear b1 b2)
              | (go_at_call 76; ((with_reducible refine (HHP.out _).mono ?_); rintro e w1 ⟨rfl, rfl⟩))
              | (go_at_call 73; ((with_reducible refine (HCA.out _).mono ?_); rintro e w3 ⟨rfl, b3⟩); have B3 := Lib.hid (thn_x B2.out b3); clear b3))
          go_ret3
          exact ⟨by unfold asgK asgW; rw [HE.out]; rfl, B3.out⟩
        | false =>
          have hE := asg_right hm hp h0 hc
          rw [hc] at HCA
          rw [← hT] at hE
          obtain ⟨K, hK⟩ : ∃ K, K = keyL l := ⟨_, rfl⟩
          rw [← hK] at HTR e0 e1 HCA hE
          have HE := Lib.hid hE
          clear hE hm hp hl hG hB hT hX hK h0 hc
          go_enter Tryz.func49, Tryz.ntmps49
          go_wp2_with (first
              | (go_at_call 74; ((with_reducible refine (HCU.out _).mono ?_); rintro e w1 ⟨rfl, b1⟩))
              | (go_at_call 75; ((with_reducible refine (HTR.out _).mono ?_); rintro e w2 ⟨rfl, b2⟩); have B2 := Lib.hid (thn_x b1 b2); clear b1 b2)
              | (go_at_call 76; ((with_reducible refine (HHP.out _).mono ?_); rintro e w1 ⟨rfl, rfl⟩))
              | (go_at_call 73; ((with_reducible refine (HCA.out _).mono ?_); rintro e w3 ⟨rfl, b3⟩); have B3 := Lib.hid (thn_x B2.out b3); clear b3)
              | (go_at_call 66; ((with_reducible refine (HTT.out _ B3.out).mono ?_); rintro e w4 ⟨rfl, b4⟩); have B4 := Lib.hid (thn_x B3.out b4); clear b4))
          go_ret3
          exact ⟨by unfold asgK asgW; rw [HE.out]; rfl, B4.out⟩
  · have hE := asg_nof hm
    rw [decide_eq_false hm] at HCU
    obtain ⟨K, hK⟩ : ∃ K, K = keyL l := ⟨_, rfl⟩
    rw [← hK] at HTR
    have HE := Lib.hid hE
    clear hE hm hl hG hB hT hX hK
    go_enter Tryz.func49, Tryz.ntmps49
    go_wp2_with (first
        | (go_at_call 74; ((with_reducible refine (HCU.out _).mono ?_); rintro e w1 ⟨rfl, b1⟩))
        | (go_at_call 75; ((with_reducible refine (HTR.out _).mono ?_); rintro e w2 ⟨rfl, b2⟩); have B2 := Lib.hid (thn_x b1 b2); clear b1 b2))
    go_ret3
    exact ⟨by unfold asgK asgW; rw [HE.out]; rfl, B2.out⟩

theorem assignment13 (s : ByteArray) (w : World) (hG : G12 w) (hs : s.size < 4294967281) : Calls Tryz.prog 49 #[.string s] w fun e w' => e = .returned (.tuple #[.string (bs (asgK s.data.toList)), .string (bs (asgW s.data.toList)), .bool (asgL s.data.toList).isSome]) ∧ Below w.heap.size w w' := by
  have := assignment_in s.data.toList (by rw [← Lib.size_eq]; exact hs) w hG
  rwa [bs_self] at this
end Go.Proofs.YtgigdhincpcdbaaGreatDoor
namespace Go.Proofs.YtgigdhincpcdbaaGreatDoor
open Go.RowKit Go.Shelf
set_option linter.unusedVariables false
set_option linter.unusedSimpArgs false
attribute [local go_sem ↓] Go.wp_at_zero Go.wp_at_succ

/-- The closure that records a fault. -/
abbrev cloU (c b0 : Nat) : Value := (.func (.func 33) #[] #[.pointer (some ⟨c, 0, none⟩), .pointer (some ⟨b0, 0, none⟩)])
/-- What the reader has come to: the notes' box at c, the reader's own block behind it, rows behind both. -/
structure UAt (c b0 : Nat) (fn : ByteArray) (vN vA : Value) (st : US) (W : World) : Prop where
  box : Boxed W c 38 vN
  nts : W.ownsRow (c + 2) 47 4 vN st.nts.length (rowC encN st.nts)
  rdr : W.heap[c + 1]? = some (.cells #[.string fn, .string (bs st.sec), vA, cloU c b0] 69 (0, 0))
  asl : W.ownsRow (c + 2) 60 5 vA st.asl.length (rowC encA st.asl)
section
variable {c b0 : Nat} {fn : ByteArray} {vN vA : Value} {st : US} {W : World}
theorem UAt.size (h : UAt c b0 fn vN vA st W) : c + 2 ≤ W.heap.size := (Array.getElem?_eq_some_iff.1 h.rdr).1
theorem UAt.x0 (h : UAt c b0 fn vN vA st W) : W.cell? ⟨c + 1, 0, none⟩ = some (.string fn) := (cell_of_row W (c + 1) 0 _ _ (0, 0) h.rdr).trans rfl
theorem UAt.x1 (h : UAt c b0 fn vN vA st W) : W.cell? ⟨c + 1, 1, none⟩ = some (.string (bs st.sec)) := (cell_of_row W (c + 1) 1 _ _ (0, 0) h.rdr).trans rfl
theorem UAt.x2 (h : UAt c b0 fn vN vA st W) : W.cell? ⟨c + 1, 2, none⟩ = some vA := (cell_of_row W (c + 1) 2 _ _ (0, 0) h.rdr).trans rfl
theorem UAt.x3 (h : UAt c b0 fn vN vA st W) : W.cell? ⟨c + 1, 3, none⟩ = some (cloU c b0) := (cell_of_row W (c + 1) 3 _ _ (0, 0) h.rdr).trans rfl
theorem UAt.frz (h : UAt c b0 fn vN vA st W) (j : Nat) : W.frozen? ⟨c + 1, j, none⟩ = false := frozen_of_row W (c + 1) j _ _ h.rdr
theorem UAt.on {W' : World} (h : UAt c b0 fn vN vA st W) (b : Below W.heap.size W W') : UAt c b0 fn vN vA st W' :=
  ⟨boxed_below h.box b, owns_same h.nts fun g cs fz hg => (b.block g (Array.getElem?_eq_some_iff.1 hg).1).trans hg, (b.block _ (Array.getElem?_eq_some_iff.1 h.rdr).1).trans h.rdr, owns_same h.asl fun g cs fz hg => (b.block g (Array.getElem?_eq_some_iff.1 hg).1).trans hg⟩
theorem UAt.sec_set (h : UAt c b0 fn vN vA st W) (s : List UInt8) : UAt c b0 fn vN vA ⟨s, st.asl, st.nts⟩ (W.setCell ⟨c + 1, 1, none⟩ (.string (bs s))) := by
  have hs : ∀ (k : Nat) (cs : Array Value) (ty : TypeId) (fz : Nat × Nat), W.heap[k]? = some (.cells cs ty fz) → ty ≠ 69 → (W.setCell ⟨c + 1, 1, none⟩ (.string (bs s))).heap[k]? = some (.cells cs ty fz) := fun k cs ty fz hk hne =>
    (heap_setCell_other W ⟨c + 1, 1, none⟩ k _ (fun e => by subst e; exact obj_ne hk h.rdr hne)).trans hk
  refine ⟨hs _ _ _ _ h.box (by decide), owns_same h.nts fun g cs fz hg => hs g cs _ fz hg (by decide), ?_, owns_same h.asl fun g cs fz hg => hs g cs _ fz hg (by decide)⟩
  have hr := h.rdr
  simp [World.setCell, Array.getElem?_modify, hr]
theorem UAt.put_note {wA : World} {v' : Value} {O' : List Nte} (h : UAt c b0 fn vN vA st W) (hg : W.grownBy wA vN.ownBlock) (hO : wA.ownsRow (c + 2) 47 4 v' O'.length (rowC encN O')) :
    Boxed wA c 38 vN ∧ UAt c b0 fn v' vA ⟨st.sec, st.asl, O'⟩ (wA.setCell ⟨c, 0, none⟩ v') ∧ Below c W (wA.setCell ⟨c, 0, none⟩ v') := by
  have ka := ks_app h.nts hg
  have hb := ks_box ka h.box (notT (by decide))
  have hs : ∀ (k : Nat) (cs : Array Value) (ty : TypeId) (fz : Nat × Nat), W.heap[k]? = some (.cells cs ty fz) → ty ≠ 47 → ty ≠ 38 → (wA.setCell ⟨c, 0, none⟩ v').heap[k]? = some (.cells cs ty fz) := fun k cs ty fz hk h1 h2 =>
    (heap_setCell_other wA ⟨c, 0, none⟩ k _ (fun e => by subst e; exact obj_ne hk h.box h2)).trans (ka.2 k _ hk (notT h1))
  refine ⟨hb, ⟨hb.set v', owns_same hO fun g cs fz hg2 => (heap_setCell_other wA ⟨c, 0, none⟩ g _ (fun e => by subst e; exact obj_ne hg2 hb (by decide))).trans hg2, hs _ _ _ _ h.rdr (by decide) (by decide), owns_same h.asl fun g cs fz hg2 => hs g cs _ fz hg2 (by decide) (by decide)⟩, ?_⟩
  refine ((Below.refl c W).grown hg (by have := h.size; omega) (fun k e => ?_)).setCell (p := ⟨c, 0, none⟩) (Nat.le_refl _) _
  have := (h.nts.lt k e).1
  omega
theorem UAt.put_asn {wA : World} {v' : Value} {O' : List Asn} (h : UAt c b0 fn vN vA st W) (hg : W.grownBy wA vA.ownBlock) (hO : wA.ownsRow (c + 2) 60 5 v' O'.length (rowC encA O')) :
    wA.heap[c + 1]? = some (.cells #[.string fn, .string (bs st.sec), vA, cloU c b0] 69 (0, 0)) ∧ UAt c b0 fn vN v' ⟨st.sec, O', st.nts⟩ (wA.setCell ⟨c + 1, 2, none⟩ v') ∧ Below c W (wA.setCell ⟨c + 1, 2, none⟩ v') := by
  have ka := ks_app h.asl hg
  have hb := ka.2 _ _ h.rdr (notT (by decide))
  have hs : ∀ (k : Nat) (cs : Array Value) (ty : TypeId) (fz : Nat × Nat), W.heap[k]? = some (.cells cs ty fz) → ty ≠ 60 → ty ≠ 69 → (wA.setCell ⟨c + 1, 2, none⟩ v').heap[k]? = some (.cells cs ty fz) := fun k cs ty fz hk h1 h2 =>
    (heap_setCell_other wA ⟨c + 1, 2, none⟩ k _ (fun e => by subst e; exact obj_ne hk h.rdr h2)).trans (ka.2 k _ hk (notT h1))
  refine ⟨hb, ⟨hs _ _ _ _ h.box (by decide) (by decide), owns_same h.nts fun g cs fz hg2 => hs g cs _ fz hg2 (by decide) (by decide), ?_, owns_same hO fun g cs fz hg2 => (heap_setCell_other wA ⟨c + 1, 2, none⟩ g _ (fun e => by subst e; exact obj_ne hg2 hb (by decide))).trans hg2⟩, ?_⟩
  · simp [World.setCell, Array.getElem?_modify, hb]
  · refine ((Below.refl c W).grown hg (by have := h.size; omega) (fun k e => ?_)).setCell (p := ⟨c + 1, 2, none⟩) (show c ≤ c + 1 by omega) _
    have := (h.asl.lt k e).1
    omega
end
set_option maxRecDepth 100000 in
set_option maxHeartbeats 8000000 in
theorem fault_call (c b0 : Nat) (fn : ByteArray) (vN vA : Value) (st : US) (V : World) (nr : Int) (t : List UInt8) (ht : t.length ≤ 134217728) (hO : st.nts.length ≤ 1000) (hF : V.cell? ⟨b0, 0, none⟩ = some (.string fn)) (h : UAt c b0 fn vN vA st V) :
    Calls Tryz.prog 33 #[.agg #[.int .i64 nr, .string (bs t)], .pointer (some ⟨c, 0, none⟩), .pointer (some ⟨b0, 0, none⟩)] V fun e V' => e = .returned (.tuple #[]) ∧ (∃ v', UAt c b0 fn v' vA ⟨st.sec, st.asl, st.nts ++ [⟨fn, nr, 130, bs (t.take 60)⟩]⟩ V') ∧ Below c V V' := by
  obtain ⟨j0, hj0, hy0, hy1, hy2⟩ := info_parts nte_info
  have JI := Lib.hid hj0
  have JZ0 := Lib.hid hy0
  have JZ1 := Lib.hid hy1
  have JZ2 := Lib.hid hy2
  obtain ⟨k, hk⟩ : ∃ k, k = min t.length 60 := ⟨_, rfl⟩
  have HTK := Lib.hid (show (bs t).extract 0 k = bs (t.take 60) by
    rw [bs_sub13, List.drop_zero, Nat.sub_zero, hk]
    congr 1
    rw [List.take_eq_take_iff]
    omega)
  obtain ⟨S, hS⟩ : ∃ S, S = bs t := ⟨_, rfl⟩
  have hsz : S.size = t.length := by rw [hS, bs_size]
  rw [← hS] at HTK ⊢
  have hmin : min (S.size : Int) 60 = k := by omega
  have k0 : (0 : Int) ≤ k := by omega
  have k1 : (k : Int) ≤ S.size := by omega
  have cb := h.box.cell
  have fb := h.box.frozen
  have HU := Lib.hid (h.on (ball V (.cells #[.int .i64 nr, .string S] 66)))
  have hz : c < V.heap.size := by have := h.size; omega
  have hbz : b0 < V.heap.size := World.block_lt_of_cell? V _ hF
  have HZ := Lib.hid h.size
  have HO := Lib.hid hO
  have HB1 := Lib.hid (ball V (.cells #[.int .i64 nr, .string S] 66))
  obtain ⟨X, hX⟩ : ∃ X, X = bs (t.take 60) := ⟨_, rfl⟩
  rw [← hX] at HTK ⊢
  have HN := Lib.hid (news_row (V.alloc (.cells #[.int .i64 nr, .string S] 66)) (encN ⟨fn, nr, 130, S.extract 0 k⟩) 47)
  rw [World.size_alloc] at HN
  obtain ⟨nN, hnN⟩ : ∃ n, n = st.nts.length := ⟨_, rfl⟩
  have HNN := Lib.hid hnN
  clear hj0 hy0 hy1 hy2 hk hS hsz ht hO h hX hnN
  go_enter Tryz.func33, Tryz.ntmps33
  go_wp2_with (first
    | (at_builtin
       go_loud (refine wpList_append_own _ rfl _ _ 38 rfl (c + 2) 47 j0 _ 4 48 Tryz.underlying38 JI.out JZ0.out JZ1.out JZ2.out rfl (by omega) vN _ _ rfl (HU.out.nts.alloc _) ⟨V.heap.size + 1, 0, none⟩ 1 1 (encN ⟨fn, nr, 130, S.extract 0 k⟩) rfl rfl HN.out (encN_one _) (by have := HO.out; unfold maxLen; omega) (by have := HO.out; omega) (by have := HZ.out; simp; omega) ?_)
       intro v' wA oA hA _
       obtain ⟨qA, cpA, rfl⟩ := own_form12 oA
       rw [HTK.out] at oA
       obtain ⟨q1, q2, q3⟩ := UAt.put_note (O' := st.nts ++ [⟨fn, nr, 130, X⟩]) (HU.out.on (ball _ _)) hA (by rw [List.length_append, List.length_singleton, rowC_app, rowC_one1]; exact oA)
       have cA := q1.cell
       have fA := q1.frozen
       have Q2 := Lib.hid q2
       have Q3 := Lib.hid q3
       clear oA hA q1 q2 q3))
  go_end0
  exact ⟨rfl, ⟨_, Q2.out⟩, ((HB1.out.mono (by omega)).trans ((ball _ _).mono (by simp; omega))).trans Q3.out⟩
end Go.Proofs.YtgigdhincpcdbaaGreatDoor
