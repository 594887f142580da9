/- What the library's calls return that the landed asm makes: numbers as digits, digits as numbers, words cut off, ends cut off. Conditions: the library's table of powers of ten, and its two errors, lie in their variables; a string of at most 2^47 bytes. -/
import Derived.Test.YtlneiiljdghmjaaDoorHb
import Derived.Test.YtlneiiljdghmjaaDoorHc
import Derived.Test.YtlneiiljdghmjaaDoorIs
import Derived.Test.YtlneiiljdghmjaaDoorAh
import Derived.Lib.AppendIntMem
import Derived.Lib.AtoiErrMem
import Derived.Lib.IndexLaws
import Derived.OwnWalk
import Derived.Deep.QuietTactic
import Derived.WalkSmall
namespace Go.Proofs.YtlneiiljdghmjaaDoor
open Go.RowKit Go.Shelf Go.Sort
set_option linter.unusedVariables false
set_option linter.unusedSimpArgs false
attribute [local go_sem ↓] Go.wp_at_zero Go.wp_at_succ

/-- The table of powers of ten lies in its variable; so do the codes. -/
structure GA (w : World) : Prop where
  rows : GW w
  pow : Lib.TabIs Tryd.prog w "internal/strconv.uint64pow10" .u64 Lib.pow10Tab
theorem tab_on {w w' : World} (h : Lib.TabIs Tryd.prog w "internal/strconv.uint64pow10" .u64 Lib.pow10Tab) (b : Below w.heap.size w w') : Lib.TabIs Tryd.prog w' "internal/strconv.uint64pow10" .u64 Lib.pow10Tab := by
  unfold Lib.TabIs World.var? at *
  cases hg : Program.globalNamed Tryd.prog "internal/strconv.uint64pow10" with
  | none => simp [hg] at h
  | some g =>
    simp only [hg, Option.bind_some] at h ⊢
    have hlt : g < w.heap.size := by
      rcases Nat.lt_or_ge g w.heap.size with h' | h'
      · exact h'
      · rw [Array.getElem?_eq_none h'] at h; simp at h
    rw [b.block g hlt]
    exact h
theorem GA.on {w w' : World} (h : GA w) (b : Below w.heap.size w w') : GA w' := ⟨h.rows.on b, tab_on h.pow b⟩
theorem GA.alloc {w : World} (h : GA w) (o : Obj) : GA (w.alloc o) := h.on ((Below.refl _ _).alloc (Nat.le_refl _) o)
/-- The library's two errors lie in their variables, too. -/
structure GP (w : World) : Prop extends GA w where
  syn : ∃ t p, w.cell? ⟨3, 0, none⟩ = some (.iface t p)
  rng : ∃ t p, w.cell? ⟨4, 0, none⟩ = some (.iface t p)
theorem GP.on {w w' : World} (h : GP w) (b : Below w.heap.size w w') : GP w' := by
  obtain ⟨t0, p0, h0⟩ := h.syn
  obtain ⟨t1, p1, h1⟩ := h.rng
  exact { h.toGA.on b with syn := ⟨t0, p0, (b.cell (World.block_lt_of_cell? w _ h0)).trans h0⟩, rng := ⟨t1, p1, (b.cell (World.block_lt_of_cell? w _ h1)).trans h1⟩ }
theorem dec_dig : ∀ (n : Nat), Lib.decDigits n = digL n := by
  intro n
  induction n using Nat.strongRecOn with
  | _ n ih =>
    rw [Lib.decDigits]
    by_cases h : n < 10
    · rw [dif_pos h, digL_one h]
    · rw [dif_neg h, ih (n / 10) (by omega)]
      exact (digL_more (by omega)).symm
theorem fmt_small (n : Nat) (h : n < 100) (w : World) : Calls Tryd.prog 65 #[.int .u64 n, .int .i64 10] w fun e w' => e = .returned (.string (bs (digL n))) ∧ Below w.heap.size w w' := by
  have HC := Lib.hid (fun W => Tryd.internal_strconv_small n h W)
  have i1 : (n : Int) < 100 := by omega
  have hw : IntKind.i64.wrap (n : Int) = n := IntWalk.i64_in _ (by omega)
  have HD := Lib.hid (dec_dig n)
  clear h
  go_enter Tryd.func65, Tryd.ntmps65
  go_wp2_with (go_at_call 71; ((with_reducible refine (HC.out _).mono ?_); rintro e w1 ⟨rfl, rfl⟩))
  go_ret
  exact ⟨by rw [HD.out]; rfl, Below.refl _ _⟩
set_option maxHeartbeats 12800000 in
set_option maxRecDepth 100000 in
theorem fmt_big (u : Nat) (hu : 100 ≤ u) (hu64 : u < 18446744073709551616) (w : World) (htab : Lib.TabIs Tryd.prog w "internal/strconv.uint64pow10" .u64 Lib.pow10Tab) :
    Calls Tryd.prog 65 #[.int .u64 u, .int .i64 10] w fun e w' => e = .returned (.string (bs (digL u))) ∧ Below w.heap.size w w' := by
  have hu1 : 1 ≤ u := by omega
  have hnd20 : Lib.nDigits u ≤ 20 := by have := Lib.numDigits_eq u hu1 hu64; split at this <;> omega
  have hal : Program.arrayLen Tryd.prog 103 = 24 := by simp [Program.arrayLen, Tryd.underlying103]
  have hsl : ∀ W, (Instr.sliceAt 103 (.pointer (some ⟨w.heap.size, 0, none⟩)) none (some (.int .i64 (Lib.nDigits u : Int))) none).run Tryd.prog W = .ok (.slice (some ⟨w.heap.size, 0, none⟩) (Lib.nDigits u) 24) W := fun W => by
    rw [run_sliceAt_array_h W 103 ⟨w.heap.size, 0, none⟩ (by simp [Program.arrayLen, Program.elem, Tryd.underlying103]) .i64 (Lib.nDigits u : Int) (by omega) (by rw [hal]; omega)]
    go_simp
  have hH0 := Lib.holds_zero0 w 103 (Lib.nDigits u) (by omega)
  have hfmt := Tryd.internal_strconv_formatBase10 w.heap.size 0 24 u (Array.replicate (Lib.nDigits u) 0) (w.alloc (.cells Lib.zeros24 103)) hH0 (by rw [Array.size_replicate]; exact Lib.lt_pow_nDigits u) hu64 (by rw [Array.size_replicate]; omega)
  rw [Array.size_replicate] at hfmt
  have HH0 := Lib.hid hH0
  have HND := Lib.hid (fun W (h : Lib.TabIs Tryd.prog W "internal/strconv.uint64pow10" .u64 Lib.pow10Tab) => Tryd.internal_strconv_numDigits u hu1 hu64 W h)
  have HT := Lib.hid htab
  have HF := Lib.hid hfmt
  have iu : ¬ (u : Int) < 100 := by omega
  have iv : (100 : Int) ≤ (u : Int) := by omega
  clear hH0 hal hfmt hu1 hu64 htab
  go_enter Tryd.func65, Tryd.ntmps65
  go_wp2_with (go_at_call 72; (refine (HND.out _ (Lib.tabIs_alloc HT.out _)).mono ?_); rintro e w1 ⟨rfl, rfl⟩)
  go_at_call 73
  refine (HF.out).mono ?_
  rintro e w' ⟨rfl, k, v', dk, rfl, hF⟩
  have hcv : (convert 36 9 (.slice (some ⟨w.heap.size, 0, none⟩) (Lib.nDigits u) 24)).run Tryd.prog ((putRow (fun (b : UInt8) => Value.int .u8 (b.toNat : Int)) (w.alloc (.cells Lib.zeros24 103)) w.heap.size 0 dk).drewN k) = .ok (.string ⟨(Lib.decDigits u).toArray⟩) ((putRow (fun (b : UInt8) => Value.int .u8 (b.toNat : Int)) (w.alloc (.cells Lib.zeros24 103)) w.heap.size 0 dk).drewN k) := by
    have h := run_convert_bytes_back (P := Tryd.prog) ((putRow (fun (b : UInt8) => Value.int .u8 (b.toNat : Int)) (w.alloc (.cells Lib.zeros24 103)) w.heap.size 0 dk).drewN k) 36 9 5 ⟨w.heap.size, 0, none⟩ 24 (Lib.decDigits u) Tryd.underlying36 Tryd.underlying5 Tryd.underlying9 (fun j hj => by
      rw [Lib.row_is_numeral hF j hj, Lib.add_plain, World.cell?_drewN]
      exact cell?_putRow (fun (b : UInt8) => Value.int .u8 (b.toNat : Int)) _ w.heap.size 0 _ dk HH0.out (by rw [hF.size, Array.size_replicate]) j (by rw [hF.size]; rw [Lib.decDigits_length] at hj; exact hj))
    rw [Lib.decDigits_length] at h
    exact h
  obtain ⟨os, eo⟩ := Lib.fin_at w (.cells Lib.zeros24 103) dk k 0
  have HB := Lib.hid (show Below w.heap.size w ((putRow (fun (b : UInt8) => Value.int .u8 (b.toNat : Int)) (w.alloc (.cells Lib.zeros24 103)) w.heap.size 0 dk).drewN k) by rw [eo]; exact Lib.below_grow _ w (Nat.le_refl _) k os)
  have HD := Lib.hid (dec_dig u)
  clear eo
  go_wp2
  go_ret
  exact ⟨by rw [HD.out]; rfl, HB.out⟩
theorem fmt_call (n : Nat) (hn : n < 18446744073709551616) (w : World) (hG : GA w) : Calls Tryd.prog 54 #[.int .u64 n, .int .i64 10] w fun e w' => e = .returned (.string (bs (digL n))) ∧ Below w.heap.size w w' := by
  have HC := Lib.hid (show Calls Tryd.prog 65 #[.int .u64 n, .int .i64 10] w fun e w' => e = .returned (.string (bs (digL n))) ∧ Below w.heap.size w w' by
    by_cases h : n < 100
    · exact fmt_small n h w
    · exact fmt_big n (by omega) hn w hG.pow)
  clear hn
  go_enter Tryd.func54, Tryd.ntmps54
  go_wp2_with (go_at_call 65; ((with_reducible refine (HC.out).mono ?_); rintro e w1 ⟨rfl, b1⟩))
  go_ret
  exact ⟨rfl, b1⟩
theorem parse_yes (l : List UInt8) (hl : l.length ≤ 140737488355328) (u : Nat) (h : Lib.parseUintB 32 l = .ok u) (w : World) : Calls Tryd.prog 64 #[.string (bs l), .int .i64 10, .int .i64 32] w fun e w' => e = .returned (.tuple #[.int .u64 u, .nilIface]) ∧ Below w.heap.size w w' :=
  (Tryd.strconv_ParseUint_10_at32_ok (bs l) (by rw [bs_size]; omega) u (by rw [bs_list]; exact h) w).mono fun e w' ⟨h1, h2⟩ => ⟨h1, by
    rcases h2 with rfl | rfl
    · exact Below.refl _ _
    · exact Lib.bytesWorld_below _ _ _⟩
theorem parse_no (l : List UInt8) (hl : l.length ≤ 140737488355328) (h : ∀ u, Lib.parseUintB 32 l ≠ .ok u) (w : World) (hG : GP w) : Calls Tryd.prog 64 #[.string (bs l), .int .i64 10, .int .i64 32] w fun e w' => ∃ (v : Int) (N : Nat), e = .returned (.tuple #[.int .u64 v, .iface 112 (.pointer (some ⟨N, 0, none⟩))]) ∧ 0 ≤ v ∧ v < 4294967296 ∧ Below w.heap.size w w' := by
  obtain ⟨t0, p0, h0⟩ := hG.syn
  obtain ⟨t1, p1, h1⟩ := hG.rng
  rcases hr : Lib.parseUintB 32 l with u | _ | _
  · exact absurd hr (h u)
  · exact (Tryd.strconv_ParseUint_10_at32_syntax (bs l) (by rw [bs_size]; omega) (by rw [bs_list]; exact hr) _ w h0 (Or.inr ⟨_, _, rfl⟩)).mono fun e w' ⟨N, e1, _, _, e2⟩ => ⟨0, N, e1, by omega, by omega, e2⟩
  · exact (Tryd.strconv_ParseUint_10_at32_range (bs l) (by rw [bs_size]; omega) (by rw [bs_list]; exact hr) _ w h1 (Or.inr ⟨_, _, rfl⟩)).mono fun e w' ⟨N, e1, _, _, e2⟩ => ⟨4294967295, N, e1, by omega, by omega, e2⟩
theorem trimP_call (l : List UInt8) (w : World) : Calls Tryd.prog 68 #[.string (bs l), .string ⟨#[76]⟩] w fun e w' => e = .returned (.string (bs (Lib.trimPrefix l [76]))) ∧ w = w' :=
  (Tryd.strings_TrimPrefix (bs l) ⟨#[76]⟩ w).mono fun e w' ⟨h1, h2⟩ => ⟨h1, h2.symm⟩
theorem trimS_call (l : List UInt8) (hl : l.length ≤ 140737488355328) (w : World) : Calls Tryd.prog 49 #[.string (bs l), .string ⟨#[10]⟩] w fun e w' => e = .returned (.string (bs (Lib.trimSuffix l [10]))) ∧ w = w' :=
  (Tryd.strings_TrimSuffix (bs l) ⟨#[10]⟩ w (by rw [bs_size]; omega)).mono fun e w' ⟨h1, h2⟩ => ⟨h1, h2.symm⟩
theorem hasS_call (l : List UInt8) (hl : l.length ≤ 140737488355328) (w : World) : Calls Tryd.prog 50 #[.string (bs l), .string ⟨#[58]⟩] w fun e w' => e = .returned (.bool (Lib.hasSuffix l [58])) ∧ w = w' :=
  (Tryd.strings_HasSuffix (bs l) ⟨#[58]⟩ w (by rw [bs_size]; omega)).mono fun e w' ⟨h1, h2⟩ => ⟨h1, h2.symm⟩
theorem index8_call (l : List UInt8) (c : UInt8) (w : World) : Calls Tryd.prog 66 #[.string (bs l), .int .u8 (c.toNat : Int)] w fun e w' => e = .returned (.int .i64 (Lib.indexByte l c)) ∧ w = w' :=
  (Tryd.stringslite_IndexByte (bs l) c.toNat w).mono fun e w' ⟨h1, h2⟩ => ⟨by rw [h1, bs_list, Int.toNat_natCast]; simp, h2.symm⟩
theorem bef_index : ∀ (l : List UInt8), (Lib.indexByte l 32 = -1 ∧ befL l = l ∧ aftL l = []) ∨ ∃ i : Nat, Lib.indexByte l 32 = i ∧ i < l.length ∧ befL l = l.take i ∧ aftL l = l.drop (i + 1)
  | [] => Or.inl ⟨rfl, rfl, rfl⟩
  | c :: r => by
    unfold Lib.indexByte befL aftL
    by_cases h : c = 32
    · subst h
      exact Or.inr ⟨0, rfl, by simp, rfl, rfl⟩
    · rw [if_neg h, if_neg h, beq_eq_false_iff_ne.2 h, if_neg Bool.false_ne_true]
      rcases bef_index r with ⟨h1, h2, h3⟩ | ⟨i, h1, h2, h3, h4⟩
      · rw [h1, h2, h3]; exact Or.inl ⟨rfl, rfl, rfl⟩
      · rw [h1, h3, h4]
        refine Or.inr ⟨i + 1, ?_, by simp; omega, rfl, rfl⟩
        rw [if_neg (by rw [beq_iff_eq]; omega)]
        omega
theorem head_index : ∀ (l : List UInt8), (Lib.indexByte l 10 = -1 ∧ headN l = l ∧ tailN l = []) ∨ ∃ i : Nat, Lib.indexByte l 10 = i ∧ i < l.length ∧ headN l = l.take (i + 1) ∧ tailN l = l.drop (i + 1)
  | [] => Or.inl ⟨rfl, rfl, rfl⟩
  | c :: r => by
    unfold Lib.indexByte headN tailN
    by_cases h : c = 10
    · subst h
      exact Or.inr ⟨0, rfl, by simp, rfl, rfl⟩
    · rw [if_neg h, if_neg h, beq_eq_false_iff_ne.2 h, if_neg Bool.false_ne_true]
      rcases head_index r with ⟨h1, h2, h3⟩ | ⟨i, h1, h2, h3, h4⟩
      · rw [h1, h2, h3]; exact Or.inl ⟨rfl, rfl, rfl⟩
      · rw [h1, h3, h4]
        refine Or.inr ⟨i + 1, ?_, by simp; omega, rfl, rfl⟩
        rw [if_neg (by rw [beq_iff_eq]; omega)]
        omega
theorem bs_sub (l : List UInt8) (a b : Nat) : (bs l).extract a b = bs ((l.drop a).take (b - a)) := by
  rw [Lib.extract_eq, bs_list]; rfl
set_option maxRecDepth 100000 in
theorem index32_call (l : List UInt8) (w : World) : Calls Tryd.prog 76 #[.string (bs l), .string ⟨#[32]⟩] w fun e w' => e = .returned (.int .i64 (Lib.indexByte l 32)) ∧ w = w' := by
  have HC := Lib.hid (show ∀ W, Calls Tryd.prog 66 #[.string (bs l), .int .u8 32] W fun e w' => e = .returned (.int .i64 (Lib.indexByte l 32)) ∧ W = w' from fun W => index8_call l 32 W)
  by_cases h : l = [32]
  · have e1 : ([32] == (bs l).toList) = true := by rw [ByteArray.toList_eq, bs_list, h]; rfl
    have HR := Lib.hid (show Lib.indexByte l 32 = 0 by rw [h]; rfl)
    clear h
    go_enter Tryd.func76, Tryd.ntmps76
    go_wp2
    go_ret
    exact ⟨congrArg (fun v => Ending.returned (.int .i64 v)) HR.out.symm, rfl⟩
  · have e1 : ([32] == (bs l).toList) = false := beq_eq_false_iff_ne.2 fun e => h (by rw [e, ByteArray.toList_eq, bs_list])
    clear h
    go_enter Tryd.func76, Tryd.ntmps76
    go_wp2_with (go_at_call 66; refine (HC.out _).mono ?_; rintro e w1 ⟨rfl, rfl⟩)
    go_ret
    exact ⟨rfl, rfl⟩
theorem cut_in (l : List UInt8) (hl : l.length ≤ 140737488355328) (w : World) : Calls Tryd.prog 67 #[.string (bs l), .string ⟨#[32]⟩] w fun e w' => ∃ b, e = .returned (.tuple #[.string (bs (befL l)), .string (bs (aftL l)), .bool b]) ∧ Below w.heap.size w w' := by
  have HC := Lib.hid (fun W => index32_call l W)
  have hsz : (bs l).size = l.length := bs_size l
  rcases bef_index l with ⟨h1, h2, h3⟩ | ⟨i, h1, hi, h2, h3⟩
  · rw [h1] at HC
    rw [h2, h3]
    clear h1 h2 h3 hsz
    go_enter Tryd.func67, Tryd.ntmps67
    go_wp2_with (go_at_call 76; ((with_reducible refine (HC.out _).mono ?_); rintro e w1 ⟨rfl, rfl⟩))
    go_ret3
    exact ⟨_, rfl, Below.refl _ _⟩
  · rw [h1] at HC
    have H2 := Lib.hid (show (bs l).extract 0 i = bs (befL l) by rw [bs_sub, h2]; rfl)
    have H3 := Lib.hid (show (bs l).extract (i + 1) l.length = bs (aftL l) by rw [bs_sub, h3, List.take_of_length_le (by simp)])
    obtain ⟨n, hn⟩ : ∃ n, n = l.length := ⟨_, rfl⟩
    rw [← hn] at hsz hi hl H3
    have i0 : (0 : Int) ≤ i := by omega
    have i1 : (i : Int) < n := by omega
    have i2 : (n : Int) ≤ 140737488355328 := by omega
    have w1 : IntKind.i64.wrap ((i : Int) + 1) = i + 1 := IntWalk.i64_in _ (by omega)
    have j0 : (0 : Int) ≤ (i : Int) + 1 := by omega
    have j1 : ((i : Int) + 1).toNat = i + 1 := by omega
    clear h1 h2 h3 hn
    go_enter Tryd.func67, Tryd.ntmps67
    go_wp2_with (go_at_call 76; ((with_reducible refine (HC.out _).mono ?_); rintro e w1 ⟨rfl, rfl⟩))
    go_quiet (fail)
    go_wp2
    go_ret3
    exact ⟨true, by rw [H2.out, H3.out]; rfl, below_drewN (Below.refl _ _) nq⟩
theorem cut_call (l : List UInt8) (hl : l.length ≤ 140737488355328) (w : World) : Calls Tryd.prog 59 #[.string (bs l), .string ⟨#[32]⟩] w fun e w' => ∃ b, e = .returned (.tuple #[.string (bs (befL l)), .string (bs (aftL l)), .bool b]) ∧ Below w.heap.size w w' := by
  have HC := Lib.hid (fun W => cut_in l hl W)
  clear hl
  go_enter Tryd.func59, Tryd.ntmps59
  go_wp2_with (go_at_call 67; ((with_reducible refine (HC.out _).mono ?_); rintro e w1 ⟨b, rfl, b1⟩))
  go_ret3
  exact ⟨_, rfl, b1⟩
theorem index10_call (l : List UInt8) (w : World) : Calls Tryd.prog 56 #[.string (bs l), .int .u8 10] w fun e w' => e = .returned (.int .i64 (Lib.indexByte l 10)) ∧ w = w' := by
  have HC := Lib.hid (show ∀ W, Calls Tryd.prog 66 #[.string (bs l), .int .u8 10] W fun e w' => e = .returned (.int .i64 (Lib.indexByte l 10)) ∧ W = w' from fun W => index8_call l 10 W)
  go_enter Tryd.func56, Tryd.ntmps56
  go_wp2_with (go_at_call 66; ((with_reducible refine (HC.out _).mono ?_); rintro e w1 ⟨rfl, rfl⟩))
  go_ret
  exact ⟨rfl, rfl⟩
end Go.Proofs.YtlneiiljdghmjaaDoor
