/- What the landed Turned, Text and the two ways of a suffix return. Conditions: strings of at most 2^47 bytes; the tables lie in their variables. -/
import Derived.Test.YtfmfjnnbldmdlaaDoorKq
import Derived.Test.YtfmfjnnbldmdlaaDoorKf
import Derived.Test.YtfmfjnnbldmdlaaDoorJq
import Derived.Deep.RegionHeld3
namespace Go.Proofs.YtfmfjnnbldmdlaaDoor
open Go.RowKit Go.Shelf
set_option linter.unusedVariables false
set_option linter.unusedSimpArgs false
attribute [local go_sem ↓] Go.wp_at_zero Go.wp_at_succ

theorem thn_v {w V W : World} (a : Below w.heap.size w V) (b : Below V.heap.size V W) : Below w.heap.size w W := a.trans (b.mono a.size)
theorem bs_subV (l : List UInt8) (a b : Nat) : (bs l).extract a b = bs ((l.drop a).take (b - a)) := by
  rw [Lib.extract_eq, bs_list]; rfl
theorem col_index : ∀ (l : List UInt8), (Lib.indexByte l 58 = -1 ∧ colA l = l.length) ∨ (Lib.indexByte l 58 = (colA l : Nat) ∧ colA l < l.length)
  | [] => Or.inl ⟨rfl, rfl⟩
  | c :: r => by
    by_cases h : c = 58
    · subst h
      refine Or.inr ⟨rfl, ?_⟩
      rw [show colA (58 :: r) = 0 from rfl]
      exact Nat.succ_pos _
    · have hc : colA (c :: r) = colA r + 1 := by
        unfold colA
        rw [List.findIdx_cons, show (c == (58 : UInt8)) = false from beq_eq_false_iff_ne.2 h]; rfl
      unfold Lib.indexByte
      rw [beq_eq_false_iff_ne.2 h, if_neg Bool.false_ne_true, hc, List.length_cons]
      rcases col_index r with ⟨h1, h2⟩ | ⟨h1, h2⟩
      · rw [h1]
        exact Or.inl ⟨rfl, by rw [h2]⟩
      · rw [h1]
        refine Or.inr ⟨?_, by omega⟩
        rw [if_neg (by rw [beq_iff_eq]; omega)]
        omega
set_option maxRecDepth 100000 in
theorem index58_call (l : List UInt8) (w : World) : Calls Tryd.prog 43 #[.string (bs l), .string ⟨#[58]⟩] w fun e w' => e = .returned (.int .i64 (Lib.indexByte l 58)) ∧ w = w' := by
  have HC := Lib.hid (show ∀ W, Calls Tryd.prog 54 #[.string (bs l), .int .u8 58] W fun e w' => e = .returned (.int .i64 (Lib.indexByte l 58)) ∧ W = w' from fun W => (index8_call l 58 W).mono fun e w' ⟨h1, h2⟩ => ⟨h1, by first | exact h2 | exact h2.symm⟩)
  by_cases h : l = [58]
  · have e1 : ([58] == (bs l).toList) = true := by rw [ByteArray.toList_eq, bs_list, h]; rfl
    have HR := Lib.hid (show Lib.indexByte l 58 = 0 by rw [h]; rfl)
    clear h
    go_enter Tryd.func43, Tryd.ntmps43
    go_wp2
    go_ret
    exact ⟨congrArg (fun v => Ending.returned (.int .i64 v)) HR.out.symm, rfl⟩
  · have e1 : ([58] == (bs l).toList) = false := beq_eq_false_iff_ne.2 fun e => h (by rw [e, ByteArray.toList_eq, bs_list])
    clear h
    go_enter Tryd.func43, Tryd.ntmps43
    go_wp2_with (go_at_call 54; refine (HC.out _).mono ?_; rintro e w1 ⟨rfl, rfl⟩)
    go_ret
    exact ⟨rfl, rfl⟩
theorem cut58_in (l : List UInt8) (hl : l.length ≤ 140737488355328) (w : World) : Calls Tryd.prog 34 #[.string (bs l), .string ⟨#[58]⟩] w fun e w' => e = .returned (.tuple #[.string (bs (l.take (colA l))), .string (bs (l.drop (colA l + 1))), .bool (decide (colA l < l.length))]) ∧ Below w.heap.size w w' := by
  have HC := Lib.hid (fun W => index58_call l W)
  have hsz : (bs l).size = l.length := bs_size l
  rcases col_index l with ⟨h1, h2⟩ | ⟨h1, hi⟩
  · rw [h1] at HC
    rw [decide_eq_false (show ¬ colA l < l.length by omega), h2, List.take_of_length_le (Nat.le_refl _), List.drop_of_length_le (Nat.le_succ _)]
    clear h1 h2 hsz
    go_enter Tryd.func34, Tryd.ntmps34
    go_wp2_with (go_at_call 43; ((with_reducible refine (HC.out _).mono ?_); rintro e w1 ⟨rfl, rfl⟩))
    go_ret3
    exact ⟨rfl, Below.refl _ _⟩
  · rw [h1] at HC
    rw [decide_eq_true hi]
    obtain ⟨i, hie⟩ : ∃ i, i = colA l := ⟨_, rfl⟩
    rw [← hie] at HC hi ⊢
    have H2 := Lib.hid (show (bs l).extract 0 i = bs (l.take i) by rw [bs_subV]; rfl)
    have H3 := Lib.hid (show (bs l).extract (i + 1) l.length = bs (l.drop (i + 1)) by rw [bs_subV, List.take_of_length_le (by simp)])
    obtain ⟨n, hn⟩ : ∃ n, n = l.length := ⟨_, rfl⟩
    rw [← hn] at hsz hi hl H3
    have i0 : (0 : Int) ≤ i := by omega
    have i1 : (i : Int) < n := by omega
    have i2 : (n : Int) ≤ 140737488355328 := by omega
    have w1 : IntKind.i64.wrap ((i : Int) + 1) = i + 1 := IntWalk.i64_in _ (by omega)
    have j0 : (0 : Int) ≤ (i : Int) + 1 := by omega
    have j1 : ((i : Int) + 1).toNat = i + 1 := by omega
    clear h1 hn hie
    go_enter Tryd.func34, Tryd.ntmps34
    go_wp2_with (go_at_call 43; ((with_reducible refine (HC.out _).mono ?_); rintro e w1 ⟨rfl, rfl⟩))
    go_quiet (fail)
    go_wp2
    go_ret3
    exact ⟨by rw [H2.out, H3.out]; rfl, Go.below_drewN (Below.refl _ _) nq⟩
theorem cut58_call (l : List UInt8) (hl : l.length ≤ 140737488355328) (w : World) : Calls Tryd.prog 24 #[.string (bs l), .string ⟨#[58]⟩] w fun e w' => e = .returned (.tuple #[.string (bs (l.take (colA l))), .string (bs (l.drop (colA l + 1))), .bool (decide (colA l < l.length))]) ∧ Below w.heap.size w w' := by
  have HC := Lib.hid (fun W => cut58_in l hl W)
  obtain ⟨b, hb⟩ : ∃ b, b = decide (colA l < l.length) := ⟨_, rfl⟩
  rw [← hb] at HC ⊢
  clear hl hb
  go_enter Tryd.func24, Tryd.ntmps24
  go_wp2_with (go_at_call 34; ((with_reducible refine (HC.out _).mono ?_); rintro e w1 ⟨rfl, b1⟩))
  go_ret3
  exact ⟨rfl, b1⟩
theorem til_is (l : List UInt8) : turnR (bs l) = (bs (Lib.trimPrefix l [126]), Lib.hasPrefix l [126]) := by
  unfold turnR
  rw [bs_list]
  cases l with
  | nil => rfl
  | cons c r =>
    by_cases h : c = 126
    · subst h; rfl
    · rw [if_neg (show ¬ (c :: r).head? = some 126 from fun e => h (Option.some.inj e))]
      have hp : Lib.hasPrefix (c :: r) [126] = false := by
        show (List.isPrefixOf [126] (c :: r)) = false
        simp [List.isPrefixOf, Ne.symm h]
      unfold Lib.trimPrefix
      rw [hp, if_neg Bool.false_ne_true]
theorem turned15 (s : ByteArray) (w : World) : Calls Tryd.prog 11 #[.string s] w fun e w' => e = .returned (.tuple #[.string (turnR s).1, .bool (turnR s).2]) ∧ Below w.heap.size w w' := by
  obtain ⟨l, rfl⟩ : ∃ l, s = bs l := ⟨s.data.toList, (bs_self s).symm⟩
  have HC := Lib.hid (show ∀ W, Calls Tryd.prog 22 #[.string (bs l), .string ⟨#[126]⟩] W fun e w' => e = .returned (.tuple #[.string (bs (Lib.trimPrefix l [126])), .bool (Lib.hasPrefix l [126])]) ∧ W = w' from fun W => (Tryd.strings_CutPrefix (bs l) ⟨#[126]⟩ W).mono fun e w' ⟨h1, h2⟩ => ⟨h1, h2.symm⟩)
  rw [til_is]
  go_enter Tryd.func11, Tryd.ntmps11
  go_wp2_with (go_at_call 22; ((with_reducible refine (HC.out _).mono ?_); rintro e w1 ⟨rfl, rfl⟩))
  go_ret2
  exact ⟨rfl, Below.refl _ _⟩
/-- What a suffix means. -/
def sufR (s : ByteArray) : Nat × Int := if s = killB then (2147483648, 0) else match errnoR s with | none => (0, 160) | some n => (327680 + n, 0)
set_option maxHeartbeats 1600000 in
theorem suffixA15 (s : ByteArray) (hs : s.size ≤ 1000000) (w : World) (hG : GN w) : Calls Tryd.prog 25 #[.string s] w fun e w' => e = .returned (.tuple #[.int .u32 (sufR s).1, .int .i64 (sufR s).2]) ∧ Below w.heap.size w w' := by
  have HE := Lib.hid (errnoN s w hG (by unfold maxLen; omega))
  by_cases hk : s = killB
  · have hv := Lib.hid (show sufR s = (2147483648, 0) from if_pos hk)
    have t1 : (s.toList == [107, 105, 108, 108]) = true := by rw [hk, show killB = bs [107, 105, 108, 108] from rfl, bs_toList]; rfl
    rw [hv.out]
    clear hs hG hk
    go_enter Tryd.func25, Tryd.ntmps25
    go_wp2
    go_ret2
    exact ⟨rfl, Below.refl _ _⟩
  · have t1 : (s.toList == [107, 105, 108, 108]) = false := beq_eq_false_iff_ne.2 (fun e => hk (list_of_bytes10 (e.trans (bs_toList [107, 105, 108, 108]).symm)))
    cases he : errnoR s with
    | none =>
      have hv := Lib.hid (show sufR s = (0, 160) by unfold sufR; rw [if_neg hk, he])
      rw [he] at HE
      rw [hv.out]
      clear hs hG hk he
      go_enter Tryd.func25, Tryd.ntmps25
      go_wp2_with (go_at_call 35; ((with_reducible refine (HE.out).mono ?_); rintro e w1 ⟨rfl, b1⟩))
      go_ret2
      exact ⟨rfl, b1⟩
    | some x =>
      have hv := Lib.hid (show sufR s = (327680 + x, 0) by unfold sufR; rw [if_neg hk, he])
      have hx4 := errnoR_lt he
      rw [he] at HE
      rw [hv.out]
      have hor : bits .or .u32 (327680 : Int) (x : Int) = ((327680 + x : Nat) : Int) := by
        have h : (327680 ||| x : Nat) = 327680 + x := by
          have := Nat.two_pow_add_eq_or_of_lt (i := 16) (b := x) (by omega) 5
          rw [show 2 ^ 16 * 5 = 327680 from rfl] at this
          exact this.symm
        rw [← h]
        exact u32_or_nat 327680 x (by omega) (by omega)
      clear hs hG hk he
      go_enter Tryd.func25, Tryd.ntmps25
      go_wp2_with (go_at_call 35; ((with_reducible refine (HE.out).mono ?_); rintro e w1 ⟨rfl, b1⟩))
      go_ret2
      exact ⟨rfl, b1⟩
/-- What an action is written as. -/
def sufT (n : Nat) : ByteArray := if n = 2147483648 then killB else if n / 65536 = 5 then errnoNameR (n % 65536) else ⟨#[]⟩
theorem text_suf (e : Ent) (h : e.has = true) : textR e = e.nm ++ ⟨#[58]⟩ ++ sufT e.act := by
  unfold sufT
  by_cases h2 : e.act = 2147483648
  · rw [text_k h h2, if_pos h2]
    rw [show (⟨#[58, 107, 105, 108, 108]⟩ : ByteArray) = ⟨#[58]⟩ ++ killB by decide, ByteArray.append_assoc]
  · rw [if_neg h2]
    by_cases h3 : e.act / 65536 = 5
    · rw [text_e h h2 h3, if_pos h3]
    · rw [text_o h h2 h3, if_neg h3, show (⟨#[]⟩ : ByteArray) = ByteArray.empty from rfl, ByteArray.append_empty]
theorem sufT_size (n : Nat) : (sufT n).size ≤ 20 := by
  unfold sufT
  split
  · decide
  · split
    · exact errnoName_size _
    · decide
theorem and_hiN (n : Nat) (h : n < 4294967296) : n &&& 4294901760 = n / 65536 * 65536 := by
  apply Nat.eq_of_testBit_eq
  intro i
  rw [show (4294901760 : Nat) = (2 ^ 16 - 1) * 2 ^ 16 from rfl, show n / 65536 * 65536 = n / 2 ^ 16 * 2 ^ 16 from rfl, Nat.testBit_and, Nat.testBit_mul_two_pow, Nat.testBit_mul_two_pow, Nat.testBit_two_pow_sub_one, Nat.testBit_div_two_pow]
  by_cases h1 : 16 ≤ i
  · rw [decide_eq_true h1, show i - 16 + 16 = i by omega]
    by_cases h2 : i - 16 < 16
    · simp [h2]
    · rw [Nat.testBit_lt_two_pow (Nat.lt_of_lt_of_le h (show 4294967296 ≤ 2 ^ i from Nat.le_trans (show 4294967296 ≤ 2 ^ 32 from Nat.le_refl _) (Nat.pow_le_pow_right (by decide) (by omega))))]
      simp
  · simp [h1]
theorem and_hi (n : Nat) (h : n < 4294967296) : bits .and .u32 (n : Int) 4294901760 = ((n / 65536 * 65536 : Nat) : Int) ∧ bits .and .u32 (n : Int) 65535 = ((n % 65536 : Nat) : Int) := by
  constructor
  · rw [show (4294901760 : Int) = ((4294901760 : Nat) : Int) from rfl, u32_and_nat n 4294901760 h (by decide)]
    congr 1
    exact and_hiN n h
  · rw [show (65535 : Int) = ((65535 : Nat) : Int) from rfl, u32_and_nat n 65535 h (by decide)]
    congr 1
    exact Nat.and_two_pow_sub_one_eq_mod n 16
set_option maxHeartbeats 1600000 in
theorem suffixT15 (n : Nat) (hn : n < 4294967296) (w : World) (hG : GN w) : Calls Tryd.prog 27 #[.int .u32 n] w fun e w' => e = .returned (.string (sufT n)) ∧ Below w.heap.size w w' := by
  have HE := Lib.hid (errnoNameN (n % 65536) w hG (by omega))
  obtain ⟨a1, a2⟩ := and_hi n hn
  obtain ⟨x, hx⟩ : ∃ x : Int, x = n := ⟨_, rfl⟩
  rw [← hx] at a1 a2 ⊢
  by_cases h2 : n = 2147483648
  · have hv := Lib.hid (show sufT n = killB from if_pos h2)
    have t1 : x = 2147483648 := by omega
    rw [hv.out]
    subst t1
    clear hG hn a1 a2 h2 hx
    go_enter Tryd.func27, Tryd.ntmps27
    go_wp2
    go_ret
    exact ⟨rfl, Below.refl _ _⟩
  · have t1 : ¬ x = 2147483648 := by omega
    by_cases h3 : n / 65536 = 5
    · have hv := Lib.hid (show sufT n = errnoNameR (n % 65536) by unfold sufT; rw [if_neg h2, if_pos h3])
      rw [h3] at a1
      rw [hv.out]
      obtain ⟨r, hr⟩ : ∃ r, r = n % 65536 := ⟨_, rfl⟩
      rw [← hr] at HE a2 ⊢
      clear hG hn h2 hx h3 hr
      go_enter Tryd.func27, Tryd.ntmps27
      go_wp2_with (go_at_call 19; ((with_reducible refine (HE.out).mono ?_); rintro e w1 ⟨rfl, b1⟩))
      go_ret
      exact ⟨rfl, b1⟩
    · have hv := Lib.hid (show sufT n = ⟨#[]⟩ by unfold sufT; rw [if_neg h2, if_neg h3])
      obtain ⟨y, hy⟩ : ∃ y : Int, y = ((n / 65536 * 65536 : Nat) : Int) := ⟨_, rfl⟩
      have t2 : ¬ y = 327680 := by omega
      rw [← hy] at a1
      rw [hv.out]
      clear hG hn h2 hx h3 hy a2 HE
      go_enter Tryd.func27, Tryd.ntmps27
      go_wp2
      go_ret
      exact ⟨rfl, Below.refl _ _⟩
set_option maxHeartbeats 3200000 in
theorem text15 (e : Ent) (w : World) (hG : GN w) (hn : e.nm.size ≤ 1000000) (ha : e.act < 4294967296) : Calls Tryd.prog 17 #[entV e] w fun r w' => r = .returned (.string (textR e)) ∧ Below w.heap.size w w' := by
  obtain ⟨nm, act, has⟩ := e
  simp only at hn ha
  unfold entV
  simp only
  cases has with
  | false =>
    rw [text_no rfl]
    obtain ⟨x, hx⟩ : ∃ x, x = ((act : Nat) : Int) := ⟨_, rfl⟩
    rw [← hx]
    clear hx ha
    go_enter Tryd.func17, Tryd.ntmps17
    go_wp2
    go_ret
    exact ⟨rfl, (Below.refl _ _).alloc (Nat.le_refl _) _⟩
  | true =>
    rw [text_suf _ rfl]
    simp only
    have HE := Lib.hid (fun (W : World) (g : GN W) => suffixT15 act ha W g)
    have HON := Lib.hid (fun (w w' : World) => GN.on (w := w) (w' := w'))
    have HG := Lib.hid hG
    have HS := Lib.hid (sufT_size act)
    obtain ⟨t, ht⟩ : ∃ t, t = sufT act := ⟨_, rfl⟩
    rw [← ht] at HE HS ⊢
    obtain ⟨x, hx⟩ : ∃ x, x = ((act : Nat) : Int) := ⟨_, rfl⟩
    rw [← hx] at HE ⊢
    have hts := HS.out
    clear ht hx ha hG
    go_enter Tryd.func17, Tryd.ntmps17
    have i1 : (nm.size : Int) ≤ 8388608 := by omega
    have i2 : (t.size : Int) ≤ 8388608 := by omega
    have i3 : ((nm ++ ⟨#[58]⟩ : ByteArray).size : Int) ≤ 8388608 := by
      rw [ByteArray.size_append, show (⟨#[58]⟩ : ByteArray).size = 1 from rfl]; omega
    have j1 : ¬ 9223372036854775807 < nm.size + 1 := by omega
    have j2 : ¬ 9223372036854775807 < nm.size + 1 + t.size := by omega
    have i4 : ¬ (9223372036854775807 : Int) < (nm.size : Int) + 1 := by omega
    have i5 : ¬ (9223372036854775807 : Int) < ((nm ++ ⟨#[58]⟩ : ByteArray).size : Int) + (t.size : Int) := by omega
    have i6 : ¬ (9223372036854775807 : Int) < (nm.size : Int) + 1 + (t.size : Int) := by omega
    have keep := @keep15 w.heap.size nm x
    go_wp2
    have c0 := (@box15 w nm x true 36).1
    have c1 := (@box15 w nm x true 36).2.1
    have GA := Lib.hid (HON.out _ _ HG.out ((Below.refl w.heap.size w).alloc (Nat.le_refl _) (.cells #[.string nm, .int .u32 x, .bool true] 36)))
    go_region_held3 (fun w' => w'.cell? ⟨w.heap.size, 0, none⟩ = some (.string nm) ∧ w'.cell? ⟨w.heap.size, 1, none⟩ = some (.int .u32 x)) (first | assumption | exact ⟨c0, c1⟩ | exact keep (by assumption) (by assumption)) (first
      | (go_at_call 27; refine (HE.out _ (HON.out _ _ GA.out ((Below.refl _ _).drew))).mono ?_; rintro e w2 ⟨rfl, b2⟩))
    all_goals
      go_wp2
      go_ret
      exact ⟨rfl, thn (((Below.refl _ _).alloc (Nat.le_refl _) _).drew) b2⟩
end Go.Proofs.YtfmfjnnbldmdlaaDoor
