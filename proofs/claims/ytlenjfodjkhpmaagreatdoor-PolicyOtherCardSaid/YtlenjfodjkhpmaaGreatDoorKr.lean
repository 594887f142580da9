/- What the landed Turned, Text and the two ways of a suffix return. Conditions: strings of at most 2^47 bytes; the tables lie in their variables. What all calls of the landed values return, as the chapter says it. Conditions: the tables lie in their variables; strings of at most a million bytes. -/
import Derived.Test.YtlenjfodjkhpmaaGreatDoorKq
import Derived.Test.YtlenjfodjkhpmaaGreatDoorTg
import Derived.Deep.RegionHeld3
import Derived.Test.YtlenjfodjkhpmaaGreatDoorLz
import Derived.Deep.MidRow
namespace Go.Proofs.YtlenjfodjkhpmaaGreatDoor
set_option maxRecDepth 100000
open Go.Lib (hid)
open Go.RowKit Go.Shelf
set_option linter.unusedVariables false
set_option linter.unusedSimpArgs false
attribute [local go_sem ↓] Go.wp_at_zero Go.wp_at_succ

theorem thn_v {w V W : World} (a : Below w.heap.size w V) (b : Below V.heap.size V W) : Below w.heap.size w W := a.trans (b.mono a.size)
theorem bs_subV (l : List UInt8) (a b : Nat) : (bs l).extract a b = bs ((l.drop a).take (b - a)) := by
 rw [Lib.extract_eq, bs_list]; rfl
theorem col_index : ∀ (l : List UInt8), (Lib.indexByte l 58 = -1 ∧ colA l = l.length) ∨ (Lib.indexByte l 58 = (colA l : Nat) ∧ colA l < l.length)
 | [] => Or.inl ⟨rfl, rfl⟩
 | c :: r => by
   by_cases h : c = 58
   ·subst h
    refine Or.inr ⟨rfl, ?_⟩
    rw [show colA (58 :: r) = 0 from rfl]
    exact Nat.succ_pos _
   ·have hc : colA (c :: r) = colA r + 1 := by
     unfold colA
     rw [List.findIdx_cons, show (c == (58 : UInt8)) = false from beq_eq_false_iff_ne.2 h]; rfl
    unfold Lib.indexByte
    rw [beq_eq_false_iff_ne.2 h, if_neg Bool.false_ne_true, hc, List.length_cons]
    rcases col_index r with ⟨h1, h2⟩ | ⟨h1, h2⟩
    ·rw [h1]
     exact Or.inl ⟨rfl, by rw [h2]⟩
    ·rw [h1]
     refine Or.inr ⟨?_, by omega⟩
     rw [if_neg (by rw [beq_iff_eq]; omega)]
     omega
theorem index58_call (l : List UInt8) (w : World) : Calls Tryz.prog 259 #[.string (bs l), .string ⟨#[58]⟩] w fun e w' => e = .returned (.int .i64 (Lib.indexByte l 58)) ∧ w = w' := by
 have HC := hid (show ∀ W, Calls Tryz.prog 271 #[.string (bs l), .int .u8 58] W fun e w' => e = .returned (.int .i64 (Lib.indexByte l 58)) ∧ W = w' from fun W => (index8_call l 58 W).mono fun e w' ⟨h1, h2⟩ => ⟨h1, by first | exact h2 | exact h2.symm⟩)
 by_cases h : l = [58]
 ·have e1 : ([58] == (bs l).toList) = true := by rw [ByteArray.toList_eq, bs_list, h]; rfl
  have HR := hid (show Lib.indexByte l 58 = 0 by rw [h]; rfl)
  clear h
  go_enter Tryz.func259, Tryz.ntmps259
  go_wp2
  go_ret
  exact ⟨congrArg (fun v => Ending.returned (.int .i64 v)) HR.out.symm, rfl⟩
 ·have e1 : ([58] == (bs l).toList) = false := beq_eq_false_iff_ne.2 fun e => h (by rw [e, ByteArray.toList_eq, bs_list])
  clear h
  go_enter Tryz.func259, Tryz.ntmps259
  go_wp2_with (go_at_call 271; refine (HC.out _).mono ?_; rintro e w1 ⟨rfl, rfl⟩)
  go_ret
  exact ⟨rfl, rfl⟩
theorem cut58_in (l : List UInt8) (hl : l.length ≤ 140737488355328) (w : World) : Calls Tryz.prog 238 #[.string (bs l), .string ⟨#[58]⟩] w fun e w' => e = .returned (.tuple #[.string (bs (l.take (colA l))), .string (bs (l.drop (colA l + 1))), .bool (decide (colA l < l.length))]) ∧ Below w.heap.size w w' := by
 have HC := hid (fun W => index58_call l W)
 have hsz : (bs l).size = l.length := bs_size l
 rcases col_index l with ⟨h1, h2⟩ | ⟨h1, hi⟩
 ·rw [h1] at HC
  rw [decide_eq_false (show ¬ colA l < l.length by omega), h2, List.take_of_length_le (Nat.le_refl _), List.drop_of_length_le (Nat.le_succ _)]
  clear h1 h2 hsz
  go_enter Tryz.func238, Tryz.ntmps238
  go_wp2_with (go_at_call 259; ((with_reducible refine (HC.out _).mono ?_); rintro e w1 ⟨rfl, rfl⟩))
  go_ret3
  exact ⟨rfl, Below.refl _ _⟩
 ·rw [h1] at HC
  rw [decide_eq_true hi]
  obtain ⟨i, hie⟩ : ∃ i, i = colA l := ⟨_, rfl⟩
  rw [← hie] at HC hi ⊢
  have H2 := hid (show (bs l).extract 0 i = bs (l.take i) by rw [bs_subV]; rfl)
  have H3 := hid (show (bs l).extract (i + 1) l.length = bs (l.drop (i + 1)) by rw [bs_subV, List.take_of_length_le (by simp)])
  obtain ⟨n, hn⟩ : ∃ n, n = l.length := ⟨_, rfl⟩
  rw [← hn] at hsz hi hl H3
  have i0 : (0 : Int) ≤ i := by omega
  have i1 : (i : Int) < n := by omega
  have i2 : (n : Int) ≤ 140737488355328 := by omega
  have w1 : IntKind.i64.wrap ((i : Int) + 1) = i + 1 := IntWalk.i64_in _ (by omega)
  have j0 : (0 : Int) ≤ (i : Int) + 1 := by omega
  have j1 : ((i : Int) + 1).toNat = i + 1 := by omega
  clear h1 hn hie
  go_enter Tryz.func238, Tryz.ntmps238
  go_wp2_with (go_at_call 259; ((with_reducible refine (HC.out _).mono ?_); rintro e w1 ⟨rfl, rfl⟩))
  go_quiet (fail)
  go_wp2
  go_ret3
  exact ⟨by rw [H2.out, H3.out]; rfl, Go.below_drewN (Below.refl _ _) nq⟩
theorem cut58_call (l : List UInt8) (hl : l.length ≤ 140737488355328) (w : World) : Calls Tryz.prog 224 #[.string (bs l), .string ⟨#[58]⟩] w fun e w' => e = .returned (.tuple #[.string (bs (l.take (colA l))), .string (bs (l.drop (colA l + 1))), .bool (decide (colA l < l.length))]) ∧ Below w.heap.size w w' := by
 have HC := hid (fun W => cut58_in l hl W)
 obtain ⟨b, hb⟩ : ∃ b, b = decide (colA l < l.length) := ⟨_, rfl⟩
 rw [← hb] at HC ⊢
 clear hl hb
 go_enter Tryz.func224, Tryz.ntmps224
 go_wp2_with (go_at_call 238; ((with_reducible refine (HC.out _).mono ?_); rintro e w1 ⟨rfl, b1⟩))
 go_ret3
 exact ⟨rfl, b1⟩
theorem til_is (l : List UInt8) : turnR (bs l) = (bs (Lib.trimPrefix l [126]), Lib.hasPrefix l [126]) := by
 unfold turnR
 rw [bs_list]
 cases l with
 | nil => rfl
 | cons c r =>
  by_cases h : c = 126
  ·subst h; rfl
  ·rw [if_neg (show ¬ (c :: r).head? = some 126 from fun e => h (Option.some.inj e))]
   have hp : Lib.hasPrefix (c :: r) [126] = false := by
    show (List.isPrefixOf [126] (c :: r)) = false
    simp [List.isPrefixOf, Ne.symm h]
   unfold Lib.trimPrefix
   rw [hp, if_neg Bool.false_ne_true]
theorem turned15 (s : ByteArray) (w : World) : Calls Tryz.prog 188 #[.string s] w fun e w' => e = .returned (.tuple #[.string (turnR s).1, .bool (turnR s).2]) ∧ Below w.heap.size w w' := by
 obtain ⟨l, rfl⟩ : ∃ l, s = bs l := ⟨s.data.toList, (bs_self s).symm⟩
 have HC := hid (show ∀ W, Calls Tryz.prog 214 #[.string (bs l), .string ⟨#[126]⟩] W fun e w' => e = .returned (.tuple #[.string (bs (Lib.trimPrefix l [126])), .bool (Lib.hasPrefix l [126])]) ∧ W = w' from fun W => (Tryz.strings_CutPrefix (bs l) ⟨#[126]⟩ W).mono fun e w' ⟨h1, h2⟩ => ⟨h1, h2.symm⟩)
 rw [til_is]
 go_enter Tryz.func188, Tryz.ntmps188
 go_wp2_with (go_at_call 214; ((with_reducible refine (HC.out _).mono ?_); rintro e w1 ⟨rfl, rfl⟩))
 go_ret2
 exact ⟨rfl, Below.refl _ _⟩
def sufR (s : ByteArray) : Nat × Int := if s = killB then (2147483648, 0) else match errnoR s with | none => (0, 160) | some n => (327680 + n, 0)
set_option maxHeartbeats 1600000 in
theorem suffixA15 (s : ByteArray) (hs : s.size ≤ 1000000) (w : World) (hG : GN w) : Calls Tryz.prog 225 #[.string s] w fun e w' => e = .returned (.tuple #[.int .u32 (sufR s).1, .int .i64 (sufR s).2]) ∧ Below w.heap.size w w' := by
 have HE := hid (errnoN s w hG (by unfold maxLen; omega))
 by_cases hk : s = killB
 ·have hv := hid (show sufR s = (2147483648, 0) from if_pos hk)
  have t1 : (s.toList == [107, 105, 108, 108]) = true := by rw [hk, show killB = bs [107, 105, 108, 108] from rfl, bs_toList]; rfl
  rw [hv.out]
  clear hs hG hk
  go_enter Tryz.func225, Tryz.ntmps225
  go_wp2
  go_ret2
  exact ⟨rfl, Below.refl _ _⟩
 ·have t1 : (s.toList == [107, 105, 108, 108]) = false := beq_eq_false_iff_ne.2 (fun e => hk (list_of_bytes10 (e.trans (bs_toList [107, 105, 108, 108]).symm)))
  cases he : errnoR s with
  | none =>
   have hv := hid (show sufR s = (0, 160) by unfold sufR; rw [if_neg hk, he])
   rw [he] at HE
   rw [hv.out]
   clear hs hG hk he
   go_enter Tryz.func225, Tryz.ntmps225
   go_wp2_with (go_at_call 179; ((with_reducible refine (HE.out).mono ?_); rintro e w1 ⟨rfl, b1⟩))
   go_ret2
   exact ⟨rfl, b1⟩
  | some x =>
   have hv := hid (show sufR s = (327680 + x, 0) by unfold sufR; rw [if_neg hk, he])
   have hx4 := errnoR_lt he
   rw [he] at HE
   rw [hv.out]
   have hor : bits .or .u32 (327680 : Int) (x : Int) = ((327680 + x : Nat) : Int) := by
    have h : (327680 ||| x : Nat) = 327680 + x := by
     have := Nat.two_pow_add_eq_or_of_lt (i := 16) (b := x) (by omega) 5
     rw [show 2 ^ 16 * 5 = 327680 from rfl] at this
     exact this.symm
    rw [← h]
    exact u32_or_nat 327680 x (by omega) (by omega)
   clear hs hG hk he
   go_enter Tryz.func225, Tryz.ntmps225
   go_wp2_with (go_at_call 179; ((with_reducible refine (HE.out).mono ?_); rintro e w1 ⟨rfl, b1⟩))
   go_ret2
   exact ⟨rfl, b1⟩
def sufT (n : Nat) : ByteArray := if n = 2147483648 then killB else if n / 65536 = 5 then errnoNameR (n % 65536) else ⟨#[]⟩
theorem text_suf (e : Ent) (h : e.has = true) : textR e = e.nm ++ ⟨#[58]⟩ ++ sufT e.act := by
 unfold sufT
 by_cases h2 : e.act = 2147483648
 ·rw [text_k h h2, if_pos h2]
  rw [show (⟨#[58, 107, 105, 108, 108]⟩ : ByteArray) = ⟨#[58]⟩ ++ killB by decide, ByteArray.append_assoc]
 ·rw [if_neg h2]
  by_cases h3 : e.act / 65536 = 5
  ·rw [text_e h h2 h3, if_pos h3]
  ·rw [text_o h h2 h3, if_neg h3, show (⟨#[]⟩ : ByteArray) = ByteArray.empty from rfl, ByteArray.append_empty]
theorem sufT_size (n : Nat) : (sufT n).size ≤ 20 := by
 unfold sufT
 split
 ·decide
 ·split
  ·exact errnoName_size _
  ·decide
theorem and_hiN (n : Nat) (h : n < 4294967296) : n &&& 4294901760 = n / 65536 * 65536 := by
 apply Nat.eq_of_testBit_eq
 intro i
 rw [show (4294901760 : Nat) = (2 ^ 16 - 1) * 2 ^ 16 from rfl, show n / 65536 * 65536 = n / 2 ^ 16 * 2 ^ 16 from rfl, Nat.testBit_and, Nat.testBit_mul_two_pow, Nat.testBit_mul_two_pow, Nat.testBit_two_pow_sub_one, Nat.testBit_div_two_pow]
 by_cases h1 : 16 ≤ i
 ·rw [decide_eq_true h1, show i - 16 + 16 = i by omega]
  by_cases h2 : i - 16 < 16
  ·simp [h2]
  ·rw [Nat.testBit_lt_two_pow (Nat.lt_of_lt_of_le h (show 4294967296 ≤ 2 ^ i from Nat.le_trans (show 4294967296 ≤ 2 ^ 32 from Nat.le_refl _) (Nat.pow_le_pow_right (by decide) (by omega))))]
   simp
 ·simp [h1]
theorem and_hi (n : Nat) (h : n < 4294967296) : bits .and .u32 (n : Int) 4294901760 = ((n / 65536 * 65536 : Nat) : Int) ∧ bits .and .u32 (n : Int) 65535 = ((n % 65536 : Nat) : Int) := by
 constructor
 ·rw [show (4294901760 : Int) = ((4294901760 : Nat) : Int) from rfl, u32_and_nat n 4294901760 h (by decide)]
  congr 1
  exact and_hiN n h
 ·rw [show (65535 : Int) = ((65535 : Nat) : Int) from rfl, u32_and_nat n 65535 h (by decide)]
  congr 1
  exact Nat.and_two_pow_sub_one_eq_mod n 16
set_option maxHeartbeats 1600000 in
theorem suffixT15 (n : Nat) (hn : n < 4294967296) (w : World) (hG : GN w) : Calls Tryz.prog 149 #[.int .u32 n] w fun e w' => e = .returned (.string (sufT n)) ∧ Below w.heap.size w w' := by
 have HE := hid (errnoNameN (n % 65536) w hG (by omega))
 obtain ⟨a1, a2⟩ := and_hi n hn
 obtain ⟨x, hx⟩ : ∃ x : Int, x = n := ⟨_, rfl⟩
 rw [← hx] at a1 a2 ⊢
 by_cases h2 : n = 2147483648
 ·have hv := hid (show sufT n = killB from if_pos h2)
  have t1 : x = 2147483648 := by omega
  rw [hv.out]
  subst t1
  clear hG hn a1 a2 h2 hx
  go_enter Tryz.func149, Tryz.ntmps149
  go_wp2
  go_ret
  exact ⟨rfl, Below.refl _ _⟩
 ·have t1 : ¬ x = 2147483648 := by omega
  by_cases h3 : n / 65536 = 5
  ·have hv := hid (show sufT n = errnoNameR (n % 65536) by unfold sufT; rw [if_neg h2, if_pos h3])
   rw [h3] at a1
   rw [hv.out]
   obtain ⟨r, hr⟩ : ∃ r, r = n % 65536 := ⟨_, rfl⟩
   rw [← hr] at HE a2 ⊢
   clear hG hn h2 hx h3 hr
   go_enter Tryz.func149, Tryz.ntmps149
   go_wp2_with (go_at_call 85; ((with_reducible refine (HE.out).mono ?_); rintro e w1 ⟨rfl, b1⟩))
   go_ret
   exact ⟨rfl, b1⟩
  ·have hv := hid (show sufT n = ⟨#[]⟩ by unfold sufT; rw [if_neg h2, if_neg h3])
   obtain ⟨y, hy⟩ : ∃ y : Int, y = ((n / 65536 * 65536 : Nat) : Int) := ⟨_, rfl⟩
   have t2 : ¬ y = 327680 := by omega
   rw [← hy] at a1
   rw [hv.out]
   clear hG hn h2 hx h3 hy a2 HE
   go_enter Tryz.func149, Tryz.ntmps149
   go_wp2
   go_ret
   exact ⟨rfl, Below.refl _ _⟩
set_option maxHeartbeats 3200000 in
theorem text15 (e : Ent) (w : World) (hG : GN w) (hn : e.nm.size ≤ 1000000) (ha : e.act < 4294967296) : Calls Tryz.prog 114 #[entV e] w fun r w' => r = .returned (.string (textR e)) ∧ Below w.heap.size w w' := by
 obtain ⟨nm, act, has⟩ := e
 simp only at hn ha
 unfold entV
 simp only
 cases has with
 | false =>
  rw [text_no rfl]
  obtain ⟨x, hx⟩ : ∃ x, x = ((act : Nat) : Int) := ⟨_, rfl⟩
  rw [← hx]
  clear hx ha
  go_enter Tryz.func114, Tryz.ntmps114
  go_wp2
  go_ret
  exact ⟨rfl, (Below.refl _ _).alloc (Nat.le_refl _) _⟩
 | true =>
  rw [text_suf _ rfl]
  simp only
  have HE := hid (fun (W : World) (g : GN W) => suffixT15 act ha W g)
  have HON := hid (fun (w w' : World) => GN.on (w := w) (w' := w'))
  have HG := hid hG
  have HS := hid (sufT_size act)
  obtain ⟨t, ht⟩ : ∃ t, t = sufT act := ⟨_, rfl⟩
  rw [← ht] at HE HS ⊢
  obtain ⟨x, hx⟩ : ∃ x, x = ((act : Nat) : Int) := ⟨_, rfl⟩
  rw [← hx] at HE ⊢
  have hts := HS.out
  clear ht hx ha hG
  go_enter Tryz.func114, Tryz.ntmps114
  have i1 : (nm.size : Int) ≤ 8388608 := by omega
  have i2 : (t.size : Int) ≤ 8388608 := by omega
  have i3 : ((nm ++ ⟨#[58]⟩ : ByteArray).size : Int) ≤ 8388608 := by
   rw [ByteArray.size_append, show (⟨#[58]⟩ : ByteArray).size = 1 from rfl]; omega
  have j1 : ¬ 9223372036854775807 < nm.size + 1 := by omega
  have j2 : ¬ 9223372036854775807 < nm.size + 1 + t.size := by omega
  have i4 : ¬ (9223372036854775807 : Int) < (nm.size : Int) + 1 := by omega
  have i5 : ¬ (9223372036854775807 : Int) < ((nm ++ ⟨#[58]⟩ : ByteArray).size : Int) + (t.size : Int) := by omega
  have i6 : ¬ (9223372036854775807 : Int) < (nm.size : Int) + 1 + (t.size : Int) := by omega
  have keep := @keep15 w.heap.size nm x
  go_wp2
  have c0 := (@box15 w nm x true 151).1
  have c1 := (@box15 w nm x true 151).2.1
  have GA := hid (HON.out _ _ HG.out ((Below.refl w.heap.size w).alloc (Nat.le_refl _) (.cells #[.string nm, .int .u32 x, .bool true] 151)))
  go_region_held3 (fun w' => w'.cell? ⟨w.heap.size, 0, none⟩ = some (.string nm) ∧ w'.cell? ⟨w.heap.size, 1, none⟩ = some (.int .u32 x)) (first | assumption | exact ⟨c0, c1⟩ | exact keep (by assumption) (by assumption)) (first
   | (go_at_call 149; refine (HE.out _ (HON.out _ _ GA.out ((Below.refl _ _).drew))).mono ?_; rintro e w2 ⟨rfl, b2⟩))
  all_goals
   go_wp2
   go_ret
   exact ⟨rfl, thn (((Below.refl _ _).alloc (Nat.le_refl _) _).drew) b2⟩
set_option maxRecDepth 100000
open Go.Lib (hid)
open Go.RowKit Go.Shelf
set_option linter.unusedVariables false
set_option linter.unusedSimpArgs false
attribute [local go_sem ↓] Go.wp_at_zero Go.wp_at_succ

def boolW : List ByteArray := [⟨#[110, 111]⟩, ⟨#[102, 97, 108, 115, 101]⟩, ⟨#[111, 102, 102]⟩, ⟨#[48]⟩, ⟨#[121, 101, 115]⟩, ⟨#[116, 114, 117, 101]⟩, ⟨#[111, 110]⟩, ⟨#[49]⟩]
def boolC : List Value := boolW.map Value.string
structure G15 (w : World) : Prop where
 gn : GN w
 boo : LaidAt w 4 boolC
theorem G15.on {w w' : World} (h : G15 w) (b : Below w.heap.size w w') : G15 w' := ⟨h.gn.on b, h.boo.on (by decide) b⟩
theorem range_boo {w : World} (h : LaidAt w 4 boolC) : w.rangeAt 4 0 boolC := fun j v hv => by rw [Nat.zero_add]; exact h j v hv
theorem info_boo : (Tryz.prog.info? 240).map (·.size) = some boolC.length := by kernel_rfl
theorem run_boo (i : Nat) (hi : i < 2) (w : World) : ∃ a b c d, boolW[4 * i]? = some a ∧ boolW[4 * i + 1]? = some b ∧ boolW[4 * i + 2]? = some c ∧ boolW[4 * i + 3]? = some d ∧ ∀ w, (Instr.index 240 (.agg boolC.toArray) (.int .i64 i)).run Tryz.prog w = .ok (.agg #[.string a, .string b, .string c, .string d]) w := by
 match i, hi with
 | 0, _ => exact ⟨_, _, _, _, rfl, rfl, rfl, rfl, fun w => by kernel_rfl⟩
 | 1, _ => exact ⟨_, _, _, _, rfl, rfl, rfl, rfl, fun w => by kernel_rfl⟩
theorem run_wrd (a b c d : ByteArray) (j : Nat) (hj : j < 4) (w : World) : (Instr.index 239 (.agg #[.string a, .string b, .string c, .string d]) (.int .i64 j)).run Tryz.prog w = .ok (.string (([a, b, c, d] : List ByteArray)[j]'hj)) w := by
 match j, hj with
 | 0, _ => show _ = _; kernel_rfl
 | 1, _ => show _ = _; kernel_rfl
 | 2, _ => show _ = _; kernel_rfl
 | 3, _ => show _ = _; kernel_rfl
theorem wpList_idx15 {ops : Array Oper} {rest : List Oper} {op : Oper} {a : Act} {w : World} {Q : Exit → Act → World → Prop} (hgd : op.guard = none) (t : TypeId) (x y : Operand) (ho : op.op = .index t x y) (u v r : Value)
 (hx : a.eval x = u) (hy : a.eval y = v) (hr : (Instr.index t u v).run Tryz.prog w = .ok r w) (h : wpList Tryz.prog ops Q rest (a.put op.dst r) w) : wpList Tryz.prog ops Q (op :: rest) a w :=
 wpList_plain hgd fun _ hK => by
  unfold Oper.wp execOp
  simp only [ho, hx, hy, Sem.run_bind, Sem.run_pure, Result.andThen_ok, hr]
  exact hK _ _ h
theorem boolW_dec : (List.range 8).all (fun k => match boolW[k]? with | some x => decide (boolR x = some (decide (4 ≤ k))) | none => false) = true := by decide +kernel
theorem boolW_at {k : Nat} {x : ByteArray} (h : boolW[k]? = some x) : boolR x = some (decide (4 ≤ k)) := by
 have hk : k < 8 := (List.getElem?_eq_some_iff.1 h).1
 have := List.all_eq_true.1 boolW_dec k (List.mem_range.2 hk)
 rw [h] at this
 exact of_decide_eq_true this
theorem boolW_none {s : ByteArray} (h : ∀ (k : Nat) (x : ByteArray), boolW[k]? = some x → x ≠ s) : boolR s = none := by
 have hy : isIn yesT s = false := isIn_no (fun (t : ByteArray) (ht : t ∈ yesT) (e : s = t) => by
  have : t ∈ boolW := by
   have h1 : yesT.all (fun t => boolW.any fun u => decide (u = t)) = true := by decide +kernel
   obtain ⟨u, hu, h2⟩ := List.any_eq_true.1 (List.all_eq_true.1 h1 t ht)
   exact of_decide_eq_true h2 ▸ hu
  obtain ⟨k, hk⟩ := List.getElem?_of_mem this
  exact h k t hk e.symm)
 have hn : isIn noT s = false := isIn_no (fun (t : ByteArray) (ht : t ∈ noT) (e : s = t) => by
  have : t ∈ boolW := by
   have h1 : noT.all (fun t => boolW.any fun u => decide (u = t)) = true := by decide +kernel
   obtain ⟨u, hu, h2⟩ := List.any_eq_true.1 (List.all_eq_true.1 h1 t ht)
   exact of_decide_eq_true h2 ▸ hu
  obtain ⟨k, hk⟩ := List.getElem?_of_mem this
  exact h k t hk e.symm)
 unfold boolR
 rw [hy, if_neg Bool.noConfusion, hn, if_neg Bool.noConfusion]
abbrev NotIn (s : ByteArray) (k : Nat) : Prop := ∀ j x, j < k → boolW[j]? = some x → x ≠ s
theorem NotIn.step {s x : ByteArray} {k : Nat} (h : NotIn s k) (hx : boolW[k]? = some x) (hn : x ≠ s) : NotIn s (k + 1) := fun j y hj hy => by
 rcases Nat.lt_or_ge j k with h1 | h1
 ·exact h j y h1 hy
 ·obtain rfl : j = k := by omega
  rw [hx] at hy; injection hy with hy; rw [← hy]; exact hn
set_option maxHeartbeats 4000000 in
theorem bool15 (s : ByteArray) (w : World) (hG : LaidAt w 4 boolC) : Calls Tryz.prog 159 #[.string s] w fun e w' => e = .returned (.tuple #[.bool ((boolR s).getD false), .int .i64 (boolE s)]) ∧ Below w.heap.size w w' := by
 have GX := hid hG
 have HI := hid info_boo
 obtain ⟨rb, hrb⟩ : ∃ x, x = (boolR s).getD false := ⟨_, rfl⟩
 obtain ⟨re, hre⟩ : ∃ x, x = boolE s := ⟨_, rfl⟩
 rw [← hrb, ← hre]
 have HRB := hid hrb
 have HRE := hid hre
 clear hG hrb hre
 go_enter Tryz.func159, Tryz.ntmps159
 go_wp2_with ((with_reducible show wpList _ _ _ (⟨some 8, .load 240 _, _, _, _, _⟩ :: _) _ _)
              refine wpList_load_mid rfl 240 (.global 4) rfl 4 0 rfl boolC _ (range_boo GX.out) Tryz.underlying240 rfl HI.out ?_
              generalize hbc : boolC.toArray = bcv)
 have HBC := hid hbc
 clear hbc
 go_loopw [9] (fun v9 wr => ∃ i : Nat, i ≤ 2 ∧ v9 = .int .i64 i ∧ Hid (NotIn s (4 * i)) ∧ Hid (Below w.heap.size w wr)) (fun v9 _ => 2 - (intOf v9).toNat)
 case atStart => exact ⟨0, by omega, rfl, hid (fun j x h _ => absurd h (by omega)), hid (Below.refl _ _)⟩
 case round =>
  obtain ⟨i, hi, rfl, HN, HB⟩ := hrel
  have hsz := HB.out.size
  obtain ⟨V0, rfl⟩ : ∃ wo : World, wo = wr := ⟨_, rfl⟩
  by_cases hlt : i < 2
  ·obtain ⟨a, b, c, d, ha, hb, hc, hd, hrun⟩ := run_boo i hlt V0
   rw [HBC.out] at hrun
   have HRUN := hid hrun
   have HW := hid (show ∀ (j : Nat) (hj : j < 4), boolW[4 * i + j]? = some (([a, b, c, d] : List ByteArray)[j]'hj) from fun j hj => by
    match j, hj with
    | 0, _ => exact ha
    | 1, _ => exact hb
    | 2, _ => exact hc
    | 3, _ => exact hd)
   have HR2 := hid (run_wrd a b c d)
   have k1 : (i : Int) < 2 := by omega
   have HB2 := hid (HB.out.alloc hsz (.cells #[.string a, .string b, .string c, .string d] 239))
   clear hrun ha hb hc hd HBC
   go_wp2_with ((with_reducible show wpList _ _ _ (⟨some 12, .index _ _ _, _, _, _, _⟩ :: _) _ _)
                refine wpList_idx15 rfl 240 (.tmp 8) (.tmp 9) rfl _ _ _ rfl rfl (HRUN.out _) ?_)
   go_loopw [14] (fun v14 wx => ∃ j : Nat, j ≤ 4 ∧ v14 = .int .i64 j ∧ Hid (NotIn s (4 * i + j)) ∧ Hid (Below w.heap.size w wx)) (fun v14 _ => 4 - (intOf v14).toNat)
   case atStart => exact ⟨0, by omega, rfl, HN, HB2⟩
   case round =>
    obtain ⟨j, hj, rfl, HN, HB⟩ := hrel
    by_cases hjl : j < 4
    ·have hw := HW.out j hjl
     have hr := HR2.out j hjl
     obtain ⟨x, hx⟩ : ∃ x, x = ([a, b, c, d] : List ByteArray)[j]'hjl := ⟨_, rfl⟩
     rw [← hx] at hw hr
     have HR3 := hid hr
     have hv := boolW_at hw
     have j1 : (j : Int) < 4 := by omega
     clear hx hr
     by_cases hs : x = s
     ·subst hs
      have t1 : (x.toList == x.toList) = true := by simp
      have t2 : Hid (rb = decide (4 ≤ 4 * i + j)) := hid (by rw [HRB.out, hv]; rfl)
      have t3 : Hid (re = 0) := hid (by rw [HRE.out]; unfold boolE; rw [hv]; rfl)
      have t4 : Hid (decide (4 ≤ 4 * i + j) = decide ((i : Int) = 1)) := hid (by congr 1; apply propext; constructor <;> (intro; omega))
      clear hv hw HN
      go_wp2_with ((with_reducible show wpList _ _ _ (⟨some 16, .index _ _ _, _, _, _, _⟩ :: _) _ _)
                   refine wpList_idx15 rfl 239 (.tmp 13) (.tmp 14) rfl _ _ _ rfl rfl (HR3.out _) ?_)
      go_ret2
      exact ⟨by rw [t3.out, t2.out, t4.out]; first | rfl | simp, HB.out⟩
     ·have t1 : (x.toList == s.toList) = false := beq_eq_false_iff_ne.2 (fun e => hs (list_of_bytes10 e))
      have HN2 := hid (NotIn.step HN.out hw hs)
      clear hv hw hs HN
      go_wp2_with ((with_reducible show wpList _ _ _ (⟨some 16, .index _ _ _, _, _, _, _⟩ :: _) _ _)
                   refine wpList_idx15 rfl 239 (.tmp 13) (.tmp 14) rfl _ _ _ rfl rfl (HR3.out _) ?_)
      go_roundw
      case rel => exact ⟨j + 1, by omega, by go_num, HN2, HB⟩
      case measure => first | (simp [intOf]; done) | (simp [intOf]; omega)
    ·obtain rfl : j = 4 := by omega
     go_wp2
     go_roundw
     case rel => exact ⟨i + 1, by omega, by go_num, HN, HB⟩
     case measure => first | (simp [intOf]; done) | (simp [intOf]; omega)
  ·obtain rfl : i = 2 := by omega
   have hv : boolR s = none := boolW_none (fun k x hk => HN.out k x (by have := (List.getElem?_eq_some_iff.1 hk).1; exact this) hk)
   have t2 : Hid (rb = false) := hid (by rw [HRB.out, hv]; rfl)
   have t3 : Hid (re = 150) := hid (by rw [HRE.out]; unfold boolE; rw [hv]; rfl)
   clear hv HBC
   go_wp2
   go_ret2
   exact ⟨by rw [t2.out, t3.out]; rfl, HB.out⟩
theorem among_pays15 (B : Nat) (w : World) (hB : Boxed w B 9 (.string (⟨#[32, 9, 13]⟩ : ByteArray))) : PredGrows Tryz.prog 209 #[.pointer (some ⟨B, 0, none⟩)] whR15 w := by
 intro W x hx hb
 have hc := (boxed_below hB hb).cell
 have HC := hid (fun W => contains_white x W)
 clear hb hB hx
 show Calls Tryz.prog 209 #[.int .i32 x, .pointer (some ⟨B, 0, none⟩)] W _
 go_enter Tryz.func209, Tryz.ntmps209
 go_wp2_with (go_at_call 210; ((with_reducible refine (HC.out _).mono ?_); rintro e w1 ⟨rfl, b1⟩))
 go_ret
 exact ⟨rfl, b1⟩
theorem among15 (s : ByteArray) (w : World) : Calls Tryz.prog 181 #[.string s] w fun e w' => e = .returned (.func (.func 209) #[] #[.pointer (some ⟨w.heap.size, 0, none⟩)]) ∧ w' = w.alloc (.cells #[.string s] 9) := by
 go_enter Tryz.func181, Tryz.ntmps181
 go_wp2
 go_ret
 exact ⟨rfl, rfl⟩
theorem words15 (s : ByteArray) (w : World) (hs : s.size ≤ 1000000) : Calls Tryz.prog 154 #[.string s] w fun e w' => ∃ q c, e = .returned (.slice q (wdL s.data.toList).length c) ∧ WdsAt w' q (wdL s.data.toList) ∧ Below w.heap.size w w' := by
 have HA := hid (fun W => among15 (⟨#[32, 9, 13]⟩ : ByteArray) W)
 have eg : ∀ args w, (callFunc 209 args).run Tryz.prog w = .ok (.enter 209 args) w := enters_of Tryz.func209 (by kernel_rfl) rfl
 have HT := Tryz.strings_FieldsFunc_grows 209 _ eg whR15 s (w.alloc (.cells #[.string (⟨#[32, 9, 13]⟩ : ByteArray)] 9)) (by omega) (among_pays15 w.heap.size _ (Boxed.new w _ _))
 rw [fields_words, List.length_map] at HT
 have HT := hid HT
 have HB := hid (ball w (.cells #[.string (⟨#[32, 9, 13]⟩ : ByteArray)] 9))
 obtain ⟨L, hL⟩ : ∃ L, L = wdL s.data.toList := ⟨_, rfl⟩
 rw [← hL] at HT ⊢
 clear hs eg hL
 go_enter Tryz.func154, Tryz.ntmps154
 go_wp2_with (first
  | (go_at_call 181; ((with_reducible refine (HA.out _).mono ?_); rintro e w1 ⟨rfl, rfl⟩))
  | (go_at_call 180; ((with_reducible refine (HT.out).mono ?_); rintro e w2 ⟨A, rfl, hA, ho, b2⟩)))
 go_ret
 exact ⟨_, _, rfl, WdsAt.of_own (by rw [List.map_map] at ho; exact ho) rfl, th2 HB.out b2⟩
theorem rd_suf {l : List UInt8} (h : ¬ colA l = 0) (h2 : colA l < l.length) : rdL l = if (sufR (bs (l.drop (colA l + 1)))).2 = 0 then (⟨bs (l.take (colA l)), (sufR (bs (l.drop (colA l + 1)))).1, true⟩, 0) else (e0, 160) := by
 unfold sufR
 by_cases hk : bs (l.drop (colA l + 1)) = killB
 ·rw [rd_k h (by omega) hk, if_pos hk]; rfl
 ·rw [if_neg hk]
  cases he : errnoR (bs (l.drop (colA l + 1))) with
  | none => rw [rd_x h (by omega) hk he]; rfl
  | some x => rw [rd_e h (by omega) hk he]; rfl
theorem suf_err (s : ByteArray) : (sufR s).2 = 0 ∨ (sufR s).2 = 160 := by
 unfold sufR
 split
 ·exact Or.inl rfl
 ·split
  ·exact Or.inr rfl
  ·exact Or.inl rfl
theorem thereV {V : World} {g : Nat} {u v x : Value} (h : V.heap[g]? = some (.cells #[u, v, x] 151 (0, 0))) : V.there g 0 3 := fun j hj => by
 refine ⟨?_, frozen_of_row _ _ _ _ _ h⟩
 rw [cell_of_row _ _ (0 + j) _ _ (0, 0) h]
 match j, hj with
 | 0, _ => rfl
 | 1, _ => rfl
 | 2, _ => rfl
 | j + 3, hj => omega
theorem oneV (a : ByteArray) (b : Int) (c : Bool) : (#[.string a, .int .u32 b, .bool c] : Array Value).all (·.oneCell') = true := by kernel_rfl
theorem retV {w V : World} {g : Nat} {u v z : Value} (h : V.heap[g]? = some (.cells #[u, v, z] 151 (0, 0))) (hB : Below w.heap.size w V) (hg : w.heap.size ≤ g) (a : ByteArray) (b : Int) (c : Bool) :
 (loadVar 151 ⟨g, 0, none⟩).run Tryz.prog (V.setCells g 0 [.string a, .int .u32 b, .bool c]) = .ok (.agg #[.string a, .int .u32 b, .bool c]) (V.setCells g 0 [.string a, .int .u32 b, .bool c]) ∧ Below w.heap.size w (V.setCells g 0 [.string a, .int .u32 b, .bool c]) := by
 have hinf : (Tryz.prog.info? 151).map (·.size) = some 3 := by kernel_rfl
 exact ⟨run_loadVar_mid (P := Tryz.prog) _ g 0 151 [.string a, .int .u32 b, .bool c] _ (World.rangeAt_setCells_same V g 0 [.string a, .int .u32 b, .bool c] (thereV h)) Tryz.underlying151 rfl hinf, below_setCells15 hg _ _ _ hB⟩
set_option maxHeartbeats 8000000 in
theorem read15 (s : ByteArray) (w : World) (hG : GN w) (hs : s.size ≤ 1000000) : Calls Tryz.prog 202 #[.string s] w fun e w' => e = .returned (.tuple #[entV (rdE s).1, .int .i64 (rdE s).2]) ∧ Below w.heap.size w w' := by
 obtain ⟨l, hl⟩ : ∃ l, s = bs l := ⟨s.data.toList, (bs_self s).symm⟩
 have hll : l.length ≤ 1000000 := by rw [← bs_size, ← hl]; exact hs
 have hE : rdE s = rdL l := by unfold rdE; rw [hl, bs_list]
 rw [hE, hl]
 have HC := hid (fun W => cut58_call l (by omega) W)
 have HON := hid (fun (w w' : World) => GN.on (w := w) (w' := w'))
 have HG := hid hG
 have HIN := hid (show (Tryz.prog.info? 151).map (·.size) = some 3 from by kernel_rfl)
 obtain ⟨S, hS⟩ : ∃ S, S = bs l := ⟨_, rfl⟩
 rw [← hS] at HC ⊢
 by_cases h0 : colA l = 0
 ·have hv := hid (rd_0 h0)
  obtain ⟨X, hX⟩ : ∃ X, X = bs (l.take (colA l)) := ⟨_, rfl⟩
  have t1 : X.toList.isEmpty = true := by rw [hX, h0, List.take_zero, bs_toList]; rfl
  rw [← hX] at HC
  obtain ⟨Y, hY⟩ : ∃ Y, Y = bs (l.drop (colA l + 1)) := ⟨_, rfl⟩
  obtain ⟨t, ht⟩ : ∃ t, t = decide (colA l < l.length) := ⟨_, rfl⟩
  rw [← hY, ← ht] at HC
  rw [hv.out]
  clear hl hll hE hG hs h0 hX hY ht hS
  go_enter Tryz.func202, Tryz.ntmps202
  go_wp2_with (first
   | (go_at_call 224
      (with_reducible refine (HC.out _).mono ?_)
      rintro e w1 ⟨rfl, b1⟩
      have F0 := hid ((b1.block w.heap.size (by simp only [World.size_alloc]; omega)).trans (heap_alloc_new w _))
      have BW := hid (thn_v ((Below.refl _ _).alloc (Nat.le_refl _) _) b1)
      have ⟨hl, hb3⟩ := retV F0.out BW.out (Nat.le_refl _) ⟨#[]⟩ 0 false
      clear b1)
   | ((with_reducible show wpList _ _ _ (⟨none, .store 151 (.tmp 2) (.tmp 17), _, _, _, _⟩ :: _) _ _)
      refine wpList_store_mid rfl 151 (.tmp 2) (.tmp 17) rfl w.heap.size 0 #[.string ⟨#[]⟩, .int .u32 0, .bool false] rfl rfl (thereV F0.out) HIN.out (oneV _ _ _) ?_
      show wpList _ _ _ _ _ (w1.setCells w.heap.size 0 [.string ⟨#[]⟩, .int .u32 0, .bool false])
      generalize w1.setCells w.heap.size 0 [.string ⟨#[]⟩, .int .u32 0, .bool false] = w3 at hl hb3 ⊢))
  exact bodyPost_ret (v := .tuple #[.agg #[.string ⟨#[]⟩, .int .u32 0, .bool false], .int .i64 161]) (results_two15 Tryz.results202 rfl rfl hl) rfl ⟨rfl, hb3⟩
 ·have hne : (bs (l.take (colA l))).toList.isEmpty = false := by
   rw [bs_toList]
   cases h : l.take (colA l) with
   | nil =>
    have := congrArg List.length h
    rw [List.length_take, List.length_nil] at this
    have := col_le l
    omega
   | cons _ _ => rfl
  by_cases h1 : colA l < l.length
  ·have hr := hid (rd_suf h0 h1)
   rw [decide_eq_true h1] at HC
   obtain ⟨X, hX⟩ : ∃ X, X = bs (l.take (colA l)) := ⟨_, rfl⟩
   obtain ⟨Y, hY⟩ : ∃ Y, Y = bs (l.drop (colA l + 1)) := ⟨_, rfl⟩
   rw [← hX] at hne
   have hYs : Y.size ≤ 1000000 := by rw [hY, bs_size, List.length_drop]; omega
   have HX := hid (fun (W : World) (g : GN W) => suffixA15 Y hYs W g)
   rw [← hX, ← hY] at HC hr
   rw [hr.out]
   obtain ⟨x, hx⟩ : ∃ x : Nat, x = (sufR Y).1 := ⟨_, rfl⟩
   have hse := suf_err Y
   obtain ⟨y, hy⟩ : ∃ y, y = (sufR Y).2 := ⟨_, rfl⟩
   rw [← hx, ← hy] at HX ⊢
   rw [← hy] at hse
   clear hl hll hE hG hs h0 h1 hX hY hYs hx hy hr hS
   rcases hse with rfl | rfl
   ·rw [if_pos rfl]
    go_enter Tryz.func202, Tryz.ntmps202
    go_wp2_with (first
     | (go_at_call 224
        (with_reducible refine (HC.out _).mono ?_)
        rintro e w1 ⟨rfl, b1⟩
        have F0 := hid ((b1.block w.heap.size (by simp only [World.size_alloc]; omega)).trans (heap_alloc_new w _))
        have BW := hid (thn_v ((Below.refl _ _).alloc (Nat.le_refl _) _) b1)
        clear b1)
     | (go_at_call 225
        (with_reducible refine (HX.out _ (HON.out _ _ HG.out BW.out)).mono ?_)
        rintro e w2 ⟨rfl, b2⟩
        have F0 := hid ((b2.block w.heap.size (Array.getElem?_eq_some_iff.1 F0.out).1).trans F0.out)
        have BW := hid (thn_v BW.out b2)
        have ⟨hl, hb3⟩ := retV F0.out BW.out (Nat.le_refl _) X (x : Nat) true
        clear b2)
     | ((with_reducible show wpList _ _ _ (⟨none, .store 151 (.tmp 2) (.tmp 33), _, _, _, _⟩ :: _) _ _)
        refine wpList_store_mid rfl 151 (.tmp 2) (.tmp 33) rfl w.heap.size 0 #[.string X, .int .u32 (x : Nat), .bool true] rfl rfl (thereV F0.out) HIN.out (oneV _ _ _) ?_
        show wpList _ _ _ _ _ (w2.setCells w.heap.size 0 [.string X, .int .u32 (x : Nat), .bool true])
        generalize w2.setCells w.heap.size 0 [.string X, .int .u32 (x : Nat), .bool true] = w3 at hl hb3 ⊢))
    exact bodyPost_ret (v := .tuple #[.agg #[.string X, .int .u32 (x : Nat), .bool true], .int .i64 0]) (results_two15 Tryz.results202 rfl rfl hl) rfl ⟨rfl, hb3⟩
   ·rw [if_neg (by decide)]
    go_enter Tryz.func202, Tryz.ntmps202
    go_wp2_with (first
     | (go_at_call 224
        (with_reducible refine (HC.out _).mono ?_)
        rintro e w1 ⟨rfl, b1⟩
        have F0 := hid ((b1.block w.heap.size (by simp only [World.size_alloc]; omega)).trans (heap_alloc_new w _))
        have BW := hid (thn_v ((Below.refl _ _).alloc (Nat.le_refl _) _) b1)
        clear b1)
     | (go_at_call 225
        (with_reducible refine (HX.out _ (HON.out _ _ HG.out BW.out)).mono ?_)
        rintro e w2 ⟨rfl, b2⟩
        have F0 := hid ((b2.block w.heap.size (Array.getElem?_eq_some_iff.1 F0.out).1).trans F0.out)
        have BW := hid (thn_v BW.out b2)
        have ⟨hl, hb3⟩ := retV F0.out BW.out (Nat.le_refl _) ⟨#[]⟩ 0 false
        clear b2)
     | ((with_reducible show wpList _ _ _ (⟨none, .store 151 (.tmp 2) (.tmp 29), _, _, _, _⟩ :: _) _ _)
        refine wpList_store_mid rfl 151 (.tmp 2) (.tmp 29) rfl w.heap.size 0 #[.string ⟨#[]⟩, .int .u32 0, .bool false] rfl rfl (thereV F0.out) HIN.out (oneV _ _ _) ?_
        show wpList _ _ _ _ _ (w2.setCells w.heap.size 0 [.string ⟨#[]⟩, .int .u32 0, .bool false])
        generalize w2.setCells w.heap.size 0 [.string ⟨#[]⟩, .int .u32 0, .bool false] = w3 at hl hb3 ⊢))
    exact bodyPost_ret (v := .tuple #[.agg #[.string ⟨#[]⟩, .int .u32 0, .bool false], .int .i64 160]) (results_two15 Tryz.results202 rfl rfl hl) rfl ⟨rfl, hb3⟩
  ·have hm : colA l = l.length := by have := col_le l; omega
   have hv := hid (rd_n h0 hm)
   rw [decide_eq_false h1, hm, List.take_of_length_le (Nat.le_refl _), ← hS] at HC
   rw [hm, List.take_of_length_le (Nat.le_refl _), ← hS] at hne
   rw [hv.out, ← hS]
   obtain ⟨Y, hY⟩ : ∃ Y, Y = bs (l.drop (l.length + 1)) := ⟨_, rfl⟩
   rw [← hY] at HC
   clear hl hll hE hG hs h0 h1 hm hY hS hv
   go_enter Tryz.func202, Tryz.ntmps202
   go_wp2_with (first
    | (go_at_call 224
       (with_reducible refine (HC.out _).mono ?_)
       rintro e w1 ⟨rfl, b1⟩
       have F0 := hid ((b1.block w.heap.size (by simp only [World.size_alloc]; omega)).trans (heap_alloc_new w _))
       have BW := hid (thn_v ((Below.refl _ _).alloc (Nat.le_refl _) _) b1)
       have ⟨hl, hb3⟩ := retV F0.out BW.out (Nat.le_refl _) S 0 false
       clear b1)
    | ((with_reducible show wpList _ _ _ (⟨none, .store 151 (.tmp 2) (.tmp 21), _, _, _, _⟩ :: _) _ _)
       refine wpList_store_mid rfl 151 (.tmp 2) (.tmp 21) rfl w.heap.size 0 #[.string S, .int .u32 0, .bool false] rfl rfl (thereV F0.out) HIN.out (oneV _ _ _) ?_
       show wpList _ _ _ _ _ (w1.setCells w.heap.size 0 [.string S, .int .u32 0, .bool false])
       generalize w1.setCells w.heap.size 0 [.string S, .int .u32 0, .bool false] = w3 at hl hb3 ⊢))
   exact bodyPost_ret (v := .tuple #[.agg #[.string S, .int .u32 0, .bool false], .int .i64 0]) (results_two15 Tryz.results202 rfl rfl hl) rfl ⟨rfl, hb3⟩
end Go.Proofs.YtlenjfodjkhpmaaGreatDoor
