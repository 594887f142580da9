/- What the calls of the landed package arch return, of a world in which its table of architectures lies as the text lays it: as the chapter says. No other condition. -/
import Derived.Test.YtjfoipjifjblmaaDoorBb
import Derived.Deep.QuietTactic
import Derived.BigQuiet
import Derived.Laws.BitsAllLaws
import Derived.WalkSmall
namespace Go.Proofs.YtjfoipjifjblmaaDoor
open Go.RowKit
set_option linter.unusedVariables false
attribute [local go_sem ↓] Go.wp_at_zero Go.wp_at_succ

/-- The table of architectures lies in memory. -/
def GA8 (w : World) : Prop := ∀ k, k < 6 → w.cell? ⟨0, k * 2, none⟩ = some (.string (archN.getD k ⟨#[]⟩)) ∧ w.cell? ⟨0, k * 2 + 1, none⟩ = some (.int .u32 (archT.getD k 0))
theorem GA8.lt {w : World} (h : GA8 w) : 0 < w.heap.size := World.block_lt_of_cell? w _ (h 0 (by omega)).1
theorem GA8.on {w w' : World} (h : GA8 w) (b : Below w.heap.size w w') : GA8 w' := fun k hk =>
  ⟨(b.cell (p := ⟨0, k * 2, none⟩) h.lt).trans (h k hk).1, (b.cell (p := ⟨0, k * 2 + 1, none⟩) h.lt).trans (h k hk).2⟩
theorem GA8.al {w : World} (h : GA8 w) (o : Obj) : GA8 (w.alloc o) := h.on ((Below.refl _ _).alloc (Nat.le_refl _) o)
def inA8 (a : Int) : Bool := decide (0 ≤ a ∧ a < 6)
set_option maxHeartbeats 1600000 in
theorem rowOf_in (k : Nat) (hk : k < 6) (w : World) (hG : GA8 w) : Calls Tryd.prog 23 #[.int .i64 k] w fun e w' =>
    e = .returned (.tuple #[.agg #[.string (archN.getD k ⟨#[]⟩), .int .u32 (archT.getD k 0)], .bool true]) ∧ Below w.heap.size w w' := by
  have HG := hG.al (.cells #[.string ⟨#[]⟩, .int .u32 0] 49) k hk
  obtain ⟨c0, c1⟩ := HG
  obtain ⟨x, hx⟩ : ∃ x, x = archN.getD k ⟨#[]⟩ := ⟨_, rfl⟩
  obtain ⟨y, hy⟩ : ∃ y, y = archT.getD k 0 := ⟨_, rfl⟩
  rw [← hx] at c0 ⊢
  rw [← hy] at c1 ⊢
  have k0 : decide ((k : Int) < 0) = false := decide_eq_false (by omega)
  have k1 : decide ((6 : Int) ≤ k) = false := decide_eq_false (by omega)
  have k2 : (k : Int) < 6 := by omega
  have k3 : (0 : Int) ≤ k := by omega
  have hl := Lib.hid hG.lt
  clear hx hy hG
  go_enter Tryd.func23, Tryd.ntmps23
  go_wp2
  refine bodyPost_ret (v := .tuple #[.agg #[.string x, .int .u32 y], .bool true]) (by simp [results, Tryd.results23, go_sem]) rfl ⟨rfl, ?_⟩
  exact (Below.refl _ _).alloc (Nat.le_refl _) _
theorem rowOf_neg (a : Int) (ha : a < 0) (w : World) : Calls Tryd.prog 23 #[.int .i64 a] w fun e w' =>
    e = .returned (.tuple #[.agg #[.string ⟨#[]⟩, .int .u32 0], .bool false]) ∧ Below w.heap.size w w' := by
  have k0 : decide (a < 0) = true := decide_eq_true ha
  go_enter Tryd.func23, Tryd.ntmps23
  go_wp2
  refine bodyPost_ret (v := .tuple #[.agg #[.string ⟨#[]⟩, .int .u32 0], .bool false]) (by simp [results, Tryd.results23, go_sem]) rfl ⟨rfl, ?_⟩
  exact (Below.refl _ _).alloc (Nat.le_refl _) _
theorem rowOf_big (a : Int) (ha : 6 ≤ a) (w : World) : Calls Tryd.prog 23 #[.int .i64 a] w fun e w' =>
    e = .returned (.tuple #[.agg #[.string ⟨#[]⟩, .int .u32 0], .bool false]) ∧ Below w.heap.size w w' := by
  have k0 : decide (a < 0) = false := decide_eq_false (by omega)
  have k1 : decide (6 ≤ a) = true := decide_eq_true ha
  go_enter Tryd.func23, Tryd.ntmps23
  go_wp2
  refine bodyPost_ret (v := .tuple #[.agg #[.string ⟨#[]⟩, .int .u32 0], .bool false]) (by simp [results, Tryd.results23, go_sem]) rfl ⟨rfl, ?_⟩
  exact (Below.refl _ _).alloc (Nat.le_refl _) _
theorem rowOf_any (a : Int) (w : World) (hG : GA8 w) : Calls Tryd.prog 23 #[.int .i64 a] w fun e w' =>
    e = .returned (.tuple #[.agg #[.string (nameR a), .int .u32 (tokR a)], .bool (inA8 a)]) ∧ Below w.heap.size w w' := by
  by_cases h0 : a < 0
  · have h := rowOf_neg a h0 w
    rwa [show (⟨#[]⟩ : ByteArray) = nameR a from by unfold nameR; rw [if_neg (by omega)], show (0 : Int) = tokR a from by unfold tokR; rw [if_neg (by omega)], show false = inA8 a from by unfold inA8; rw [decide_eq_false (by omega)]] at h
  · by_cases h6 : 6 ≤ a
    · have h := rowOf_big a h6 w
      rwa [show (⟨#[]⟩ : ByteArray) = nameR a from by unfold nameR; rw [if_neg (by omega)], show (0 : Int) = tokR a from by unfold tokR; rw [if_neg (by omega)], show false = inA8 a from by unfold inA8; rw [decide_eq_false (by omega)]] at h
    · obtain ⟨k, rfl⟩ := Int.eq_ofNat_of_zero_le (by omega : 0 ≤ a)
      have h := rowOf_in k (by omega) w hG
      rwa [show archN.getD k ⟨#[]⟩ = nameR k from by unfold nameR; rw [if_pos (by omega), Int.toNat_natCast], show archT.getD k 0 = tokR k from by unfold tokR; rw [if_pos (by omega), Int.toNat_natCast], show true = inA8 k from by unfold inA8; rw [decide_eq_true (by omega)]] at h
theorem name8 (a : Int) (w : World) (hG : GA8 w) : Calls Tryd.prog 11 #[.int .i64 a] w fun e w' => e = .returned (.string (nameR a)) ∧ Below w.heap.size w w' := by
  have H := Lib.hid (rowOf_any a w hG)
  generalize nameR a = x at H ⊢
  generalize tokR a = y at H
  generalize inA8 a = z at H
  clear hG
  go_enter Tryd.func11, Tryd.ntmps11
  go_wp2_with (go_at_call 23; ((with_reducible refine H.out.mono ?_); rintro e w1 ⟨rfl, b1⟩))
  go_ret
  exact ⟨rfl, b1.alloc b1.size _⟩
theorem token8 (a : Int) (w : World) (hG : GA8 w) : Calls Tryd.prog 13 #[.int .i64 a] w fun e w' => e = .returned (.tuple #[.int .u32 (tokR a), .int .i64 (tokE a)]) ∧ Below w.heap.size w w' := by
  have H := Lib.hid (rowOf_any a w hG)
  generalize nameR a = x at H
  have HT := Lib.hid (show inA8 a = false → tokR a = 0 from fun h => by unfold tokR; rw [if_neg (of_decide_eq_false h)])
  have HE := Lib.hid (show tokE a = if inA8 a = true then 0 else 80 from by
    unfold tokE inA8
    by_cases h : 0 ≤ a ∧ a < 6
    · rw [if_pos h, if_pos (decide_eq_true h)]
    · rw [if_neg h, if_neg (by rw [decide_eq_false h]; decide)])
  rw [HE.out]
  clear HE
  generalize tokR a = y at H HT ⊢
  generalize inA8 a = z at H HT ⊢
  clear hG
  cases z
  · have hy := HT.out rfl
    subst hy
    go_enter Tryd.func13, Tryd.ntmps13
    go_wp2_with (go_at_call 23; ((with_reducible refine H.out.mono ?_); rintro e w1 ⟨rfl, b1⟩))
    go_ret2
    exact ⟨rfl, b1.alloc b1.size _⟩
  · clear HT
    go_enter Tryd.func13, Tryd.ntmps13
    go_wp2_with (go_at_call 23; ((with_reducible refine H.out.mono ?_); rintro e w1 ⟨rfl, b1⟩))
    go_ret2
    exact ⟨rfl, b1.alloc b1.size _⟩
theorem of64_0 (w : World) (hG : GA8 w) : Calls Tryd.prog 15 #[.int .i64 0] w fun e w' => e = .returned (.bool true) ∧ Below w.heap.size w w' := by
  have H := Lib.hid (rowOf_any 0 w hG)
  generalize nameR 0 = x at H
  rw [show tokR 0 = 3221225534 from by kernel_rfl] at H
  have hb : bits .and .u32 3221225534 2147483648 = 2147483648 := by decide +kernel
  generalize inA8 0 = z at H
  clear hG
  go_enter Tryd.func15, Tryd.ntmps15
  go_wp2_with (go_at_call 23; ((with_reducible refine H.out.mono ?_); rintro e w1 ⟨rfl, b1⟩))
  go_ret
  exact ⟨rfl, b1.alloc b1.size _⟩
theorem of64_1 (w : World) (hG : GA8 w) : Calls Tryd.prog 15 #[.int .i64 1] w fun e w' => e = .returned (.bool false) ∧ Below w.heap.size w w' := by
  have H := Lib.hid (rowOf_any 1 w hG)
  generalize nameR 1 = x at H
  rw [show tokR 1 = 1073741827 from by kernel_rfl] at H
  have hb : bits .and .u32 1073741827 2147483648 = 0 := by decide +kernel
  generalize inA8 1 = z at H
  clear hG
  go_enter Tryd.func15, Tryd.ntmps15
  go_wp2_with (go_at_call 23; ((with_reducible refine H.out.mono ?_); rintro e w1 ⟨rfl, b1⟩))
  go_ret
  exact ⟨rfl, b1.alloc b1.size _⟩
theorem of64_2 (w : World) (hG : GA8 w) : Calls Tryd.prog 15 #[.int .i64 2] w fun e w' => e = .returned (.bool false) ∧ Below w.heap.size w w' := by
  have H := Lib.hid (rowOf_any 2 w hG)
  generalize nameR 2 = x at H
  rw [show tokR 2 = 3221225534 from by kernel_rfl] at H
  have hb : bits .and .u32 3221225534 2147483648 = 2147483648 := by decide +kernel
  generalize inA8 2 = z at H
  clear hG
  go_enter Tryd.func15, Tryd.ntmps15
  go_wp2_with (go_at_call 23; ((with_reducible refine H.out.mono ?_); rintro e w1 ⟨rfl, b1⟩))
  go_ret
  exact ⟨rfl, b1.alloc b1.size _⟩
theorem of64_3 (w : World) (hG : GA8 w) : Calls Tryd.prog 15 #[.int .i64 3] w fun e w' => e = .returned (.bool false) ∧ Below w.heap.size w w' := by
  have H := Lib.hid (rowOf_any 3 w hG)
  generalize nameR 3 = x at H
  rw [show tokR 3 = 1073741864 from by kernel_rfl] at H
  have hb : bits .and .u32 1073741864 2147483648 = 0 := by decide +kernel
  generalize inA8 3 = z at H
  clear hG
  go_enter Tryd.func15, Tryd.ntmps15
  go_wp2_with (go_at_call 23; ((with_reducible refine H.out.mono ?_); rintro e w1 ⟨rfl, b1⟩))
  go_ret
  exact ⟨rfl, b1.alloc b1.size _⟩
theorem of64_4 (w : World) (hG : GA8 w) : Calls Tryd.prog 15 #[.int .i64 4] w fun e w' => e = .returned (.bool true) ∧ Below w.heap.size w w' := by
  have H := Lib.hid (rowOf_any 4 w hG)
  generalize nameR 4 = x at H
  rw [show tokR 4 = 3221225655 from by kernel_rfl] at H
  have hb : bits .and .u32 3221225655 2147483648 = 2147483648 := by decide +kernel
  generalize inA8 4 = z at H
  clear hG
  go_enter Tryd.func15, Tryd.ntmps15
  go_wp2_with (go_at_call 23; ((with_reducible refine H.out.mono ?_); rintro e w1 ⟨rfl, b1⟩))
  go_ret
  exact ⟨rfl, b1.alloc b1.size _⟩
theorem of64_5 (w : World) (hG : GA8 w) : Calls Tryd.prog 15 #[.int .i64 5] w fun e w' => e = .returned (.bool true) ∧ Below w.heap.size w w' := by
  have H := Lib.hid (rowOf_any 5 w hG)
  generalize nameR 5 = x at H
  rw [show tokR 5 = 3221225715 from by kernel_rfl] at H
  have hb : bits .and .u32 3221225715 2147483648 = 2147483648 := by decide +kernel
  generalize inA8 5 = z at H
  clear hG
  go_enter Tryd.func15, Tryd.ntmps15
  go_wp2_with (go_at_call 23; ((with_reducible refine H.out.mono ?_); rintro e w1 ⟨rfl, b1⟩))
  go_ret
  exact ⟨rfl, b1.alloc b1.size _⟩
theorem of64_out (a : Int) (ha : ¬ (0 ≤ a ∧ a < 6)) (w : World) (hG : GA8 w) : Calls Tryd.prog 15 #[.int .i64 a] w fun e w' => e = .returned (.bool false) ∧ Below w.heap.size w w' := by
  have H := Lib.hid (rowOf_any a w hG)
  generalize nameR a = x at H
  rw [show tokR a = 0 from by unfold tokR; rw [if_neg ha]] at H
  have hb : bits .and .u32 0 2147483648 = 0 := by decide +kernel
  clear ha
  generalize inA8 a = z at H
  clear hG
  go_enter Tryd.func15, Tryd.ntmps15
  go_wp2_with (go_at_call 23; ((with_reducible refine H.out.mono ?_); rintro e w1 ⟨rfl, b1⟩))
  go_ret
  exact ⟨rfl, b1.alloc b1.size _⟩
theorem of64_8 (a : Int) (w : World) (hG : GA8 w) : Calls Tryd.prog 15 #[.int .i64 a] w fun e w' => e = .returned (.bool (o64R a)) ∧ Below w.heap.size w w' := by
  by_cases h : 0 ≤ a ∧ a < 6
  · rcases (by omega : a = 0 ∨ a = 1 ∨ a = 2 ∨ a = 3 ∨ a = 4 ∨ a = 5) with rfl | rfl | rfl | rfl | rfl | rfl
    · exact of64_0 w hG
    · exact of64_1 w hG
    · exact of64_2 w hG
    · exact of64_3 w hG
    · exact of64_4 w hG
    · exact of64_5 w hG
  · rw [show o64R a = false from by
      unfold o64R
      rw [beq_eq_false_iff_ne.2 (by omega), beq_eq_false_iff_ne.2 (by omega), beq_eq_false_iff_ne.2 (by omega)]; rfl]
    exact of64_out a h w hG
/-- What the program's numbers say: whether a call of the architecture may have the number. -/
def numB (k nr : Int) : Bool := if k = 0 then decide (nr / 1073741824 % 2 = 0) else if k = 2 then decide (nr / 1073741824 % 2 = 1) else true
theorem and_bit (n : Nat) : n &&& 1073741824 = (n / 1073741824 % 2) * 1073741824 := by
  have e : (2 : Nat) ^ 30 = 1073741824 := by decide
  have t : n.testBit 30 = decide (n / 1073741824 % 2 = 1) := by rw [Nat.testBit_eq_decide_div_mod_eq, e]
  apply Nat.eq_of_testBit_eq
  intro i
  rw [Nat.testBit_and, ← e, Nat.testBit_two_pow]
  by_cases h : 30 = i
  · subst h
    rw [t]
    rcases Nat.mod_two_eq_zero_or_one (n / 1073741824) with g | g <;> rw [e, g] <;> decide
  · rw [decide_eq_false h, Bool.and_false]
    rcases Nat.mod_two_eq_zero_or_one (n / 1073741824) with g | g <;> rw [e, g]
    · simp
    · rw [Nat.one_mul, ← e, Nat.testBit_two_pow, decide_eq_false h]
theorem num_0a (n : Nat) (hn : n < 4294967296) (hb : n / 1073741824 % 2 = 0) (w : World) : Calls Tryd.prog 25 #[.int .i64 0, .int .u32 n] w fun e w' => e = .returned (.bool true) ∧ w = w' := by
  have hy : bits .and .u32 (n : Int) 1073741824 = 0 := (u32_and_nat n 1073741824 hn (by decide)).trans (by rw [and_bit, hb]; rfl)
  clear hb hn
  go_enter Tryd.func25, Tryd.ntmps25
  go_wp2
  go_ret
  exact ⟨rfl, rfl⟩
theorem num_0b (n : Nat) (hn : n < 4294967296) (hb : n / 1073741824 % 2 = 1) (w : World) : Calls Tryd.prog 25 #[.int .i64 0, .int .u32 n] w fun e w' => e = .returned (.bool false) ∧ w = w' := by
  have hy : bits .and .u32 (n : Int) 1073741824 = 1073741824 := (u32_and_nat n 1073741824 hn (by decide)).trans (by rw [and_bit, hb]; rfl)
  clear hb hn
  go_enter Tryd.func25, Tryd.ntmps25
  go_wp2
  go_ret
  exact ⟨rfl, rfl⟩
theorem num_2a (n : Nat) (hn : n < 4294967296) (hb : n / 1073741824 % 2 = 0) (w : World) : Calls Tryd.prog 25 #[.int .i64 2, .int .u32 n] w fun e w' => e = .returned (.bool false) ∧ w = w' := by
  have hy : bits .and .u32 (n : Int) 1073741824 = 0 := (u32_and_nat n 1073741824 hn (by decide)).trans (by rw [and_bit, hb]; rfl)
  clear hb hn
  go_enter Tryd.func25, Tryd.ntmps25
  go_wp2
  go_ret
  exact ⟨rfl, rfl⟩
theorem num_2b (n : Nat) (hn : n < 4294967296) (hb : n / 1073741824 % 2 = 1) (w : World) : Calls Tryd.prog 25 #[.int .i64 2, .int .u32 n] w fun e w' => e = .returned (.bool true) ∧ w = w' := by
  have hy : bits .and .u32 (n : Int) 1073741824 = 1073741824 := (u32_and_nat n 1073741824 hn (by decide)).trans (by rw [and_bit, hb]; rfl)
  clear hb hn
  go_enter Tryd.func25, Tryd.ntmps25
  go_wp2
  go_ret
  exact ⟨rfl, rfl⟩
theorem num_else (k nr : Int) (h0 : k ≠ 0) (h2 : k ≠ 2) (w : World) : Calls Tryd.prog 25 #[.int .i64 k, .int .u32 nr] w fun e w' => e = .returned (.bool true) ∧ w = w' := by
  have e0 : (k == 0) = false := beq_eq_false_iff_ne.2 h0
  have e2 : (k == 2) = false := beq_eq_false_iff_ne.2 h2
  clear h0 h2
  go_enter Tryd.func25, Tryd.ntmps25
  go_wp2
  go_ret
  exact ⟨rfl, rfl⟩
theorem num_any (k nr : Int) (n0 : 0 ≤ nr) (n1 : nr < 4294967296) (w : World) : Calls Tryd.prog 25 #[.int .i64 k, .int .u32 nr] w fun e w' => e = .returned (.bool (numB k nr)) ∧ w = w' := by
  obtain ⟨n, rfl⟩ := Int.eq_ofNat_of_zero_le n0
  by_cases h0 : k = 0
  · subst h0
    by_cases hb : n / 1073741824 % 2 = 0
    · rw [show numB 0 (n : Int) = true from by unfold numB; rw [if_pos rfl, decide_eq_true (by omega)]]; exact num_0a n (by omega) hb w
    · rw [show numB 0 (n : Int) = false from by unfold numB; rw [if_pos rfl, decide_eq_false (by omega)]]; exact num_0b n (by omega) (by omega) w
  · by_cases h2 : k = 2
    · subst h2
      by_cases hb : n / 1073741824 % 2 = 0
      · rw [show numB 2 (n : Int) = false from by unfold numB; rw [if_neg (by omega), if_pos rfl, decide_eq_false (by omega)]]; exact num_2a n (by omega) hb w
      · rw [show numB 2 (n : Int) = true from by unfold numB; rw [if_neg (by omega), if_pos rfl, decide_eq_true (by omega)]]; exact num_2b n (by omega) (by omega) w
    · rw [show numB k (n : Int) = true from by unfold numB; rw [if_neg h0, if_neg h2]]; exact num_else k n h0 h2 w
/-- The test of a name. -/
theorem pclos (k : Nat) (hk : k < 6) (s : ByteArray) (b : Nat) (w : World) (hG : GA8 w) (hb : w.cell? ⟨b, 0, none⟩ = some (.string s)) : Calls Tryd.prog 22 #[.int .i64 k, .pointer (some ⟨b, 0, none⟩)] w fun e w' =>
    e = .returned (.bool (decide (archN.getD k ⟨#[]⟩ = s))) ∧ Below w.heap.size w w' := by
  obtain ⟨c0, c1⟩ := hG k hk
  have hv := Lib.hid (show decide (archN.getD k ⟨#[]⟩ = s) = ((archN.getD k ⟨#[]⟩).toList == s.toList) from by
    rw [Bool.eq_iff_iff, decide_eq_true_iff, beq_iff_eq]
    exact ⟨fun h => by rw [h], list_of_bytes8⟩)
  obtain ⟨x, hx⟩ : ∃ x, x = archN.getD k ⟨#[]⟩ := ⟨_, rfl⟩
  rw [← hx] at c0 hv ⊢
  have k2 : (k : Int) < 6 := by omega
  have k3 : (0 : Int) ≤ k := by omega
  clear hx hG c1
  go_enter Tryd.func22, Tryd.ntmps22
  go_wp2
  go_quiet (fail)
  go_wp2
  go_ret
  exact ⟨by rw [hv.out]; rfl, below_drewN (Below.refl _ _) _⟩
/-- The test of a token and a number. -/
theorem oclos_no (k : Nat) (hk : k < 6) (t nr : Int) (b c : Nat) (ht : archT.getD k 0 ≠ t) (w : World) (hG : GA8 w) (hb : w.cell? ⟨b, 0, none⟩ = some (.int .u32 t)) : Calls Tryd.prog 24 #[.int .i64 k, .pointer (some ⟨b, 0, none⟩), .pointer (some ⟨c, 0, none⟩)] w fun e w' =>
    e = .returned (.bool false) ∧ Below w.heap.size w w' := by
  obtain ⟨c0, c1⟩ := hG k hk
  obtain ⟨x, hx⟩ : ∃ x, x = archT.getD k 0 := ⟨_, rfl⟩
  rw [← hx] at c1 ht
  have hbb : (x == t) = false := beq_eq_false_iff_ne.2 ht
  have k2 : (k : Int) < 6 := by omega
  have k3 : (0 : Int) ≤ k := by omega
  clear hx hG c0 ht
  go_enter Tryd.func24, Tryd.ntmps24
  go_wp2
  go_quiet (fail)
  go_wp2
  go_ret
  exact ⟨rfl, below_drewN (Below.refl _ _) _⟩
theorem oclos_yes (k : Nat) (hk : k < 6) (t nr : Int) (n0 : 0 ≤ nr) (n1 : nr < 4294967296) (b c : Nat) (ht : archT.getD k 0 = t) (w : World) (hG : GA8 w) (hb : w.cell? ⟨b, 0, none⟩ = some (.int .u32 t)) (hc : w.cell? ⟨c, 0, none⟩ = some (.int .u32 nr)) :
    Calls Tryd.prog 24 #[.int .i64 k, .pointer (some ⟨b, 0, none⟩), .pointer (some ⟨c, 0, none⟩)] w fun e w' => e = .returned (.bool (numB k nr)) ∧ Below w.heap.size w w' := by
  obtain ⟨c0, c1⟩ := hG k hk
  obtain ⟨x, hx⟩ : ∃ x, x = archT.getD k 0 := ⟨_, rfl⟩
  rw [← hx] at c1 ht
  subst ht
  have H := fun W => num_any k nr n0 n1 W
  obtain ⟨y, hy⟩ : ∃ y, y = numB k nr := ⟨_, rfl⟩
  rw [← hy] at H ⊢
  have HH := Lib.hid (fun W => (H W).mono (fun e w' h => (⟨h.1, h.2.symm⟩ : e = .returned (.bool y) ∧ w' = W)))
  have hbb : (x == x) = true := by simp
  have k2 : (k : Int) < 6 := by omega
  have k3 : (0 : Int) ≤ k := by omega
  clear hx hG c0 hy H n0 n1
  go_enter Tryd.func24, Tryd.ntmps24
  go_wp2
  go_quiet ((go_at_call 25; exact Calls.quiet_of_same (HH.out _)))
  go_wp2
  go_ret
  exact ⟨rfl, below_drewN (Below.refl _ _) _⟩
/-- The first of six of which it is so. -/
def firI (p : Nat → Bool) : Nat := if p 0 then 0 else if p 1 then 1 else if p 2 then 2 else if p 3 then 3 else if p 4 then 4 else if p 5 then 5 else 0
def firB (p : Nat → Bool) : Bool := p 0 || p 1 || p 2 || p 3 || p 4 || p 5
theorem fir_hit {p : Nat → Bool} {k : Nat} (hk : k < 6) (h : p k = true) (hm : ∀ j, j < k → p j = false) : firI p = k ∧ firB p = true := by
  unfold firI firB
  match k, hk, h, hm with
  | 0, _, h, hm => simp [h]
  | 1, _, h, hm => simp [h, hm 0 (by omega)]
  | 2, _, h, hm => simp [h, hm 0 (by omega), hm 1 (by omega)]
  | 3, _, h, hm => simp [h, hm 0 (by omega), hm 1 (by omega), hm 2 (by omega)]
  | 4, _, h, hm => simp [h, hm 0 (by omega), hm 1 (by omega), hm 2 (by omega), hm 3 (by omega)]
  | 5, _, h, hm => simp [h, hm 0 (by omega), hm 1 (by omega), hm 2 (by omega), hm 3 (by omega), hm 4 (by omega)]
  | k + 6, hk, _, _ => omega
theorem fir_miss {p : Nat → Bool} (hm : ∀ j, j < 6 → p j = false) : firI p = 0 ∧ firB p = false := by
  unfold firI firB
  simp [hm 0 (by omega), hm 1 (by omega), hm 2 (by omega), hm 3 (by omega), hm 4 (by omega), hm 5 (by omega)]
set_option maxHeartbeats 1600000 in
theorem find_p (p : Nat → Bool) (b : Nat) (w : World) (HP : ∀ (k : Nat) (W : World), k < 6 → Below w.heap.size w W → Calls Tryd.prog 22 #[.int .i64 k, .pointer (some ⟨b, 0, none⟩)] W fun e w' => e = .returned (.bool (p k)) ∧ Below W.heap.size W w') :
    Calls Tryd.prog 21 #[.func (.func 22) #[] #[.pointer (some ⟨b, 0, none⟩)]] w fun e w' => e = .returned (.tuple #[.int .i64 (firI p : Nat), .bool (firB p)]) ∧ Below w.heap.size w w' := by
  have HP := Lib.hid HP
  go_enter Tryd.func21, Tryd.ntmps21
  go_wp2
  go_loopw [5] (fun i wr => ∃ k : Nat, k ≤ 6 ∧ i = .int .i64 k ∧ Hid (∀ j, j < k → p j = false) ∧ Hid (Below w.heap.size w wr)) (fun i _ => 6 - (intOf i).toNat)
  case atStart => exact ⟨0, by omega, rfl, Lib.hid (fun j hj => absurd hj (by omega)), Lib.hid (Below.refl _ _)⟩
  case round =>
    obtain ⟨k, hk, rfl, hm, hB⟩ := hrel
    by_cases hlt : k < 6
    · have k1 : (k : Int) < 6 := by omega
      have k0 : (0 : Int) ≤ k := by omega
      have HK := Lib.hid (fun W hb => HP.out k W hlt hb)
      have HH := Lib.hid (fun h => fir_hit hlt h hm.out)
      have HS := Lib.hid (fun (h : p k = false) => (fun j hj => by
        by_cases e : j = k
        · rw [e]; exact h
        · exact hm.out j (by omega) : ∀ j, j < k + 1 → p j = false))
      generalize p k = x at HK HH HS
      clear HP hm
      cases x
      · have hv := Lib.hid (HS.out rfl)
        clear HS HH
        go_wp2_with (go_at_call 22; ((with_reducible refine (HK.out _ hB.out).mono ?_); rintro e w1 ⟨rfl, b1⟩); have B1 := Lib.hid (thn hB.out b1))
        go_roundw
        case rel => exact ⟨k + 1, by omega, by go_num, hv, B1⟩
        case measure => simp [intOf]; omega
      · have hv := Lib.hid (HH.out rfl)
        clear HS HH
        go_wp2_with (go_at_call 22; ((with_reducible refine (HK.out _ hB.out).mono ?_); rintro e w1 ⟨rfl, b1⟩); have B1 := Lib.hid (thn hB.out b1))
        go_ret2
        exact ⟨by rw [hv.out.1, hv.out.2]; rfl, B1.out⟩
    · obtain rfl : k = 6 := by omega
      have hv := Lib.hid (fir_miss hm.out)
      go_wp2
      go_ret2
      exact ⟨by rw [hv.out.1, hv.out.2]; rfl, hB.out⟩
set_option maxHeartbeats 1600000 in
theorem find_o (p : Nat → Bool) (b c : Nat) (w : World) (HP : ∀ (k : Nat) (W : World), k < 6 → Below w.heap.size w W → Calls Tryd.prog 24 #[.int .i64 k, .pointer (some ⟨b, 0, none⟩), .pointer (some ⟨c, 0, none⟩)] W fun e w' => e = .returned (.bool (p k)) ∧ Below W.heap.size W w') :
    Calls Tryd.prog 21 #[.func (.func 24) #[] #[.pointer (some ⟨b, 0, none⟩), .pointer (some ⟨c, 0, none⟩)]] w fun e w' => e = .returned (.tuple #[.int .i64 (firI p : Nat), .bool (firB p)]) ∧ Below w.heap.size w w' := by
  have HP := Lib.hid HP
  go_enter Tryd.func21, Tryd.ntmps21
  go_wp2
  go_loopw [5] (fun i wr => ∃ k : Nat, k ≤ 6 ∧ i = .int .i64 k ∧ Hid (∀ j, j < k → p j = false) ∧ Hid (Below w.heap.size w wr)) (fun i _ => 6 - (intOf i).toNat)
  case atStart => exact ⟨0, by omega, rfl, Lib.hid (fun j hj => absurd hj (by omega)), Lib.hid (Below.refl _ _)⟩
  case round =>
    obtain ⟨k, hk, rfl, hm, hB⟩ := hrel
    by_cases hlt : k < 6
    · have k1 : (k : Int) < 6 := by omega
      have k0 : (0 : Int) ≤ k := by omega
      have HK := Lib.hid (fun W hb => HP.out k W hlt hb)
      have HH := Lib.hid (fun h => fir_hit hlt h hm.out)
      have HS := Lib.hid (fun (h : p k = false) => (fun j hj => by
        by_cases e : j = k
        · rw [e]; exact h
        · exact hm.out j (by omega) : ∀ j, j < k + 1 → p j = false))
      generalize p k = x at HK HH HS
      clear HP hm
      cases x
      · have hv := Lib.hid (HS.out rfl)
        clear HS HH
        go_wp2_with (go_at_call 24; ((with_reducible refine (HK.out _ hB.out).mono ?_); rintro e w1 ⟨rfl, b1⟩); have B1 := Lib.hid (thn hB.out b1))
        go_roundw
        case rel => exact ⟨k + 1, by omega, by go_num, hv, B1⟩
        case measure => simp [intOf]; omega
      · have hv := Lib.hid (HH.out rfl)
        clear HS HH
        go_wp2_with (go_at_call 24; ((with_reducible refine (HK.out _ hB.out).mono ?_); rintro e w1 ⟨rfl, b1⟩); have B1 := Lib.hid (thn hB.out b1))
        go_ret2
        exact ⟨by rw [hv.out.1, hv.out.2]; rfl, B1.out⟩
    · obtain rfl : k = 6 := by omega
      have hv := Lib.hid (fir_miss hm.out)
      go_wp2
      go_ret2
      exact ⟨by rw [hv.out.1, hv.out.2]; rfl, hB.out⟩
theorem least6 (P : Nat → Prop) [DecidablePred P] : ∀ (k : Nat), k < 6 → P k → ∃ k, k < 6 ∧ (∀ j, j < k → ¬ P j) ∧ P k := by
  intro k
  induction k using Nat.strongRecOn with
  | _ k ih =>
    intro hk h
    by_cases g : ∃ j, j < k ∧ P j
    · obtain ⟨j, hj, e⟩ := g
      exact ih j hj (Nat.lt_trans hj hk) e
    · exact ⟨k, hk, fun j hj e => g ⟨j, hj, e⟩, h⟩
def nameT (s : ByteArray) (k : Nat) : Bool := decide (archN.getD k ⟨#[]⟩ = s)
def tokT (t nr : Int) (k : Nat) : Bool := decide (archT.getD k 0 = t) && numB k nr
theorem parR_fir (s : ByteArray) : parR s = if s = ⟨#[110, 97, 116, 105, 118, 101]⟩ then ((0 : Int), (0 : Int)) else if firB (nameT s) then (((firI (nameT s) : Nat) : Int), 0) else (0, 80) := by
  by_cases hn : s = ⟨#[110, 97, 116, 105, 118, 101]⟩
  · subst hn
    rw [if_pos rfl]
    decide +kernel
  · rw [if_neg hn]
    unfold parR
    by_cases h : ∃ k, k < 6 ∧ archN.getD k ⟨#[]⟩ = s
    · obtain ⟨k, hk, hm, he⟩ : ∃ k, k < 6 ∧ (∀ j, j < k → archN.getD j ⟨#[]⟩ ≠ s) ∧ archN.getD k ⟨#[]⟩ = s := by
        obtain ⟨k, hk, he⟩ := h
        exact least6 (fun k => archN.getD k ⟨#[]⟩ = s) k hk he
      rw [findN_hit hk he hm]
      obtain ⟨e1, e2⟩ := fir_hit (p := nameT s) hk (decide_eq_true he) (fun j hj => decide_eq_false (hm j hj))
      rw [e1, e2, if_pos rfl]
    · have hm : ∀ j, j < 6 → archN.getD j ⟨#[]⟩ ≠ s := fun j hj e => h ⟨j, hj, e⟩
      rw [findN_miss hm]
      obtain ⟨e1, e2⟩ := fir_miss (p := nameT s) (fun j hj => decide_eq_false (hm j hj))
      rw [e2]
      simp only
      rw [if_neg hn]
      rfl
theorem ofR_fir (t nr : Int) (n0 : 0 ≤ nr) : ofR t nr = (((firI (tokT t nr) : Nat) : Int), firB (tokT t nr)) := by
  have hl : archT.length = 6 := rfl
  by_cases ht : t = 3221225534
  · subst ht
    unfold ofR
    rw [if_pos rfl]
    have a0 : archT.getD 0 0 = 3221225534 := rfl
    have a1 : archT.getD 1 0 ≠ 3221225534 := by decide
    have a2 : archT.getD 2 0 = 3221225534 := rfl
    by_cases hb : nr / 1073741824 % 2 = 1
    · rw [if_pos hb]
      obtain ⟨e1, e2⟩ := fir_hit (p := tokT 3221225534 nr) (k := 2) (by omega) (by
        unfold tokT numB; rw [a2]; simp [hb]) (fun j hj => by
        rcases (by omega : j = 0 ∨ j = 1) with rfl | rfl
        · unfold tokT numB; simp [hb]
        · unfold tokT; rw [decide_eq_false a1]; rfl)
      rw [e1, e2]; rfl
    · rw [if_neg hb]
      obtain ⟨e1, e2⟩ := fir_hit (p := tokT 3221225534 nr) (k := 0) (by omega) (by
        unfold tokT numB; rw [a0]; simp [show nr / 1073741824 % 2 = 0 by omega]) (fun j hj => absurd hj (by omega))
      rw [e1, e2]; rfl
  · unfold ofR
    rw [if_neg ht]
    have hnum : ∀ k, k < 6 → archT.getD k 0 = t → numB k nr = true := fun k hk e => by
      have h0 : k ≠ 0 := fun h => ht (by rw [← e, h]; rfl)
      have h2 : k ≠ 2 := fun h => ht (by rw [← e, h]; rfl)
      unfold numB
      rw [if_neg (by omega), if_neg (by omega)]
    by_cases h : ∃ k, k < 6 ∧ archT.getD k 0 = t
    · obtain ⟨k, hk, hm, he⟩ : ∃ k, k < 6 ∧ (∀ j, j < k → archT.getD j 0 ≠ t) ∧ archT.getD k 0 = t := by
        obtain ⟨k, hk, he⟩ := h
        exact least6 (fun k => archT.getD k 0 = t) k hk he
      rw [findT_hit hk he hm]
      obtain ⟨e1, e2⟩ := fir_hit (p := tokT t nr) hk (by unfold tokT; rw [decide_eq_true he, hnum k hk he]; rfl) (fun j hj => by unfold tokT; rw [decide_eq_false (hm j hj)]; rfl)
      rw [e1, e2]
    · have hm : ∀ j, j < 6 → archT.getD j 0 ≠ t := fun j hj e => h ⟨j, hj, e⟩
      rw [findT_miss hm]
      obtain ⟨e1, e2⟩ := fir_miss (p := tokT t nr) (fun j hj => by unfold tokT; rw [decide_eq_false (hm j hj)]; rfl)
      rw [e1, e2]; rfl
set_option maxHeartbeats 1600000 in
theorem parse8 (s : ByteArray) (w : World) (hG : GA8 w) : Calls Tryd.prog 9 #[.string s] w fun e w' => e = .returned (.tuple #[.int .i64 (parR s).1, .int .i64 (parR s).2]) ∧ Below w.heap.size w w' := by
  rw [parR_fir]
  have B0 := Lib.hid ((Below.refl w.heap.size w).alloc (Nat.le_refl _) (.cells #[.string s] 9))
  by_cases hn : s = ⟨#[110, 97, 116, 105, 118, 101]⟩
  · subst hn
    rw [if_pos rfl]
    clear hG
    go_enter Tryd.func9, Tryd.ntmps9
    go_wp2
    go_ret2
    exact ⟨rfl, B0.out⟩
  · rw [if_neg hn]
    have hbb : (s.toList == [110, 97, 116, 105, 118, 101]) = false := beq_eq_false_iff_ne.2 (fun e => hn (list_of_bytes8 (e.trans (by decide +kernel))))
    have HF := Lib.hid (find_p (nameT s) w.heap.size (w.alloc (.cells #[.string s] 9)) (fun k W hk hb => pclos k hk s w.heap.size W ((hG.al _).on hb) ((hb.cell (p := ⟨w.heap.size, 0, none⟩) (by simp)).trans (by simp [go_sem]))))
    obtain ⟨k, hk⟩ : ∃ k, k = firI (nameT s) := ⟨_, rfl⟩
    rw [← hk] at HF ⊢
    generalize firB (nameT s) = z at HF ⊢
    clear hk hn hG
    cases z
    · go_enter Tryd.func9, Tryd.ntmps9
      go_wp2_with (go_at_call 21; ((with_reducible refine (HF.out).mono ?_); rintro e w1 ⟨rfl, b1⟩))
      go_ret2
      exact ⟨rfl, thn B0.out b1⟩
    · go_enter Tryd.func9, Tryd.ntmps9
      go_wp2_with (go_at_call 21; ((with_reducible refine (HF.out).mono ?_); rintro e w1 ⟨rfl, b1⟩))
      go_ret2
      exact ⟨rfl, thn B0.out b1⟩
set_option maxHeartbeats 1600000 in
theorem of8 (t nr : Int) (n0 : 0 ≤ nr) (n1 : nr < 4294967296) (w : World) (hG : GA8 w) : Calls Tryd.prog 16 #[.int .u32 t, .int .u32 nr] w fun e w' => e = .returned (.tuple #[.int .i64 (ofR t nr).1, .bool (ofR t nr).2]) ∧ Below w.heap.size w w' := by
  rw [ofR_fir t nr n0]
  have B0 := Lib.hid (((Below.refl w.heap.size w).alloc (Nat.le_refl _) (.cells #[.int .u32 t] 32)).alloc (by simp) (.cells #[.int .u32 nr] 32))
  have HF := Lib.hid (find_o (tokT t nr) w.heap.size (w.heap.size + 1) ((w.alloc (.cells #[.int .u32 t] 32)).alloc (.cells #[.int .u32 nr] 32)) (fun k W hk hb => by
    have g := ((hG.al (.cells #[.int .u32 t] 32)).al (.cells #[.int .u32 nr] 32)).on hb
    have q0 := (hb.cell (p := ⟨w.heap.size, 0, none⟩) (by simp; omega)).trans (by simp [go_sem] : _ = some (Value.int .u32 t))
    have q1 := (hb.cell (p := ⟨w.heap.size + 1, 0, none⟩) (by simp)).trans (by simp [go_sem] : _ = some (Value.int .u32 nr))
    by_cases he : archT.getD k 0 = t
    · rw [show tokT t nr k = numB k nr from by unfold tokT; rw [decide_eq_true he]; rfl]
      exact oclos_yes k hk t nr n0 n1 _ _ he W g q0 q1
    · rw [show tokT t nr k = false from by unfold tokT; rw [decide_eq_false he]; rfl]
      exact oclos_no k hk t nr _ _ he W g q0))
  obtain ⟨k, hk⟩ : ∃ k, k = firI (tokT t nr) := ⟨_, rfl⟩
  rw [← hk] at HF ⊢
  generalize firB (tokT t nr) = z at HF ⊢
  clear hk hG n0 n1
  go_enter Tryd.func16, Tryd.ntmps16
  go_wp2_with (go_at_call 21; ((with_reducible refine (HF.out).mono ?_); rintro e w1 ⟨rfl, b1⟩))
  go_ret2
  exact ⟨rfl, thn B0.out b1⟩
end Go.Proofs.YtjfoipjifjblmaaDoor
