/- What the small calls of the landed package cells return: whether a program is too long, the set of one cell, the cells that an instruction writes and reads; the iterators themselves. No condition. -/
import Derived.Test.YthhfpehngdohhaaDoorQa
import Derived.Test.YthhfpehngdohhaaDoorOg
import Derived.Test.YthhfpehngdohhaaDoorIs
import Derived.Laws.Shifts
namespace Go.Proofs.YthhfpehngdohhaaDoor
open Go.RowKit
set_option linter.unusedVariables false
attribute [local go_sem ↓] Go.wp_at_zero Go.wp_at_succ

/-- The set of one cell; of a number that is no cell's, none. -/
def bitN (k : Int) : Nat := if k < 16 then 2 ^ k.toNat else 0
def writesN (i : Ins) : Nat := if i.c = 2 ∨ i.c = 3 then bitN i.k else 0
def readsN (i : Ins) : Nat := if i.c = 96 ∨ i.c = 97 then bitN i.k else 0
theorem tooLong_call (a0 : Option Addr) (n cap : Nat) (w : World) : Calls Tryd.prog 22 #[.slice a0 n cap] w fun e w' => e = .returned (.bool (decide ((4096 : Int) < n))) ∧ w = w' := by
  go_enter Tryd.func22, Tryd.ntmps22
  go_wp2
  go_ret
  exact ⟨rfl, rfl⟩
theorem wrap_pow : ∀ {k : Nat}, k < 16 → IntKind.u16.wrap (((2 : Nat) ^ k : Nat) : Int) = (((2 : Nat) ^ k : Nat) : Int) := by
  intro k hk
  have : (2 : Nat) ^ k ≤ 2 ^ 15 := Nat.pow_le_pow_right (by decide) (by omega)
  generalize (2 : Nat) ^ k = y at this
  rw [IntKind.wrap_u16]; omega
theorem bit_in (k : Nat) (hk : k < 16) (w : World) : Calls Tryd.prog 37 #[.int .u32 k] w fun e w' => e = .returned (.int .u16 (bitN k : Nat)) ∧ w = w' := by
  have k1 : decide ((16 : Int) ≤ k) = false := decide_eq_false (by omega)
  have k2 : ¬ (16 : Int) ≤ k := by omega
  have k0 : (0 : Int) ≤ k := by omega
  have hb : bitN k = 2 ^ k := by unfold bitN; rw [if_pos (by omega), Int.toNat_natCast]
  rw [hb]
  obtain ⟨y, hy⟩ : ∃ y : Nat, y = 2 ^ k := ⟨_, rfl⟩
  have hw : IntKind.u16.wrap ((2 : Int) ^ k) = y := by rw [hy, ← wrap_pow hk]; simp
  rw [← hy]
  clear hb hy hk
  go_enter Tryd.func37, Tryd.ntmps37
  go_wp2
  go_ret
  exact ⟨by rw [← hw]; rfl, rfl⟩
theorem bit_out (k : Int) (hk : 16 ≤ k) (w : World) : Calls Tryd.prog 37 #[.int .u32 k] w fun e w' => e = .returned (.int .u16 (bitN k : Nat)) ∧ w = w' := by
  have hb : bitN k = 0 := by unfold bitN; rw [if_neg (by omega)]
  rw [hb]
  clear hb
  go_enter Tryd.func37, Tryd.ntmps37
  go_wp2
  go_ret
  exact ⟨rfl, rfl⟩
theorem bit_any (k : Int) (k0 : 0 ≤ k) (w : World) : Calls Tryd.prog 37 #[.int .u32 k] w fun e w' => e = .returned (.int .u16 (bitN k : Nat)) ∧ w = w' := by
  by_cases h : 16 ≤ k
  · exact bit_out k h w
  · obtain ⟨m, rfl⟩ := Int.eq_ofNat_of_zero_le k0
    exact bit_in m (by omega) w
theorem written_0 (jt jf k : Int) (k0 : 0 ≤ k) (w : World) : Calls Tryd.prog 28 #[.agg #[.int .u16 2, .int .u8 jt, .int .u8 jf, .int .u32 k]] w fun e w' => e = .returned (.int .u16 (bitN k : Nat)) ∧ w' = w.alloc (.cells #[.int .u16 2, .int .u8 jt, .int .u8 jf, .int .u32 k] 38) := by
  have HB := Lib.hid (fun W => bit_any k k0 W)
  obtain ⟨y, hy⟩ : ∃ y : Nat, y = bitN k := ⟨_, rfl⟩
  rw [← hy] at HB ⊢
  clear hy k0
  go_enter Tryd.func28, Tryd.ntmps28
  go_wp2_with (go_at_call 37; ((with_reducible refine (HB.out _).mono ?_); rintro e w1 ⟨rfl, rfl⟩))
  go_ret
  exact ⟨rfl, rfl⟩
theorem written_1 (jt jf k : Int) (k0 : 0 ≤ k) (w : World) : Calls Tryd.prog 28 #[.agg #[.int .u16 3, .int .u8 jt, .int .u8 jf, .int .u32 k]] w fun e w' => e = .returned (.int .u16 (bitN k : Nat)) ∧ w' = w.alloc (.cells #[.int .u16 3, .int .u8 jt, .int .u8 jf, .int .u32 k] 38) := by
  have HB := Lib.hid (fun W => bit_any k k0 W)
  obtain ⟨y, hy⟩ : ∃ y : Nat, y = bitN k := ⟨_, rfl⟩
  rw [← hy] at HB ⊢
  clear hy k0
  go_enter Tryd.func28, Tryd.ntmps28
  go_wp2_with (go_at_call 37; ((with_reducible refine (HB.out _).mono ?_); rintro e w1 ⟨rfl, rfl⟩))
  go_ret
  exact ⟨rfl, rfl⟩
theorem written_no (c jt jf k : Int) (h2 : c ≠ 2) (h3 : c ≠ 3) (w : World) : Calls Tryd.prog 28 #[.agg #[.int .u16 c, .int .u8 jt, .int .u8 jf, .int .u32 k]] w fun e w' => e = .returned (.int .u16 0) ∧ w' = w.alloc (.cells #[.int .u16 c, .int .u8 jt, .int .u8 jf, .int .u32 k] 38) := by
  have e2 : (c == 2) = false := beq_eq_false_iff_ne.2 h2
  have e3 : (c == 3) = false := beq_eq_false_iff_ne.2 h3
  clear h2 h3
  go_enter Tryd.func28, Tryd.ntmps28
  go_wp2
  go_ret
  exact ⟨rfl, rfl⟩
theorem written_any (i : Ins) (hi : i.Ok) (w : World) : Calls Tryd.prog 28 #[.agg #[.int .u16 i.c, .int .u8 i.jt, .int .u8 i.jf, .int .u32 i.k]] w fun e w' => e = .returned (.int .u16 (writesN i : Nat)) ∧ w' = w.alloc (.cells #[.int .u16 i.c, .int .u8 i.jt, .int .u8 i.jf, .int .u32 i.k] 38) := by
  obtain ⟨c, jt, jf, k⟩ := i
  obtain ⟨c0, c1, t0, t1, f0, f1, k0, k1⟩ := hi
  simp only at k0 ⊢
  by_cases h2 : c = 2
  · subst h2
    have := written_0 jt jf k k0 w
    rwa [show bitN k = writesN ⟨2, jt, jf, k⟩ from by unfold writesN; rw [if_pos (Or.inl rfl)]] at this
  · by_cases h3 : c = 3
    · subst h3
      have := written_1 jt jf k k0 w
      rwa [show bitN k = writesN ⟨3, jt, jf, k⟩ from by unfold writesN; rw [if_pos (Or.inr rfl)]] at this
    · have := written_no c jt jf k h2 h3 w
      rwa [show (0 : Int) = ((writesN ⟨c, jt, jf, k⟩ : Nat) : Int) from by unfold writesN; rw [if_neg (fun h => h.elim h2 h3)]; rfl] at this
theorem read_0 (jt jf k : Int) (k0 : 0 ≤ k) (w : World) : Calls Tryd.prog 29 #[.agg #[.int .u16 96, .int .u8 jt, .int .u8 jf, .int .u32 k]] w fun e w' => e = .returned (.int .u16 (bitN k : Nat)) ∧ w' = w.alloc (.cells #[.int .u16 96, .int .u8 jt, .int .u8 jf, .int .u32 k] 38) := by
  have HB := Lib.hid (fun W => bit_any k k0 W)
  obtain ⟨y, hy⟩ : ∃ y : Nat, y = bitN k := ⟨_, rfl⟩
  rw [← hy] at HB ⊢
  clear hy k0
  go_enter Tryd.func29, Tryd.ntmps29
  go_wp2_with (go_at_call 37; ((with_reducible refine (HB.out _).mono ?_); rintro e w1 ⟨rfl, rfl⟩))
  go_ret
  exact ⟨rfl, rfl⟩
theorem read_1 (jt jf k : Int) (k0 : 0 ≤ k) (w : World) : Calls Tryd.prog 29 #[.agg #[.int .u16 97, .int .u8 jt, .int .u8 jf, .int .u32 k]] w fun e w' => e = .returned (.int .u16 (bitN k : Nat)) ∧ w' = w.alloc (.cells #[.int .u16 97, .int .u8 jt, .int .u8 jf, .int .u32 k] 38) := by
  have HB := Lib.hid (fun W => bit_any k k0 W)
  obtain ⟨y, hy⟩ : ∃ y : Nat, y = bitN k := ⟨_, rfl⟩
  rw [← hy] at HB ⊢
  clear hy k0
  go_enter Tryd.func29, Tryd.ntmps29
  go_wp2_with (go_at_call 37; ((with_reducible refine (HB.out _).mono ?_); rintro e w1 ⟨rfl, rfl⟩))
  go_ret
  exact ⟨rfl, rfl⟩
theorem read_no (c jt jf k : Int) (h2 : c ≠ 96) (h3 : c ≠ 97) (w : World) : Calls Tryd.prog 29 #[.agg #[.int .u16 c, .int .u8 jt, .int .u8 jf, .int .u32 k]] w fun e w' => e = .returned (.int .u16 0) ∧ w' = w.alloc (.cells #[.int .u16 c, .int .u8 jt, .int .u8 jf, .int .u32 k] 38) := by
  have e2 : (c == 96) = false := beq_eq_false_iff_ne.2 h2
  have e3 : (c == 97) = false := beq_eq_false_iff_ne.2 h3
  clear h2 h3
  go_enter Tryd.func29, Tryd.ntmps29
  go_wp2
  go_ret
  exact ⟨rfl, rfl⟩
theorem read_any (i : Ins) (hi : i.Ok) (w : World) : Calls Tryd.prog 29 #[.agg #[.int .u16 i.c, .int .u8 i.jt, .int .u8 i.jf, .int .u32 i.k]] w fun e w' => e = .returned (.int .u16 (readsN i : Nat)) ∧ w' = w.alloc (.cells #[.int .u16 i.c, .int .u8 i.jt, .int .u8 i.jf, .int .u32 i.k] 38) := by
  obtain ⟨c, jt, jf, k⟩ := i
  obtain ⟨c0, c1, t0, t1, f0, f1, k0, k1⟩ := hi
  simp only at k0 ⊢
  by_cases h2 : c = 96
  · subst h2
    have := read_0 jt jf k k0 w
    rwa [show bitN k = readsN ⟨96, jt, jf, k⟩ from by unfold readsN; rw [if_pos (Or.inl rfl)]] at this
  · by_cases h3 : c = 97
    · subst h3
      have := read_1 jt jf k k0 w
      rwa [show bitN k = readsN ⟨97, jt, jf, k⟩ from by unfold readsN; rw [if_pos (Or.inr rfl)]] at this
    · have := read_no c jt jf k h2 h3 w
      rwa [show (0 : Int) = ((readsN ⟨c, jt, jf, k⟩ : Nat) : Int) from by unfold readsN; rw [if_neg (fun h => h.elim h2 h3)]; rfl] at this
theorem skips_call (i : Ins) (w : World) : Calls Tryd.prog 34 #[.agg #[.int .u16 i.c, .int .u8 i.jt, .int .u8 i.jf, .int .u32 i.k]] w fun e w' =>
    e = .returned (.func (.func 44) #[] #[.pointer (some ⟨w.heap.size, 0, none⟩)]) ∧ w' = w.alloc (.cells #[.int .u16 i.c, .int .u8 i.jt, .int .u8 i.jf, .int .u32 i.k] 38) := by
  go_enter Tryd.func34, Tryd.ntmps34
  go_wp2
  go_ret
  exact ⟨rfl, rfl⟩
theorem successors_call (p : Option Addr) (n c : Nat) (at_ : Int) (w : World) : Calls Tryd.prog 24 #[.slice p n c, .int .i64 at_] w fun e w' =>
    e = .returned (.func (.func 33) #[] #[.pointer (some ⟨w.heap.size + 1, 0, none⟩), .pointer (some ⟨w.heap.size, 0, none⟩)]) ∧ w' = (w.alloc (.cells #[.slice p n c] 22)).alloc (.cells #[.int .i64 at_] 3) := by
  go_enter Tryd.func24, Tryd.ntmps24
  go_wp2
  go_ret
  exact ⟨rfl, rfl⟩
end Go.Proofs.YthhfpehngdohhaaDoor
