/- What the small calls of the landed package check return: which codes name a cell, which shift by K, how far a jump leads; each of the six faults; the table of them. Condition: the table of codes lies in the package's variable. -/
import Derived.Test.YtohfampfnhfnlaaDoorOa
import Derived.Test.YtohfampfnhfnlaaDoorIs
import Derived.Deep.RegionHeld3
import Derived.Deep.MidRow
namespace Go.Proofs.YtohfampfnhfnlaaDoor
open Go.RowKit
set_option linter.unusedVariables false
attribute [local go_sem ↓] Go.wp_at_zero Go.wp_at_succ

/-- Does the code's K name a cell? -/
def cellC (c : Int) : Bool := c == 96 || c == 97 || c == 2 || c == 3
def shiftC (c : Int) : Bool := c == 100 || c == 116
/-- How many instructions a jump skips, at most. -/
def farN (i : Ins) : Int := if i.c = 5 then i.k else max i.jt i.jf
/-- The six faults. -/
def flt (n : Nat) (i : Ins) (left : Int) : Bool :=
  match n with
  | 0 => !knownB i.c
  | 1 => i.c == 32 && !wordB i.k
  | 2 => cellC i.c && decide (16 ≤ i.k)
  | 3 => i.c == 52 && i.k == 0
  | 4 => shiftC i.c && decide (31 < i.k)
  | _ => clsI i.c == 4 && decide (left ≤ farN i)
theorem namesCell_96 (w : World) : Calls Tryd.prog 41 #[.int .u16 96] w fun e w' => e = .returned (.bool true) ∧ w = w' := by
  go_enter Tryd.func41, Tryd.ntmps41
  go_wp2
  go_ret
  exact ⟨rfl, rfl⟩
theorem namesCell_97 (w : World) : Calls Tryd.prog 41 #[.int .u16 97] w fun e w' => e = .returned (.bool true) ∧ w = w' := by
  go_enter Tryd.func41, Tryd.ntmps41
  go_wp2
  go_ret
  exact ⟨rfl, rfl⟩
theorem namesCell_2 (w : World) : Calls Tryd.prog 41 #[.int .u16 2] w fun e w' => e = .returned (.bool true) ∧ w = w' := by
  go_enter Tryd.func41, Tryd.ntmps41
  go_wp2
  go_ret
  exact ⟨rfl, rfl⟩
theorem namesCell_3 (w : World) : Calls Tryd.prog 41 #[.int .u16 3] w fun e w' => e = .returned (.bool true) ∧ w = w' := by
  go_enter Tryd.func41, Tryd.ntmps41
  go_wp2
  go_ret
  exact ⟨rfl, rfl⟩
theorem namesCell_no (c : Int) (h96 : c ≠ 96) (h97 : c ≠ 97) (h2 : c ≠ 2) (h3 : c ≠ 3) (w : World) : Calls Tryd.prog 41 #[.int .u16 c] w fun e w' => e = .returned (.bool false) ∧ w = w' := by
  have e96 : (c == 96) = false := beq_eq_false_iff_ne.2 h96
  have e97 : (c == 97) = false := beq_eq_false_iff_ne.2 h97
  have e2 : (c == 2) = false := beq_eq_false_iff_ne.2 h2
  have e3 : (c == 3) = false := beq_eq_false_iff_ne.2 h3
  clear h96 h97 h2 h3
  go_enter Tryd.func41, Tryd.ntmps41
  go_wp2
  go_ret
  exact ⟨rfl, rfl⟩
theorem namesCell_any (c : Int) (w : World) : Calls Tryd.prog 41 #[.int .u16 c] w fun e w' => e = .returned (.bool (cellC c)) ∧ w = w' := by
  by_cases h96 : c = 96
  · subst h96; exact namesCell_96 w
  by_cases h97 : c = 97
  · subst h97; exact namesCell_97 w
  by_cases h2 : c = 2
  · subst h2; exact namesCell_2 w
  by_cases h3 : c = 3
  · subst h3; exact namesCell_3 w
  have hb : cellC c = false := by unfold cellC; rw [beq_eq_false_iff_ne.2 h96, beq_eq_false_iff_ne.2 h97, beq_eq_false_iff_ne.2 h2, beq_eq_false_iff_ne.2 h3]; rfl
  rw [hb]
  exact namesCell_no c h96 h97 h2 h3 w
theorem shiftsByK_100 (w : World) : Calls Tryd.prog 44 #[.int .u16 100] w fun e w' => e = .returned (.bool true) ∧ w = w' := by
  go_enter Tryd.func44, Tryd.ntmps44
  go_wp2
  go_ret
  exact ⟨rfl, rfl⟩
theorem shiftsByK_116 (w : World) : Calls Tryd.prog 44 #[.int .u16 116] w fun e w' => e = .returned (.bool true) ∧ w = w' := by
  go_enter Tryd.func44, Tryd.ntmps44
  go_wp2
  go_ret
  exact ⟨rfl, rfl⟩
theorem shiftsByK_no (c : Int) (h100 : c ≠ 100) (h116 : c ≠ 116) (w : World) : Calls Tryd.prog 44 #[.int .u16 c] w fun e w' => e = .returned (.bool false) ∧ w = w' := by
  have e100 : (c == 100) = false := beq_eq_false_iff_ne.2 h100
  have e116 : (c == 116) = false := beq_eq_false_iff_ne.2 h116
  clear h100 h116
  go_enter Tryd.func44, Tryd.ntmps44
  go_wp2
  go_ret
  exact ⟨rfl, rfl⟩
theorem shiftsByK_any (c : Int) (w : World) : Calls Tryd.prog 44 #[.int .u16 c] w fun e w' => e = .returned (.bool (shiftC c)) ∧ w = w' := by
  by_cases h100 : c = 100
  · subst h100; exact shiftsByK_100 w
  by_cases h116 : c = 116
  · subst h116; exact shiftsByK_116 w
  have hb : shiftC c = false := by unfold shiftC; rw [beq_eq_false_iff_ne.2 h100, beq_eq_false_iff_ne.2 h116]; rfl
  rw [hb]
  exact shiftsByK_no c h100 h116 w
theorem far_ja (jt jf k : Int) (k0 : 0 ≤ k) (k1 : k < 4294967296) (w : World) : Calls Tryd.prog 46 #[.agg #[.int .u16 5, .int .u8 jt, .int .u8 jf, .int .u32 k]] w fun e w' => e = .returned (.int .u64 k) ∧ Below w.heap.size w w' := by
  have hw : IntKind.u64.wrap k = k := by rw [IntKind.wrap_u64]; omega
  clear k0 k1
  go_enter Tryd.func46, Tryd.ntmps46
  go_wp2
  go_ret
  exact ⟨rfl, (Below.refl _ _).alloc (Nat.le_refl _) _⟩
theorem far_no (c jt jf k : Int) (hc : c ≠ 5) (t0 : 0 ≤ jt) (t1 : jt < 256) (f0 : 0 ≤ jf) (f1 : jf < 256) (w : World) : Calls Tryd.prog 46 #[.agg #[.int .u16 c, .int .u8 jt, .int .u8 jf, .int .u32 k]] w fun e w' => e = .returned (.int .u64 (max jt jf)) ∧ Below w.heap.size w w' := by
  have e5 : (c == 5) = false := beq_eq_false_iff_ne.2 hc
  have hw : IntKind.u64.wrap (max jt jf) = max jt jf := by rw [IntKind.wrap_u64]; omega
  clear hc t0 t1 f0 f1
  go_enter Tryd.func46, Tryd.ntmps46
  go_wp2
  go_ret
  exact ⟨rfl, (Below.refl _ _).alloc (Nat.le_refl _) _⟩
theorem far_any (i : Ins) (hi : i.Ok) (w : World) : Calls Tryd.prog 46 #[.agg #[.int .u16 i.c, .int .u8 i.jt, .int .u8 i.jf, .int .u32 i.k]] w fun e w' => e = .returned (.int .u64 (farN i)) ∧ Below w.heap.size w w' := by
  obtain ⟨c, jt, jf, k⟩ := i
  obtain ⟨c0, c1, t0, t1, f0, f1, k0, k1⟩ := hi
  unfold farN
  simp only
  by_cases h : c = 5
  · subst h; rw [if_pos rfl]; exact far_ja jt jf k k0 k1 w
  · rw [if_neg h]; exact far_no c jt jf k h t0 t1 f0 f1 w
theorem ckKeep4 {v w' : World} {p0 p1 p2 p3 : Addr} {u0 u1 u2 u3 : Value} (hb : Below v.heap.size v w') (h : v.cell? p0 = some u0 ∧ v.cell? p1 = some u1 ∧ v.cell? p2 = some u2 ∧ v.cell? p3 = some u3) : w'.cell? p0 = some u0 ∧ w'.cell? p1 = some u1 ∧ w'.cell? p2 = some u2 ∧ w'.cell? p3 = some u3 :=
  ⟨(hb.cell (World.block_lt_of_cell? v p0 h.1)).trans h.1, (hb.cell (World.block_lt_of_cell? v p1 h.2.1)).trans h.2.1, (hb.cell (World.block_lt_of_cell? v p2 h.2.2.1)).trans h.2.2.1, (hb.cell (World.block_lt_of_cell? v p3 h.2.2.2)).trans h.2.2.2⟩
theorem ckBox4 (w : World) (c0 c1 c2 c3 : Value) (t : TypeId) :
    (w.alloc (.cells #[c0, c1, c2, c3] t)).cell? ⟨w.heap.size, 0, none⟩ = some c0 ∧ (w.alloc (.cells #[c0, c1, c2, c3] t)).cell? ⟨w.heap.size, 1, none⟩ = some c1 ∧ (w.alloc (.cells #[c0, c1, c2, c3] t)).cell? ⟨w.heap.size, 2, none⟩ = some c2 ∧ (w.alloc (.cells #[c0, c1, c2, c3] t)).cell? ⟨w.heap.size, 3, none⟩ = some c3 := by
  refine ⟨?_, ?_, ?_, ?_⟩
  iterate 4
    · show (w.alloc (.cells #[c0, c1, c2, c3] t)).cell? _ = _
      rw [cell_of_row _ _ _ _ _ (0, 0) (heap_alloc_new w _)]; rfl
theorem flt1_c (c jt jf k left : Int) (hc0 : 0 ≤ c) (hc1 : c < 65536) (w : World) (hG : GW w) : Calls Tryd.prog 37 #[.agg #[.int .u16 c, .int .u8 jt, .int .u8 jf, .int .u32 k], .int .u64 left] w fun e w' => e = .returned (.bool (!knownB c)) ∧ Below w.heap.size w w' := by
  have HK := Lib.hid (fun W (hG : GW W) => knownC c W hG hc0 hc1)
  have HG := Lib.hid (hG.alloc (.cells #[.int .u16 c, .int .u8 jt, .int .u8 jf, .int .u32 k] 35))
  clear hG hc0 hc1
  go_enter Tryd.func37, Tryd.ntmps37
  go_wp2_with (go_at_call 38; ((with_reducible refine (HK.out _ HG.out).mono ?_); rintro e w1 ⟨rfl, b1⟩))
  go_ret
  exact ⟨rfl, ((Below.refl _ _).alloc (Nat.le_refl _) _).trans (b1.mono (by simp))⟩
theorem flt2_no (c jt jf k left : Int) (hc : c ≠ 32) (w : World) : Calls Tryd.prog 39 #[.agg #[.int .u16 c, .int .u8 jt, .int .u8 jf, .int .u32 k], .int .u64 left] w fun e w' => e = .returned (.bool (false)) ∧ Below w.heap.size w w' := by
  have e1 : (c == 32) = false := beq_eq_false_iff_ne.2 hc
  clear hc
  go_enter Tryd.func39, Tryd.ntmps39
  go_wp2_with fail
  go_ret
  exact ⟨rfl, (Below.refl _ _).alloc (Nat.le_refl _) _⟩
theorem flt2_odd (jt jf k left : Int) (k0 : 0 ≤ k) (k1 : k < 4294967296) (h : ¬ k % 4 = 0) (w : World) : Calls Tryd.prog 39 #[.agg #[.int .u16 32, .int .u8 jt, .int .u8 jf, .int .u32 k], .int .u64 left] w fun e w' => e = .returned (.bool (true)) ∧ Below w.heap.size w w' := by
  have e1 : (k % 4 != 0) = true := by simp [h]
  go_enter Tryd.func39, Tryd.ntmps39
  go_wp2_with fail
  go_ret
  exact ⟨rfl, (Below.refl _ _).alloc (Nat.le_refl _) _⟩
theorem flt2_far (jt jf k left : Int) (k0 : 0 ≤ k) (k1 : k < 4294967296) (h : k % 4 = 0) (h2 : 64 ≤ k) (w : World) : Calls Tryd.prog 39 #[.agg #[.int .u16 32, .int .u8 jt, .int .u8 jf, .int .u32 k], .int .u64 left] w fun e w' => e = .returned (.bool (true)) ∧ Below w.heap.size w w' := by
  have e1 : (k % 4 != 0) = false := by simp [h]
  go_enter Tryd.func39, Tryd.ntmps39
  go_wp2_with fail
  go_ret
  exact ⟨rfl, (Below.refl _ _).alloc (Nat.le_refl _) _⟩
theorem flt2_in (jt jf k left : Int) (k0 : 0 ≤ k) (k1 : k < 4294967296) (h : k % 4 = 0) (h2 : k < 64) (w : World) : Calls Tryd.prog 39 #[.agg #[.int .u16 32, .int .u8 jt, .int .u8 jf, .int .u32 k], .int .u64 left] w fun e w' => e = .returned (.bool (false)) ∧ Below w.heap.size w w' := by
  have e1 : (k % 4 != 0) = false := by simp [h]
  have e2 : ¬ 64 ≤ k := by omega
  go_enter Tryd.func39, Tryd.ntmps39
  go_wp2_with fail
  go_ret
  exact ⟨rfl, (Below.refl _ _).alloc (Nat.le_refl _) _⟩
theorem flt3_no (c jt jf k left : Int) (hb : cellC c = false) (w : World) : Calls Tryd.prog 40 #[.agg #[.int .u16 c, .int .u8 jt, .int .u8 jf, .int .u32 k], .int .u64 left] w fun e w' => e = .returned (.bool (false)) ∧ Below w.heap.size w w' := by
  have HN := Lib.hid (fun W => namesCell_any c W)
  rw [hb] at HN
  clear hb
  go_enter Tryd.func40, Tryd.ntmps40
  go_wp2_with (go_at_call 41; ((with_reducible refine (HN.out _).mono ?_); rintro e w1 ⟨rfl, rfl⟩))
  go_ret
  exact ⟨rfl, (Below.refl _ _).alloc (Nat.le_refl _) _⟩
theorem flt3_y (c jt jf k left : Int) (hb : cellC c = true) (w : World) : Calls Tryd.prog 40 #[.agg #[.int .u16 c, .int .u8 jt, .int .u8 jf, .int .u32 k], .int .u64 left] w fun e w' => e = .returned (.bool (decide (16 ≤ k))) ∧ Below w.heap.size w w' := by
  have HN := Lib.hid (fun W => namesCell_any c W)
  rw [hb] at HN
  clear hb
  go_enter Tryd.func40, Tryd.ntmps40
  go_wp2_with (go_at_call 41; ((with_reducible refine (HN.out _).mono ?_); rintro e w1 ⟨rfl, rfl⟩))
  go_ret
  exact ⟨rfl, (Below.refl _ _).alloc (Nat.le_refl _) _⟩
theorem flt5_no (c jt jf k left : Int) (hb : shiftC c = false) (w : World) : Calls Tryd.prog 43 #[.agg #[.int .u16 c, .int .u8 jt, .int .u8 jf, .int .u32 k], .int .u64 left] w fun e w' => e = .returned (.bool (false)) ∧ Below w.heap.size w w' := by
  have HN := Lib.hid (fun W => shiftsByK_any c W)
  rw [hb] at HN
  clear hb
  go_enter Tryd.func43, Tryd.ntmps43
  go_wp2_with (go_at_call 44; ((with_reducible refine (HN.out _).mono ?_); rintro e w1 ⟨rfl, rfl⟩))
  go_ret
  exact ⟨rfl, (Below.refl _ _).alloc (Nat.le_refl _) _⟩
theorem flt5_y (c jt jf k left : Int) (hb : shiftC c = true) (w : World) : Calls Tryd.prog 43 #[.agg #[.int .u16 c, .int .u8 jt, .int .u8 jf, .int .u32 k], .int .u64 left] w fun e w' => e = .returned (.bool (decide (31 < k))) ∧ Below w.heap.size w w' := by
  have HN := Lib.hid (fun W => shiftsByK_any c W)
  rw [hb] at HN
  clear hb
  go_enter Tryd.func43, Tryd.ntmps43
  go_wp2_with (go_at_call 44; ((with_reducible refine (HN.out _).mono ?_); rintro e w1 ⟨rfl, rfl⟩))
  go_ret
  exact ⟨rfl, (Below.refl _ _).alloc (Nat.le_refl _) _⟩
theorem flt4_no (c jt jf k left : Int) (hc : c ≠ 52) (w : World) : Calls Tryd.prog 42 #[.agg #[.int .u16 c, .int .u8 jt, .int .u8 jf, .int .u32 k], .int .u64 left] w fun e w' => e = .returned (.bool (false)) ∧ Below w.heap.size w w' := by
  have e1 : (c == 52) = false := beq_eq_false_iff_ne.2 hc
  clear hc
  go_enter Tryd.func42, Tryd.ntmps42
  go_wp2_with fail
  go_ret
  exact ⟨rfl, (Below.refl _ _).alloc (Nat.le_refl _) _⟩
theorem flt4_c (jt jf k left : Int)  (w : World) : Calls Tryd.prog 42 #[.agg #[.int .u16 52, .int .u8 jt, .int .u8 jf, .int .u32 k], .int .u64 left] w fun e w' => e = .returned (.bool (k == 0)) ∧ Below w.heap.size w w' := by
  go_enter Tryd.func42, Tryd.ntmps42
  go_wp2_with fail
  go_ret
  exact ⟨rfl, (Below.refl _ _).alloc (Nat.le_refl _) _⟩
theorem flt6_no (c jt jf k left : Int) (hc0 : 0 ≤ c) (hc1 : c < 65536) (h : clsI c ≠ 4) (w : World) (hG : GW w) : Calls Tryd.prog 45 #[.agg #[.int .u16 c, .int .u8 jt, .int .u8 jf, .int .u32 k], .int .u64 left] w fun e w' => e = .returned (.bool (false)) ∧ Below w.heap.size w w' := by
  have HO := Lib.hid (fun W (hG : GW W) => ofC c W hG hc0 hc1)
  rw [show (ofL allL c).cls = clsI c from rfl] at HO
  have HG := Lib.hid (hG.alloc (.cells #[.int .u16 c, .int .u8 jt, .int .u8 jf, .int .u32 k] 35))
  obtain ⟨y, hy⟩ : ∃ y, y = clsI c := ⟨_, rfl⟩
  rw [← hy] at HO h
  have e1 : (y == 4) = false := beq_eq_false_iff_ne.2 h
  clear hG hc0 hc1 hy h
  go_enter Tryd.func45, Tryd.ntmps45
  go_wp2_with (go_at_call 20; ((with_reducible refine (HO.out _ HG.out).mono ?_); rintro e w1 ⟨rfl, b1⟩))
  go_ret
  exact ⟨rfl, ((Below.refl _ _).alloc (Nat.le_refl _) _).trans (b1.mono (by simp))⟩
theorem flt6_y (c jt jf k left : Int) (hi : (⟨c, jt, jf, k⟩ : Ins).Ok) (h : clsI c = 4) (b : Bool) (hb : b = decide (left ≤ farN ⟨c, jt, jf, k⟩)) (w : World) (hG : GW w) : Calls Tryd.prog 45 #[.agg #[.int .u16 c, .int .u8 jt, .int .u8 jf, .int .u32 k], .int .u64 left] w fun e w' => e = .returned (.bool (b)) ∧ Below w.heap.size w w' := by
  have hc0 : 0 ≤ c := hi.c0
  have hc1 : c < 65536 := hi.c1
  have HO := Lib.hid (fun W (hG : GW W) => ofC c W hG hc0 hc1)
  rw [show (ofL allL c).cls = clsI c from rfl] at HO
  have HG := Lib.hid (hG.alloc (.cells #[.int .u16 c, .int .u8 jt, .int .u8 jf, .int .u32 k] 35))
  rw [h] at HO
  have HF := Lib.hid (fun W => far_any ⟨c, jt, jf, k⟩ hi W)
  have HB := Lib.hid (ckBox4 w (.int .u16 c) (.int .u8 jt) (.int .u8 jf) (.int .u32 k) 35)
  obtain ⟨y, hy⟩ : ∃ y, y = farN ⟨c, jt, jf, k⟩ := ⟨_, rfl⟩
  rw [← hy] at HF hb
  subst hb
  clear hG hc0 hc1 hy h hi
  go_enter Tryd.func45, Tryd.ntmps45
  go_wp2_with (first
    | (go_at_call 20; ((with_reducible refine (HO.out _ HG.out).mono ?_); rintro e w1 ⟨rfl, b1⟩); obtain ⟨s0, s1, s2, s3⟩ := ckKeep4 b1 HB.out)
    | (go_at_call 46; ((with_reducible refine (HF.out _).mono ?_); rintro e w2 ⟨rfl, b2⟩)))
  go_ret
  exact ⟨rfl, ((Below.refl _ _).alloc (Nat.le_refl _) _).trans ((b1.trans (b2.mono b1.size)).mono (by simp))⟩
theorem flt_any (n : Nat) (i : Ins) (hi : i.Ok) (left : Int) (w : World) (hG : GW w) (K : Nat) (hK : [37, 39, 40, 42, 43, 45][n]? = some K) :
    Calls Tryd.prog K #[.agg #[.int .u16 i.c, .int .u8 i.jt, .int .u8 i.jf, .int .u32 i.k], .int .u64 left] w fun e w' => e = .returned (.bool (flt n i left)) ∧ Below w.heap.size w w' := by
  have hio := hi
  obtain ⟨c, jt, jf, k⟩ := i
  obtain ⟨c0, c1, t0, t1, f0, f1, k0, k1⟩ := hi
  simp only at c0 c1 k0 k1
  match n, hK with
  | 0, hK => injection hK with hK; subst hK; exact flt1_c c jt jf k left c0 c1 w hG
  | 1, hK =>
    injection hK with hK; subst hK
    show Calls _ _ _ _ fun e w' => e = .returned (.bool (c == 32 && !wordB k)) ∧ _
    unfold wordB
    by_cases h : c = 32
    · subst h
      by_cases h4 : k % 4 = 0
      · by_cases h6 : k < 64
        · rw [decide_eq_true ⟨h4, h6⟩]; exact flt2_in jt jf k left k0 k1 h4 h6 w
        · rw [decide_eq_false (fun e => h6 e.2)]; exact flt2_far jt jf k left k0 k1 h4 (by omega) w
      · rw [decide_eq_false (fun e => h4 e.1)]; exact flt2_odd jt jf k left k0 k1 h4 w
    · rw [beq_eq_false_iff_ne.2 h]; exact flt2_no c jt jf k left h w
  | 2, hK =>
    injection hK with hK; subst hK
    show Calls _ _ _ _ fun e w' => e = .returned (.bool (cellC c && decide (16 ≤ k))) ∧ _
    cases hb : cellC c with
    | false => exact flt3_no c jt jf k left hb w
    | true =>
      exact flt3_y c jt jf k left hb w
  | 3, hK =>
    injection hK with hK; subst hK
    show Calls _ _ _ _ fun e w' => e = .returned (.bool (c == 52 && k == 0)) ∧ _
    by_cases h : c = 52
    · subst h; exact flt4_c jt jf k left w
    · rw [beq_eq_false_iff_ne.2 h]; exact flt4_no c jt jf k left h w
  | 4, hK =>
    injection hK with hK; subst hK
    show Calls _ _ _ _ fun e w' => e = .returned (.bool (shiftC c && decide (31 < k))) ∧ _
    cases hb : shiftC c with
    | false => exact flt5_no c jt jf k left hb w
    | true =>
      exact flt5_y c jt jf k left hb w
  | 5, hK =>
    injection hK with hK; subst hK
    show Calls _ _ _ _ fun e w' => e = .returned (.bool (clsI c == 4 && decide (left ≤ farN ⟨c, jt, jf, k⟩))) ∧ _
    by_cases h : clsI c = 4
    · rw [beq_iff_eq.2 h, Bool.true_and]; exact flt6_y c jt jf k left hio h _ rfl w hG
    · rw [beq_eq_false_iff_ne.2 h]; exact flt6_no c jt jf k left c0 c1 h w hG
  | n + 6, hK => exact absurd hK (by simp)
end Go.Proofs.YtohfampfnhfnlaaDoor
