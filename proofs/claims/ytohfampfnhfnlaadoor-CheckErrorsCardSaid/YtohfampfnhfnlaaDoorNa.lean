/- The landed machine in memory: A, X, the cells, the data, the two tables of what operations and comparisons do, the steps, whether it is over, the answer; what becomes of it by a store; what each of the tables' functions returns. Condition: numbers below 2 to the 32nd. What the small calls of the landed machine return: the second operand, a word, a cell, the end. Condition: numbers below 2 to the 32nd. What the landed machine's load, store, move, finish make of it. Condition: numbers below 2 to the 32nd. What the landed machine's store makes of it. Condition: numbers below 2 to the 32nd. What the landed machine's find returns: the function of a code. -/
import Derived.Test.YtohfampfnhfnlaaDoorVb
import Derived.Test.YtohfampfnhfnlaaDoorIs
import Derived.Test.YtohfampfnhfnlaaDoorDd
import Derived.Deep.RegionHeld3
import Derived.Deep.RegionWith
namespace Go.Proofs.YtohfampfnhfnlaaDoor
open Go.RowKit
set_option linter.unusedVariables false
attribute [local go_sem ↓] Go.wp_at_zero Go.wp_at_succ

def opsC : List Value := [.int .u16 4, .int .u16 12, .func (.func 58) #[] #[], .int .u16 20, .int .u16 28, .func (.func 59) #[] #[], .int .u16 36, .int .u16 44, .func (.func 60) #[] #[], .int .u16 52, .int .u16 60, .func (.func 61) #[] #[], .int .u16 68, .int .u16 76, .func (.func 62) #[] #[], .int .u16 84, .int .u16 92, .func (.func 63) #[] #[], .int .u16 100, .int .u16 108, .func (.func 64) #[] #[], .int .u16 116, .int .u16 124, .func (.func 65) #[] #[], .int .u16 164, .int .u16 172, .func (.func 66) #[] #[], .int .u16 132, .int .u16 132, .func (.func 67) #[] #[]]
def cmpC : List Value := [.int .u16 21, .int .u16 29, .func (.func 68) #[] #[], .int .u16 37, .int .u16 45, .func (.func 69) #[] #[], .int .u16 53, .int .u16 61, .func (.func 70) #[] #[], .int .u16 69, .int .u16 77, .func (.func 71) #[] #[]]
/-- The machine's seventy-two cells. -/
def mlC (a x : Int) (c : Nat → Int) (d : Dat) (st : Int) (ov : Bool) (an : Int) : List Value := .int .u32 a :: .int .u32 x :: ((List.range 16).map (fun j => Value.int .u32 (c j)) ++ ((datC d).toList ++ (opsC ++ (cmpC ++ [.int .i64 st, .bool ov, .int .u32 an]))))
/-- Block M holds the machine. -/
def ML (w : World) (M : Nat) (a x : Int) (c : Nat → Int) (d : Dat) (st : Int) (ov : Bool) (an : Int) : Prop := w.heap[M]? = some (.cells (mlC a x c d st ov an).toArray 78 (0, 0))
section
variable {w w' : World} {M : Nat} {a x : Int} {c : Nat → Int} {d : Dat} {st : Int} {ov : Bool} {an : Int}
theorem ML.lt (h : ML w M a x c d st ov an) : M < w.heap.size := lt_of_block h
theorem ML.cell (h : ML w M a x c d st ov an) (i : Nat) (v : Value) (hv : (mlC a x c d st ov an)[i]? = some v) : w.cell? ⟨M, i, none⟩ = some v := by
  rw [cell_of_row w M i _ _ (0, 0) h, List.getElem?_toArray]; exact hv
theorem ML.free (h : ML w M a x c d st ov an) (i : Nat) : w.frozen? ⟨M, i, none⟩ = false := frozen_of_row w M i _ _ h
theorem ML.on (h : ML w M a x c d st ov an) (hb : Below w.heap.size w w') : ML w' M a x c d st ov an := (hb.block M h.lt).trans h
theorem ML.al (h : ML w M a x c d st ov an) (o : Obj) : ML (w.alloc o) M a x c d st ov an := h.on ((Below.refl _ _).alloc (Nat.le_refl _) o)
theorem ML.dr (h : ML w M a x c d st ov an) : ML w.drew M a x c d st ov an := h
theorem ML.but {j : Nat} (h : ML w M a x c d st ov an) (hg : w.grownBy w' (some j)) (hj : M ≠ j) : ML w' M a x c d st ov an := (hg.block M h.lt (fun e => hj (by injection e))).trans h
theorem ML.set_ {a' x' : Int} {c' : Nat → Int} {st' : Int} {ov' : Bool} {an' : Int} (h : ML w M a x c d st ov an) (i : Nat) (v : Value) (he : (mlC a x c d st ov an).set i v = mlC a' x' c' d st' ov' an') : ML (w.setCell ⟨M, i, none⟩ v) M a' x' c' d st' ov' an' := by
  have := heap_setCell_same w M i _ _ v h
  unfold ML
  rw [this, ← he]; simp
end
theorem ml_get {a x : Int} {c : Nat → Int} {d : Dat} {st : Int} {ov : Bool} {an : Int} {k : Nat} (hk : k < 16) : (mlC a x c d st ov an)[2 + k]? = some (.int .u32 (c k)) := by
  match k, hk with
  | 0, _ => rfl
  | 1, _ => rfl
  | 2, _ => rfl
  | 3, _ => rfl
  | 4, _ => rfl
  | 5, _ => rfl
  | 6, _ => rfl
  | 7, _ => rfl
  | 8, _ => rfl
  | 9, _ => rfl
  | 10, _ => rfl
  | 11, _ => rfl
  | 12, _ => rfl
  | 13, _ => rfl
  | 14, _ => rfl
  | 15, _ => rfl
  | k + 16, hk => omega
theorem ml_put {a x : Int} {c : Nat → Int} {d : Dat} {st : Int} {ov : Bool} {an : Int} {k : Nat} (v : Int) (hk : k < 16) : (mlC a x c d st ov an).set (2 + k) (.int .u32 v) = mlC a x (fun j => if j = k then v else c j) d st ov an := by
  match k, hk with
  | 0, _ => rfl
  | 1, _ => rfl
  | 2, _ => rfl
  | 3, _ => rfl
  | 4, _ => rfl
  | 5, _ => rfl
  | 6, _ => rfl
  | 7, _ => rfl
  | 8, _ => rfl
  | 9, _ => rfl
  | 10, _ => rfl
  | 11, _ => rfl
  | 12, _ => rfl
  | 13, _ => rfl
  | 14, _ => rfl
  | 15, _ => rfl
  | k + 16, hk => omega
theorem ml_op {a x : Int} {c : Nat → Int} {d : Dat} {st : Int} {ov : Bool} {an : Int} {k r : Nat} (hk : k < 10) (hr : r < 3) : (mlC a x c d st ov an)[27 + (k * 3 + r)]? = opsC[k * 3 + r]? := by
  match k, hk, r, hr with
  | 0, _, 0, _ => rfl
  | 0, _, 1, _ => rfl
  | 0, _, 2, _ => rfl
  | 1, _, 0, _ => rfl
  | 1, _, 1, _ => rfl
  | 1, _, 2, _ => rfl
  | 2, _, 0, _ => rfl
  | 2, _, 1, _ => rfl
  | 2, _, 2, _ => rfl
  | 3, _, 0, _ => rfl
  | 3, _, 1, _ => rfl
  | 3, _, 2, _ => rfl
  | 4, _, 0, _ => rfl
  | 4, _, 1, _ => rfl
  | 4, _, 2, _ => rfl
  | 5, _, 0, _ => rfl
  | 5, _, 1, _ => rfl
  | 5, _, 2, _ => rfl
  | 6, _, 0, _ => rfl
  | 6, _, 1, _ => rfl
  | 6, _, 2, _ => rfl
  | 7, _, 0, _ => rfl
  | 7, _, 1, _ => rfl
  | 7, _, 2, _ => rfl
  | 8, _, 0, _ => rfl
  | 8, _, 1, _ => rfl
  | 8, _, 2, _ => rfl
  | 9, _, 0, _ => rfl
  | 9, _, 1, _ => rfl
  | 9, _, 2, _ => rfl
  | k, _, r + 3, hr => omega
  | k + 10, hk, _, _ => omega
theorem ml_cmp {a x : Int} {c : Nat → Int} {d : Dat} {st : Int} {ov : Bool} {an : Int} {k r : Nat} (hk : k < 4) (hr : r < 3) : (mlC a x c d st ov an)[57 + (k * 3 + r)]? = cmpC[k * 3 + r]? := by
  match k, hk, r, hr with
  | 0, _, 0, _ => rfl
  | 0, _, 1, _ => rfl
  | 0, _, 2, _ => rfl
  | 1, _, 0, _ => rfl
  | 1, _, 1, _ => rfl
  | 1, _, 2, _ => rfl
  | 2, _, 0, _ => rfl
  | 2, _, 1, _ => rfl
  | 2, _, 2, _ => rfl
  | 3, _, 0, _ => rfl
  | 3, _, 1, _ => rfl
  | 3, _, 2, _ => rfl
  | k, _, r + 3, hr => omega
  | k + 4, hk, _, _ => omega
theorem cl_add (a b : Int) (w : World) (a0 : 0 ≤ a) (a1 : a < 4294967296) (b0 : 0 ≤ b) (b1 : b < 4294967296) : Calls Tryd.prog 58 #[.int .u32 a, .int .u32 b] w fun e w' => e = .returned (.int .u32 ((a + b) % 4294967296)) ∧ w = w' := by
  go_enter Tryd.func58, Tryd.ntmps58
  go_wp2
  go_ret
  exact ⟨rfl, rfl⟩
theorem cl_sub (a b : Int) (w : World) (a0 : 0 ≤ a) (a1 : a < 4294967296) (b0 : 0 ≤ b) (b1 : b < 4294967296) : Calls Tryd.prog 59 #[.int .u32 a, .int .u32 b] w fun e w' => e = .returned (.int .u32 ((a - b) % 4294967296)) ∧ w = w' := by
  go_enter Tryd.func59, Tryd.ntmps59
  go_wp2
  go_ret
  exact ⟨rfl, rfl⟩
theorem cl_mul (a b : Int) (w : World) (a0 : 0 ≤ a) (a1 : a < 4294967296) (b0 : 0 ≤ b) (b1 : b < 4294967296) : Calls Tryd.prog 60 #[.int .u32 a, .int .u32 b] w fun e w' => e = .returned (.int .u32 ((a * b) % 4294967296)) ∧ w = w' := by
  go_enter Tryd.func60, Tryd.ntmps60
  go_wp2
  go_ret
  exact ⟨rfl, rfl⟩
theorem cl_div (a b : Int) (w : World) (a0 : 0 ≤ a) (a1 : a < 4294967296) (b0 : 0 ≤ b) (b1 : b < 4294967296) (hb : 0 < b) : Calls Tryd.prog 61 #[.int .u32 a, .int .u32 b] w fun e w' => e = .returned (.int .u32 (a / b)) ∧ w = w' := by
  go_enter Tryd.func61, Tryd.ntmps61
  go_wp2
  go_ret
  exact ⟨rfl, rfl⟩
theorem cl_or (a b : Int) (w : World) (a0 : 0 ≤ a) (a1 : a < 4294967296) (b0 : 0 ≤ b) (b1 : b < 4294967296) : Calls Tryd.prog 62 #[.int .u32 a, .int .u32 b] w fun e w' => e = .returned (.int .u32 (bitsV (· ||| ·) a b)) ∧ w = w' := by
  have t0 := u32_or a b a0 a1 b0 b1
  obtain ⟨v, hv⟩ : ∃ v : Int, v = bitsV (· ||| ·) a b := ⟨_, rfl⟩
  have t2 : bits BinOp.or IntKind.u32 a b = v := by rw [t0, hv]; rfl
  rw [← hv]
  clear t0 hv
  go_enter Tryd.func62, Tryd.ntmps62
  go_wp2
  go_ret
  exact ⟨rfl, rfl⟩
theorem cl_and (a b : Int) (w : World) (a0 : 0 ≤ a) (a1 : a < 4294967296) (b0 : 0 ≤ b) (b1 : b < 4294967296) : Calls Tryd.prog 63 #[.int .u32 a, .int .u32 b] w fun e w' => e = .returned (.int .u32 (bitsV (· &&& ·) a b)) ∧ w = w' := by
  have t0 := u32_and a b a0 a1 b0 b1
  obtain ⟨v, hv⟩ : ∃ v : Int, v = bitsV (· &&& ·) a b := ⟨_, rfl⟩
  have t2 : bits BinOp.and IntKind.u32 a b = v := by rw [t0, hv]; rfl
  rw [← hv]
  clear t0 hv
  go_enter Tryd.func63, Tryd.ntmps63
  go_wp2
  go_ret
  exact ⟨rfl, rfl⟩
theorem cl_lsh (a b : Int) (w : World) (a0 : 0 ≤ a) (a1 : a < 4294967296) (b0 : 0 ≤ b) (b1 : b < 4294967296) : Calls Tryd.prog 64 #[.int .u32 a, .int .u32 b] w fun e w' => e = .returned (.int .u32 ((a * 2 ^ (b % 32).toNat) % 4294967296)) ∧ w = w' := by
  have m0 : 0 ≤ b % 32 := by omega
  have m1 : b % 32 < 32 := by omega
  go_enter Tryd.func64, Tryd.ntmps64
  go_wp2
  go_ret
  exact ⟨rfl, rfl⟩
theorem cl_rsh (a b : Int) (w : World) (a0 : 0 ≤ a) (a1 : a < 4294967296) (b0 : 0 ≤ b) (b1 : b < 4294967296) : Calls Tryd.prog 65 #[.int .u32 a, .int .u32 b] w fun e w' => e = .returned (.int .u32 (a / 2 ^ (b % 32).toNat)) ∧ w = w' := by
  have m0 : 0 ≤ b % 32 := by omega
  have m1 : b % 32 < 32 := by omega
  go_enter Tryd.func65, Tryd.ntmps65
  go_wp2
  go_ret
  exact ⟨rfl, rfl⟩
theorem cl_xor (a b : Int) (w : World) (a0 : 0 ≤ a) (a1 : a < 4294967296) (b0 : 0 ≤ b) (b1 : b < 4294967296) : Calls Tryd.prog 66 #[.int .u32 a, .int .u32 b] w fun e w' => e = .returned (.int .u32 (bitsV (· ^^^ ·) a b)) ∧ w = w' := by
  have t0 := u32_xor a b a0 a1 b0 b1
  obtain ⟨v, hv⟩ : ∃ v : Int, v = bitsV (· ^^^ ·) a b := ⟨_, rfl⟩
  have t2 : bits BinOp.xor IntKind.u32 a b = v := by rw [t0, hv]; rfl
  rw [← hv]
  clear t0 hv
  go_enter Tryd.func66, Tryd.ntmps66
  go_wp2
  go_ret
  exact ⟨rfl, rfl⟩
theorem cl_neg (a b : Int) (w : World) (a0 : 0 ≤ a) (a1 : a < 4294967296) (b0 : 0 ≤ b) (b1 : b < 4294967296) : Calls Tryd.prog 67 #[.int .u32 a, .int .u32 b] w fun e w' => e = .returned (.int .u32 ((0 - a) % 4294967296)) ∧ w = w' := by
  rw [Int.zero_sub]
  go_enter Tryd.func67, Tryd.ntmps67
  go_wp2
  go_ret
  exact ⟨rfl, rfl⟩
theorem cl_jeq (a b : Int) (w : World) (a0 : 0 ≤ a) (a1 : a < 4294967296) (b0 : 0 ≤ b) (b1 : b < 4294967296) : Calls Tryd.prog 68 #[.int .u32 a, .int .u32 b] w fun e w' => e = .returned (.bool (cmpV 1 a b)) ∧ w = w' := by
  go_enter Tryd.func68, Tryd.ntmps68
  go_wp2
  go_ret
  refine ⟨congrArg (fun b => Ending.returned (.bool b)) ?_, rfl⟩
  unfold cmpV; by_cases h : a = b <;> simp [h]
theorem cl_jgt (a b : Int) (w : World) (a0 : 0 ≤ a) (a1 : a < 4294967296) (b0 : 0 ≤ b) (b1 : b < 4294967296) : Calls Tryd.prog 69 #[.int .u32 a, .int .u32 b] w fun e w' => e = .returned (.bool (cmpV 2 a b)) ∧ w = w' := by
  go_enter Tryd.func69, Tryd.ntmps69
  go_wp2
  go_ret
  refine ⟨congrArg (fun b => Ending.returned (.bool b)) ?_, rfl⟩
  rfl
theorem cl_jge (a b : Int) (w : World) (a0 : 0 ≤ a) (a1 : a < 4294967296) (b0 : 0 ≤ b) (b1 : b < 4294967296) : Calls Tryd.prog 70 #[.int .u32 a, .int .u32 b] w fun e w' => e = .returned (.bool (cmpV 3 a b)) ∧ w = w' := by
  go_enter Tryd.func70, Tryd.ntmps70
  go_wp2
  go_ret
  refine ⟨congrArg (fun b => Ending.returned (.bool b)) ?_, rfl⟩
  rfl
theorem cl_jset (a b : Int) (w : World) (a0 : 0 ≤ a) (a1 : a < 4294967296) (b0 : 0 ≤ b) (b1 : b < 4294967296) : Calls Tryd.prog 71 #[.int .u32 a, .int .u32 b] w fun e w' => e = .returned (.bool (cmpV 4 a b)) ∧ w = w' := by
  have t0 := u32_and a b a0 a1 b0 b1
  obtain ⟨v, hv⟩ : ∃ v : Int, v = bitsV (· &&& ·) a b := ⟨_, rfl⟩
  have t2 : bits BinOp.and IntKind.u32 a b = v := by rw [t0, hv]; rfl
  have v0 : 0 ≤ v := by rw [hv]; exact Int.natCast_nonneg _
  have hr : cmpV 4 a b = decide (0 < v) := by rw [hv]; rfl
  rw [hr]
  clear t0 hv hr
  go_enter Tryd.func71, Tryd.ntmps71
  go_wp2
  go_ret
  refine ⟨congrArg (fun b => Ending.returned (.bool b)) ?_, rfl⟩
  rcases (by omega : v = 0 ∨ 0 < v) with h | h
  · rw [h]; rfl
  · rw [decide_eq_true h]; simp; omega
end Go.Proofs.YtohfampfnhfnlaaDoor
namespace Go.Proofs.YtohfampfnhfnlaaDoor
open Go.RowKit
set_option linter.unusedVariables false
attribute [local go_sem ↓] Go.wp_at_zero Go.wp_at_succ

/-- A panic with an error of the chapter. -/
abbrev Pan (e : Int) : Ending := .panicked [{ v := .iface 24 (.int .i64 e), recovered := false }]
theorem second_any (jt jf k a x : Int) (c : Nat → Int) (d : Dat) (st : Int) (ov : Bool) (an : Int) (M : Nat) (w : World) (cd : Int) (c0 : 0 ≤ cd) (c1 : cd < 65536) (hG : GW w) (hm : ML w M a x c d st ov an) :
    Calls Tryd.prog 82 #[.pointer (some ⟨M, 0, none⟩), .agg #[.int .u16 cd, .int .u8 jt, .int .u8 jf, .int .u32 k]] w fun e w' => e = .returned (.int .u32 (if withXB cd then x else k)) ∧ Below w.heap.size w w' := by
  have HX := Lib.hid (fun W (hG : GW W) => withXC cd W hG c0 c1)
  have HG := Lib.hid (hG.alloc (.cells #[.int .u16 cd, .int .u8 jt, .int .u8 jf, .int .u32 k] 35))
  have HM := Lib.hid hm
  clear hm hG c0 c1
  cases hx : withXB cd with
  | true =>
    rw [hx] at HX
    simp only [if_true]
    clear hx
    go_enter Tryd.func82, Tryd.ntmps82
    go_wp2_with (go_at_call 88; ((with_reducible refine (HX.out _ HG.out).mono ?_); rintro e w1 ⟨rfl, b1⟩); have HM1 := Lib.hid ((HM.out.al _).on b1); have p1 := HM1.out.cell 1 _ rfl)
    go_ret
    exact ⟨rfl, ((Below.refl _ _).alloc (Nat.le_refl _) _).trans (b1.mono (by simp))⟩
  | false =>
    rw [hx] at HX
    simp only [Bool.false_eq_true, if_false]
    clear hx
    go_enter Tryd.func82, Tryd.ntmps82
    go_wp2_with (go_at_call 88; ((with_reducible refine (HX.out _ HG.out).mono ?_); rintro e w1 ⟨rfl, b1⟩); have s3 := box_cells b1 3 (.int .u32 k) rfl)
    go_ret
    exact ⟨rfl, ((Below.refl _ _).alloc (Nat.le_refl _) _).trans (b1.mono (by simp))⟩
theorem end_any (v a x : Int) (c : Nat → Int) (d : Dat) (st : Int) (ov : Bool) (an : Int) (M : Nat) (w : World) (hm : ML w M a x c d st ov an) :
    Calls Tryd.prog 83 #[.pointer (some ⟨M, 0, none⟩), .int .u32 v] w fun e w' => e = .returned (.tuple #[]) ∧ ML w' M a x c d st true v ∧ w.grownBy w' (some M) := by
  have HM := Lib.hid hm
  have hl := hm.lt
  have hf := hm.free
  have m7 := hm.cell 70 _ rfl
  have m8 := hm.cell 71 _ rfl
  clear hm
  go_enter Tryd.func83, Tryd.ntmps83
  go_wp2
  go_end0
  exact ⟨rfl, (HM.out.set_ 70 _ rfl).set_ 71 _ rfl, (of_set w M 70 _).trans (of_set _ M 71 _)⟩
theorem cell_ok (k : Nat) (hk : k < 16) (M : Nat) (w : World) :
    Calls Tryd.prog 81 #[.pointer (some ⟨M, 0, none⟩), .int .u32 k] w fun e w' => e = .returned (.pointer (some ⟨M, 2 + k, none⟩)) ∧ w = w' := by
  have k1 : (k : Int) < 16 := by omega
  have k2 : ¬ (15 : Int) < k := by omega
  have k0 : (0 : Int) ≤ k := by omega
  go_enter Tryd.func81, Tryd.ntmps81
  go_wp2
  go_ret
  exact ⟨rfl, rfl⟩
theorem cell_bad (k : Int) (hk : 15 < k) (M : Nat) (w : World) :
    Calls Tryd.prog 81 #[.pointer (some ⟨M, 0, none⟩), .int .u32 k] w fun e w' => e = Pan 43 ∧ w = w' := by
  go_enter Tryd.func81, Tryd.ntmps81
  go_wp2
  exact ⟨rfl, rfl, rfl⟩
theorem mword_ok (k a x : Int) (c : Nat → Int) (d : Dat) (st : Int) (ov : Bool) (an : Int) (M : Nat) (w : World) (hd : d.Ok) (k0 : 0 ≤ k) (k1 : k < 4294967296) (hw : wordB k = true) (hm : ML w M a x c d st ov an) :
    Calls Tryd.prog 80 #[.pointer (some ⟨M, 0, none⟩), .int .u32 k] w fun e w' => e = .returned (.int .u32 (wordV d k)) ∧ Below w.heap.size w w' := by
  have HW := Lib.hid (fun W => wordC d k W hd k0 k1)
  rw [show wordE k = 0 by unfold wordE; rw [hw]; rfl] at HW
  obtain ⟨y, hy⟩ : ∃ y, y = wordV d k := ⟨_, rfl⟩
  rw [← hy] at HW ⊢
  have m18 := hm.cell 18 _ rfl
  have m19 := hm.cell 19 _ rfl
  have m20 := hm.cell 20 _ rfl
  have m21 := hm.cell 21 _ rfl
  have m22 := hm.cell 22 _ rfl
  have m23 := hm.cell 23 _ rfl
  have m24 := hm.cell 24 _ rfl
  have m25 := hm.cell 25 _ rfl
  have m26 := hm.cell 26 _ rfl
  clear hd hw hy hm k0 k1
  unfold datV datC at HW
  go_enter Tryd.func80, Tryd.ntmps80
  go_wp2_with (go_at_call 87; ((with_reducible refine (HW.out _).mono ?_); rintro e w1 ⟨rfl, b1⟩))
  go_ret
  exact ⟨rfl, b1⟩
theorem mword_bad (k a x : Int) (c : Nat → Int) (d : Dat) (st : Int) (ov : Bool) (an : Int) (M : Nat) (w : World) (hd : d.Ok) (k0 : 0 ≤ k) (k1 : k < 4294967296) (hw : wordB k = false) (hm : ML w M a x c d st ov an) :
    Calls Tryd.prog 80 #[.pointer (some ⟨M, 0, none⟩), .int .u32 k] w fun e w' => e = Pan 41 ∧ Below w.heap.size w w' := by
  have HW := Lib.hid (fun W => wordC d k W hd k0 k1)
  rw [show wordE k = 41 by unfold wordE; rw [hw]; rfl] at HW
  obtain ⟨y, hy⟩ : ∃ y, y = wordV d k := ⟨_, rfl⟩
  rw [← hy] at HW
  have m18 := hm.cell 18 _ rfl
  have m19 := hm.cell 19 _ rfl
  have m20 := hm.cell 20 _ rfl
  have m21 := hm.cell 21 _ rfl
  have m22 := hm.cell 22 _ rfl
  have m23 := hm.cell 23 _ rfl
  have m24 := hm.cell 24 _ rfl
  have m25 := hm.cell 25 _ rfl
  have m26 := hm.cell 26 _ rfl
  clear hd hw hy hm k0 k1
  unfold datV datC at HW
  go_enter Tryd.func80, Tryd.ntmps80
  go_wp2_with (go_at_call 87; ((with_reducible refine (HW.out _).mono ?_); rintro e w1 ⟨rfl, b1⟩))
  exact ⟨rfl, rfl, b1⟩
end Go.Proofs.YtohfampfnhfnlaaDoor
namespace Go.Proofs.YtohfampfnhfnlaaDoor
open Go.RowKit
set_option linter.unusedVariables false
attribute [local go_sem ↓] Go.wp_at_zero Go.wp_at_succ

def LdTo (M : Nat) (a x : Int) (c : Nat → Int) (d : Dat) (st : Int) (ov : Bool) (an : Int) (w : World) (e : Ending) (w' : World) : Prop := e = .returned (.tuple #[]) ∧ ML w' M a x c d st ov an ∧ w.grownBy w' (some M)
def LdBad (r : Int) (M : Nat) (a x : Int) (c : Nat → Int) (d : Dat) (st : Int) (ov : Bool) (an : Int) (w : World) (e : Ending) (w' : World) : Prop := e = Pan r ∧ ML w' M a x c d st ov an ∧ w.grownBy w' (some M)
set_option maxRecDepth 100000 in
set_option maxHeartbeats 4000000 in
theorem lld_len (d : Dat) (jt jf k a x : Int) (c : Nat → Int) (st : Int) (ov : Bool) (an : Int) (M : Nat) (w : World) (hm : ML w M a x c d st ov an)  :
    Calls Tryd.prog 72 #[.pointer (some ⟨M, 0, none⟩), .agg #[.int .u16 128, .int .u8 jt, .int .u8 jf, .int .u32 k]] w (LdTo M 64 x c d st ov an w) := by
  have HM := Lib.hid hm
  have hl := hm.lt
  have m0 := hm.cell 0 _ rfl
  have m1 := hm.cell 1 _ rfl
  have hf := hm.free
  clear hm
  go_enter Tryd.func72, Tryd.ntmps72
  go_wp2
  go_end0
  exact ⟨rfl, (HM.out.set_ 0 _ rfl).al _, (of_set w M 0 _).trans (of_alloc _ _ _)⟩
set_option maxRecDepth 100000 in
set_option maxHeartbeats 4000000 in
theorem lldx_len (d : Dat) (jt jf k a x : Int) (c : Nat → Int) (st : Int) (ov : Bool) (an : Int) (M : Nat) (w : World) (hm : ML w M a x c d st ov an)  :
    Calls Tryd.prog 72 #[.pointer (some ⟨M, 0, none⟩), .agg #[.int .u16 129, .int .u8 jt, .int .u8 jf, .int .u32 k]] w (LdTo M a 64 c d st ov an w) := by
  have HM := Lib.hid hm
  have hl := hm.lt
  have m0 := hm.cell 0 _ rfl
  have m1 := hm.cell 1 _ rfl
  have hf := hm.free
  clear hm
  go_enter Tryd.func72, Tryd.ntmps72
  go_wp2
  go_end0
  exact ⟨rfl, (HM.out.set_ 1 _ rfl).al _, (of_set w M 1 _).trans (of_alloc _ _ _)⟩
set_option maxRecDepth 100000 in
set_option maxHeartbeats 4000000 in
theorem lld_i (d : Dat) (jt jf k a x : Int) (c : Nat → Int) (st : Int) (ov : Bool) (an : Int) (M : Nat) (w : World) (hm : ML w M a x c d st ov an)  :
    Calls Tryd.prog 72 #[.pointer (some ⟨M, 0, none⟩), .agg #[.int .u16 0, .int .u8 jt, .int .u8 jf, .int .u32 k]] w (LdTo M k x c d st ov an w) := by
  have HM := Lib.hid hm
  have hl := hm.lt
  have m0 := hm.cell 0 _ rfl
  have m1 := hm.cell 1 _ rfl
  have hf := hm.free
  clear hm
  go_enter Tryd.func72, Tryd.ntmps72
  go_wp2
  go_end0
  exact ⟨rfl, (HM.out.set_ 0 _ rfl).al _, (of_set w M 0 _).trans (of_alloc _ _ _)⟩
set_option maxRecDepth 100000 in
set_option maxHeartbeats 4000000 in
theorem lldx_i (d : Dat) (jt jf k a x : Int) (c : Nat → Int) (st : Int) (ov : Bool) (an : Int) (M : Nat) (w : World) (hm : ML w M a x c d st ov an)  :
    Calls Tryd.prog 72 #[.pointer (some ⟨M, 0, none⟩), .agg #[.int .u16 1, .int .u8 jt, .int .u8 jf, .int .u32 k]] w (LdTo M a k c d st ov an w) := by
  have HM := Lib.hid hm
  have hl := hm.lt
  have m0 := hm.cell 0 _ rfl
  have m1 := hm.cell 1 _ rfl
  have hf := hm.free
  clear hm
  go_enter Tryd.func72, Tryd.ntmps72
  go_wp2
  go_end0
  exact ⟨rfl, (HM.out.set_ 1 _ rfl).al _, (of_set w M 1 _).trans (of_alloc _ _ _)⟩
set_option maxRecDepth 100000 in
set_option maxHeartbeats 4000000 in
theorem ltax (d : Dat) (jt jf k a x : Int) (c : Nat → Int) (st : Int) (ov : Bool) (an : Int) (M : Nat) (w : World) (hm : ML w M a x c d st ov an)  :
    Calls Tryd.prog 77 #[.pointer (some ⟨M, 0, none⟩), .agg #[.int .u16 7, .int .u8 jt, .int .u8 jf, .int .u32 k]] w (LdTo M a a c d st ov an w) := by
  have HM := Lib.hid hm
  have hl := hm.lt
  have m0 := hm.cell 0 _ rfl
  have m1 := hm.cell 1 _ rfl
  have hf := hm.free
  clear hm
  go_enter Tryd.func77, Tryd.ntmps77
  go_wp2
  go_end0
  exact ⟨rfl, (HM.out.set_ 1 _ rfl).al _, (of_set w M 1 _).trans (of_alloc _ _ _)⟩
set_option maxRecDepth 100000 in
set_option maxHeartbeats 4000000 in
theorem ltxa (d : Dat) (jt jf k a x : Int) (c : Nat → Int) (st : Int) (ov : Bool) (an : Int) (M : Nat) (w : World) (hm : ML w M a x c d st ov an)  :
    Calls Tryd.prog 77 #[.pointer (some ⟨M, 0, none⟩), .agg #[.int .u16 135, .int .u8 jt, .int .u8 jf, .int .u32 k]] w (LdTo M x x c d st ov an w) := by
  have HM := Lib.hid hm
  have hl := hm.lt
  have m0 := hm.cell 0 _ rfl
  have m1 := hm.cell 1 _ rfl
  have hf := hm.free
  clear hm
  go_enter Tryd.func77, Tryd.ntmps77
  go_wp2
  go_end0
  exact ⟨rfl, (HM.out.set_ 0 _ rfl).al _, (of_set w M 0 _).trans (of_alloc _ _ _)⟩
set_option maxRecDepth 100000 in
set_option maxHeartbeats 4000000 in
theorem lldm_bad (d : Dat) (jt jf k a x : Int) (c : Nat → Int) (st : Int) (ov : Bool) (an : Int) (M : Nat) (w : World) (hm : ML w M a x c d st ov an) (hk : 15 < k) :
    Calls Tryd.prog 72 #[.pointer (some ⟨M, 0, none⟩), .agg #[.int .u16 96, .int .u8 jt, .int .u8 jf, .int .u32 k]] w (LdBad 43 M a x c d st ov an w) := by
  have HC := Lib.hid (fun W => cell_bad k hk M W)
  have HM := Lib.hid hm
  have hl := hm.lt
  have m0 := hm.cell 0 _ rfl
  have m1 := hm.cell 1 _ rfl
  have hf := hm.free
  clear hm
  go_enter Tryd.func72, Tryd.ntmps72
  go_wp2_with (go_at_call 81; ((with_reducible refine (HC.out _).mono ?_); rintro e w1 ⟨rfl, rfl⟩))
  exact ⟨rfl, rfl, HM.out.al _, of_alloc _ _ _⟩
set_option maxRecDepth 100000 in
set_option maxHeartbeats 4000000 in
theorem lldxm_bad (d : Dat) (jt jf k a x : Int) (c : Nat → Int) (st : Int) (ov : Bool) (an : Int) (M : Nat) (w : World) (hm : ML w M a x c d st ov an) (hk : 15 < k) :
    Calls Tryd.prog 72 #[.pointer (some ⟨M, 0, none⟩), .agg #[.int .u16 97, .int .u8 jt, .int .u8 jf, .int .u32 k]] w (LdBad 43 M a x c d st ov an w) := by
  have HC := Lib.hid (fun W => cell_bad k hk M W)
  have HM := Lib.hid hm
  have hl := hm.lt
  have m0 := hm.cell 0 _ rfl
  have m1 := hm.cell 1 _ rfl
  have hf := hm.free
  clear hm
  go_enter Tryd.func72, Tryd.ntmps72
  go_wp2_with (go_at_call 81; ((with_reducible refine (HC.out _).mono ?_); rintro e w1 ⟨rfl, rfl⟩))
  exact ⟨rfl, rfl, HM.out.al _, of_alloc _ _ _⟩
set_option maxRecDepth 100000 in
set_option maxHeartbeats 4000000 in
theorem lldm_ok (d : Dat) (jt jf k a x : Int) (c : Nat → Int) (st : Int) (ov : Bool) (an : Int) (M : Nat) (w : World) (hm : ML w M a x c d st ov an) (n : Nat) (hn : n < 16) (hk : k = n) :
    Calls Tryd.prog 72 #[.pointer (some ⟨M, 0, none⟩), .agg #[.int .u16 96, .int .u8 jt, .int .u8 jf, .int .u32 k]] w (LdTo M (c n) x c d st ov an w) := by
  subst hk
  have mk := hm.cell (2 + n) _ (ml_get hn)
  have HC := Lib.hid (fun W => cell_ok n hn M W)
  have HM := Lib.hid hm
  have hl := hm.lt
  have m0 := hm.cell 0 _ rfl
  have m1 := hm.cell 1 _ rfl
  have hf := hm.free
  clear hm
  go_enter Tryd.func72, Tryd.ntmps72
  go_wp2_with (go_at_call 81; ((with_reducible refine (HC.out _).mono ?_); rintro e w1 ⟨rfl, rfl⟩))
  go_end0
  exact ⟨rfl, (HM.out.set_ 0 _ rfl).al _, (of_set w M 0 _).trans (of_alloc _ _ _)⟩
set_option maxRecDepth 100000 in
set_option maxHeartbeats 4000000 in
theorem lldxm_ok (d : Dat) (jt jf k a x : Int) (c : Nat → Int) (st : Int) (ov : Bool) (an : Int) (M : Nat) (w : World) (hm : ML w M a x c d st ov an) (n : Nat) (hn : n < 16) (hk : k = n) :
    Calls Tryd.prog 72 #[.pointer (some ⟨M, 0, none⟩), .agg #[.int .u16 97, .int .u8 jt, .int .u8 jf, .int .u32 k]] w (LdTo M a (c n) c d st ov an w) := by
  subst hk
  have mk := hm.cell (2 + n) _ (ml_get hn)
  have HC := Lib.hid (fun W => cell_ok n hn M W)
  have HM := Lib.hid hm
  have hl := hm.lt
  have m0 := hm.cell 0 _ rfl
  have m1 := hm.cell 1 _ rfl
  have hf := hm.free
  clear hm
  go_enter Tryd.func72, Tryd.ntmps72
  go_wp2_with (go_at_call 81; ((with_reducible refine (HC.out _).mono ?_); rintro e w1 ⟨rfl, rfl⟩))
  go_end0
  exact ⟨rfl, (HM.out.set_ 1 _ rfl).al _, (of_set w M 1 _).trans (of_alloc _ _ _)⟩
set_option maxRecDepth 100000 in
set_option maxHeartbeats 4000000 in
theorem lld_abs (d : Dat) (jt jf k a x : Int) (c : Nat → Int) (st : Int) (ov : Bool) (an : Int) (M : Nat) (w : World) (hm : ML w M a x c d st ov an) (hd : d.Ok) (k0 : 0 ≤ k) (k1 : k < 4294967296) (hw : wordB k = true) :
    Calls Tryd.prog 72 #[.pointer (some ⟨M, 0, none⟩), .agg #[.int .u16 32, .int .u8 jt, .int .u8 jf, .int .u32 k]] w (LdTo M (wordV d k) x c d st ov an w) := by
  have HW := Lib.hid (fun W hm => mword_ok k a x c d st ov an M W hd k0 k1 hw hm)
  obtain ⟨y, hy⟩ : ∃ y, y = wordV d k := ⟨_, rfl⟩
  rw [← hy] at HW ⊢
  clear hy
  clear hd k0 k1 hw
  have HM := Lib.hid hm
  have hl := hm.lt
  have m0 := hm.cell 0 _ rfl
  have m1 := hm.cell 1 _ rfl
  have hf := hm.free
  clear hm
  go_enter Tryd.func72, Tryd.ntmps72
  go_wp2_with (go_at_call 80; ((with_reducible refine (HW.out _ (HM.out.al _)).mono ?_); rintro e w1 ⟨rfl, b1⟩); have HM1 := Lib.hid ((HM.out.al _).on b1); have hl1 := HM1.out.lt; have p0 := HM1.out.cell 0 _ rfl; have pf := HM1.out.free)
  go_end0
  exact ⟨rfl, HM1.out.set_ 0 _ rfl, ((of_alloc w _ _).trans (of_below b1)).trans (of_set _ M 0 _)⟩
set_option maxRecDepth 100000 in
set_option maxHeartbeats 4000000 in
theorem lld_abs_bad (d : Dat) (jt jf k a x : Int) (c : Nat → Int) (st : Int) (ov : Bool) (an : Int) (M : Nat) (w : World) (hm : ML w M a x c d st ov an) (hd : d.Ok) (k0 : 0 ≤ k) (k1 : k < 4294967296) (hw : wordB k = false) :
    Calls Tryd.prog 72 #[.pointer (some ⟨M, 0, none⟩), .agg #[.int .u16 32, .int .u8 jt, .int .u8 jf, .int .u32 k]] w (LdBad 41 M a x c d st ov an w) := by
  have HW := Lib.hid (fun W hm => mword_bad k a x c d st ov an M W hd k0 k1 hw hm)
  clear hd k0 k1 hw
  have HM := Lib.hid hm
  have hl := hm.lt
  have m0 := hm.cell 0 _ rfl
  have m1 := hm.cell 1 _ rfl
  have hf := hm.free
  clear hm
  go_enter Tryd.func72, Tryd.ntmps72
  go_wp2_with (go_at_call 80; ((with_reducible refine (HW.out _ (HM.out.al _)).mono ?_); rintro e w1 ⟨rfl, b1⟩); have HM1 := Lib.hid ((HM.out.al _).on b1))
  exact ⟨rfl, rfl, HM1.out, (of_alloc w _ _).trans (of_below b1)⟩
set_option maxRecDepth 100000 in
set_option maxHeartbeats 4000000 in
theorem lret (d : Dat) (jt jf k a x : Int) (c : Nat → Int) (st : Int) (ov : Bool) (an : Int) (M : Nat) (w : World) (hm : ML w M a x c d st ov an)  :
    Calls Tryd.prog 76 #[.pointer (some ⟨M, 0, none⟩), .agg #[.int .u16 6, .int .u8 jt, .int .u8 jf, .int .u32 k]] w (LdTo M a x c d st true k w) := by
  have HE := Lib.hid (fun W hm => end_any k a x c d st ov an M W hm)
  have HM := Lib.hid hm
  have hl := hm.lt
  have m0 := hm.cell 0 _ rfl
  have m1 := hm.cell 1 _ rfl
  have hf := hm.free
  clear hm
  go_enter Tryd.func76, Tryd.ntmps76
  go_wp2_with (go_at_call 83; ((with_reducible refine (HE.out _ (HM.out.al _)).mono ?_); rintro e w1 ⟨rfl, hm1, g1⟩))
  go_end0
  exact ⟨rfl, hm1, (of_alloc w _ _).trans g1⟩
set_option maxRecDepth 100000 in
set_option maxHeartbeats 4000000 in
theorem lreta (d : Dat) (jt jf k a x : Int) (c : Nat → Int) (st : Int) (ov : Bool) (an : Int) (M : Nat) (w : World) (hm : ML w M a x c d st ov an)  :
    Calls Tryd.prog 76 #[.pointer (some ⟨M, 0, none⟩), .agg #[.int .u16 22, .int .u8 jt, .int .u8 jf, .int .u32 k]] w (LdTo M a x c d st true a w) := by
  have HE := Lib.hid (fun W hm => end_any a a x c d st ov an M W hm)
  have HM := Lib.hid hm
  have hl := hm.lt
  have m0 := hm.cell 0 _ rfl
  have m1 := hm.cell 1 _ rfl
  have hf := hm.free
  clear hm
  go_enter Tryd.func76, Tryd.ntmps76
  go_wp2_with (go_at_call 83; ((with_reducible refine (HE.out _ (HM.out.al _)).mono ?_); rintro e w1 ⟨rfl, hm1, g1⟩))
  go_end0
  exact ⟨rfl, hm1, (of_alloc w _ _).trans g1⟩
end Go.Proofs.YtohfampfnhfnlaaDoor
namespace Go.Proofs.YtohfampfnhfnlaaDoor
open Go.RowKit
set_option linter.unusedVariables false
attribute [local go_sem ↓] Go.wp_at_zero Go.wp_at_succ

theorem st_keep {w : World} {M n r : Nat} {cs : Array Value} {t : TypeId} {u k v : Value} (hM : M < w.heap.size) (hr : r < 2) (h0 : cs[3]? = some k) (h1 : w.cell? ⟨M, r, none⟩ = some u) :
    ((w.alloc (.cells cs t)).drew.cell? ⟨w.heap.size, 3, none⟩ = some k ∧ (w.alloc (.cells cs t)).drew.cell? ⟨M, r, none⟩ = some u) ∧
    (((w.setCell ⟨M, 2 + n, none⟩ v).alloc (.cells cs t)).drew.cell? ⟨w.heap.size, 3, none⟩ = some k ∧ ((w.setCell ⟨M, 2 + n, none⟩ v).alloc (.cells cs t)).drew.cell? ⟨M, r, none⟩ = some u) := by
  have hs : (w.setCell ⟨M, 2 + n, none⟩ v).heap.size = w.heap.size := by simp [World.setCell]
  refine ⟨⟨?_, ?_⟩, ?_, ?_⟩
  · show (w.alloc (.cells cs t)).cell? _ = _
    rw [cell_of_row _ _ 3 _ _ (0, 0) (heap_alloc_new w _)]; exact h0
  · show (w.alloc (.cells cs t)).cell? _ = _
    exact (World.cell?_alloc_lt w _ _ hM).trans h1
  · show ((w.setCell ⟨M, 2 + n, none⟩ v).alloc (.cells cs t)).cell? _ = _
    rw [← hs, cell_of_row _ _ 3 _ _ (0, 0) (heap_alloc_new _ _)]; exact h0
  · show ((w.setCell ⟨M, 2 + n, none⟩ v).alloc (.cells cs t)).cell? _ = _
    refine (World.cell?_alloc_lt _ _ _ (by rw [hs]; exact hM)).trans ?_
    exact (World.cell?_setCell_other w _ _ _ (fun e => by injection e with e1 e2 e3; omega)).trans h1
set_option maxRecDepth 100000 in
set_option maxHeartbeats 4000000 in
theorem lst_ok (d : Dat) (jt jf k a x : Int) (c : Nat → Int) (st : Int) (ov : Bool) (an : Int) (M : Nat) (w : World) (hm : ML w M a x c d st ov an) (n : Nat) (hn : n < 16) (hk : k = n) :
    Calls Tryd.prog 73 #[.pointer (some ⟨M, 0, none⟩), .agg #[.int .u16 2, .int .u8 jt, .int .u8 jf, .int .u32 k]] w (LdTo M a x (fun j => if j = n then a else c j) d st ov an w) := by
  subst hk
  have mk := hm.cell (2 + n) _ (ml_get hn)
  have HC := Lib.hid (fun W => cell_ok n hn M W)
  obtain ⟨H1, H2⟩ := st_keep (n := n) (cs := #[.int .u16 2, .int .u8 jt, .int .u8 jf, .int .u32 (n : Int)]) (t := 35) (v := .int .u32 a) hm.lt (by omega : 0 < 2) rfl (hm.cell 0 _ rfl)
  have HM := Lib.hid hm
  have hl := hm.lt
  have m0 := hm.cell 0 _ rfl
  have m1 := hm.cell 1 _ rfl
  have hf := hm.free
  clear hm
  go_enter Tryd.func73, Tryd.ntmps73
  go_wp2_with fail
  go_region_held3 (fun w' => (w').cell? ⟨w.heap.size, 3, none⟩ = some (.int .u32 (n : Int)) ∧ (w').cell? ⟨M, 0, none⟩ = some (.int .u32 a)) (first | with_reducible assumption | exact H1 | exact H2) (first | (go_at_call 81; ((with_reducible refine (HC.out _).mono ?_); rintro e w1 ⟨rfl, rfl⟩)))
  all_goals (go_wp2; go_end0; exact ⟨rfl, ((HM.out.set_ (2 + n) _ (ml_put _ hn)).al _).dr, of_drew ((of_set w M (2 + n) _).trans (of_alloc _ _ _))⟩)
set_option maxRecDepth 100000 in
set_option maxHeartbeats 4000000 in
theorem lstx_ok (d : Dat) (jt jf k a x : Int) (c : Nat → Int) (st : Int) (ov : Bool) (an : Int) (M : Nat) (w : World) (hm : ML w M a x c d st ov an) (n : Nat) (hn : n < 16) (hk : k = n) :
    Calls Tryd.prog 73 #[.pointer (some ⟨M, 0, none⟩), .agg #[.int .u16 3, .int .u8 jt, .int .u8 jf, .int .u32 k]] w (LdTo M a x (fun j => if j = n then x else c j) d st ov an w) := by
  subst hk
  have mk := hm.cell (2 + n) _ (ml_get hn)
  have HC := Lib.hid (fun W => cell_ok n hn M W)
  obtain ⟨H1, H2⟩ := st_keep (n := n) (cs := #[.int .u16 3, .int .u8 jt, .int .u8 jf, .int .u32 (n : Int)]) (t := 35) (v := .int .u32 x) hm.lt (by omega : 1 < 2) rfl (hm.cell 1 _ rfl)
  have HM := Lib.hid hm
  have hl := hm.lt
  have m0 := hm.cell 0 _ rfl
  have m1 := hm.cell 1 _ rfl
  have hf := hm.free
  clear hm
  go_enter Tryd.func73, Tryd.ntmps73
  go_wp2_with fail
  go_region_held3 (fun w' => (w').cell? ⟨w.heap.size, 3, none⟩ = some (.int .u32 (n : Int)) ∧ (w').cell? ⟨M, 1, none⟩ = some (.int .u32 x)) (first | with_reducible assumption | exact H1 | exact H2) (first | (go_at_call 81; ((with_reducible refine (HC.out _).mono ?_); rintro e w1 ⟨rfl, rfl⟩)))
  all_goals (go_wp2; go_end0; exact ⟨rfl, ((HM.out.set_ (2 + n) _ (ml_put _ hn)).al _).dr, of_drew ((of_set w M (2 + n) _).trans (of_alloc _ _ _))⟩)
set_option maxRecDepth 100000 in
set_option maxHeartbeats 4000000 in
theorem lst_bad (d : Dat) (jt jf k a x : Int) (c : Nat → Int) (st : Int) (ov : Bool) (an : Int) (M : Nat) (w : World) (hm : ML w M a x c d st ov an) (hk : 15 < k) :
    Calls Tryd.prog 73 #[.pointer (some ⟨M, 0, none⟩), .agg #[.int .u16 2, .int .u8 jt, .int .u8 jf, .int .u32 k]] w (LdBad 43 M a x c d st ov an w) := by
  have HC := Lib.hid (fun W => cell_bad k hk M W)
  obtain ⟨H1, _⟩ := st_keep (n := 0) (cs := #[.int .u16 2, .int .u8 jt, .int .u8 jf, .int .u32 k]) (t := 35) (v := .int .u32 0) hm.lt (by omega : 0 < 2) rfl (hm.cell 0 _ rfl)
  have HM := Lib.hid hm
  have hl := hm.lt
  have m0 := hm.cell 0 _ rfl
  have m1 := hm.cell 1 _ rfl
  have hf := hm.free
  clear hm
  go_enter Tryd.func73, Tryd.ntmps73
  go_wp2_with fail
  refine wp_region_any (by kernel_rfl) ?_
  change wpAny _ _ _ _ _ _ _ (World.drew _)
  refine wpAny_take (i := 0) (v := ?_) rfl (by kernel_rfl) (by kernel_rfl) (by kernel_rfl) (fun _ _ _ h => h) (Or.inl ⟨by rfl, ?_⟩) ?_
  rotate_left
  · intro w; go_simp; all_goals with_reducible rfl
  refine wpAny_take (i := 1) (v := ?_) rfl (by kernel_rfl) (by kernel_rfl) (by kernel_rfl) (fun _ _ _ h => h) (Or.inl ⟨by rfl, ?_⟩) ?_
  rotate_left
  · intro w; go_simp; all_goals with_reducible rfl
  refine wpAny_take (i := 4) (v := ?_) rfl (by kernel_rfl) (by kernel_rfl) (by kernel_rfl) (fun _ _ _ h => h) (Or.inl ⟨by rfl, ?_⟩) ?_
  rotate_left
  · intro w; go_simp; all_goals with_reducible rfl
  refine wpAny_take (i := 5) (v := ?_) rfl (by kernel_rfl) (by kernel_rfl) (by kernel_rfl) (fun _ _ _ h => h) (Or.inl ⟨by rfl, ?_⟩) ?_
  rotate_left
  · intro w; go_simp; all_goals with_reducible rfl
  refine wpAny_take (i := 6) (v := ?_) rfl (by kernel_rfl) (by kernel_rfl) (by kernel_rfl) (fun _ _ _ h => h) (Or.inl ⟨by rfl, ?_⟩) ?_
  rotate_left
  · intro w; go_simp; all_goals with_reducible rfl
  refine wpAny_ready (rs := [2, 7]) (by kernel_rfl) (by simp) ?_
  refine AllReady.cons rfl (fun K hK => ?_) (AllReady.cons rfl (fun K hK => ?_) AllReady.nil)
  · go_simp
    refine hK _ _ ?_
    clear hK K
    refine wpAny_ready (rs := [3, 7]) (by kernel_rfl) (by simp) ?_
    refine AllReady.cons rfl (fun K hK => ?_) (AllReady.cons rfl (fun K hK => ?_) AllReady.nil)
    · clear hK
      go_simp
      refine (HC.out _).mono ?_
      rintro e w1 ⟨rfl, rfl⟩
      exact ⟨rfl, rfl, (HM.out.al _).dr, of_drew (of_alloc _ _ _)⟩
    · go_simp
      refine hK _ _ ?_
      clear hK K
      refine wpAny_ready (rs := [3]) (by kernel_rfl) (by simp) ?_
      refine AllReady.cons rfl (fun K hK => ?_) AllReady.nil
      clear hK
      go_simp
      refine (HC.out _).mono ?_
      rintro e w1 ⟨rfl, rfl⟩
      exact ⟨rfl, rfl, (HM.out.al _).dr, of_drew (of_alloc _ _ _)⟩
  · go_simp
    refine hK _ _ ?_
    clear hK K
    refine wpAny_ready (rs := [2]) (by kernel_rfl) (by simp) ?_
    refine AllReady.cons rfl (fun K hK => ?_) AllReady.nil
    go_simp
    refine hK _ _ ?_
    clear hK K
    refine wpAny_ready (rs := [3]) (by kernel_rfl) (by simp) ?_
    refine AllReady.cons rfl (fun K hK => ?_) AllReady.nil
    clear hK
    go_simp
    refine (HC.out _).mono ?_
    rintro e w1 ⟨rfl, rfl⟩
    exact ⟨rfl, rfl, (HM.out.al _).dr, of_drew (of_alloc _ _ _)⟩

set_option maxRecDepth 100000 in
set_option maxHeartbeats 4000000 in
theorem lstx_bad (d : Dat) (jt jf k a x : Int) (c : Nat → Int) (st : Int) (ov : Bool) (an : Int) (M : Nat) (w : World) (hm : ML w M a x c d st ov an) (hk : 15 < k) :
    Calls Tryd.prog 73 #[.pointer (some ⟨M, 0, none⟩), .agg #[.int .u16 3, .int .u8 jt, .int .u8 jf, .int .u32 k]] w (LdBad 43 M a x c d st ov an w) := by
  have HC := Lib.hid (fun W => cell_bad k hk M W)
  obtain ⟨H1, _⟩ := st_keep (n := 0) (cs := #[.int .u16 3, .int .u8 jt, .int .u8 jf, .int .u32 k]) (t := 35) (v := .int .u32 0) hm.lt (by omega : 1 < 2) rfl (hm.cell 1 _ rfl)
  have HM := Lib.hid hm
  have hl := hm.lt
  have m0 := hm.cell 0 _ rfl
  have m1 := hm.cell 1 _ rfl
  have hf := hm.free
  clear hm
  go_enter Tryd.func73, Tryd.ntmps73
  go_wp2_with fail
  refine wp_region_any (by kernel_rfl) ?_
  change wpAny _ _ _ _ _ _ _ (World.drew _)
  refine wpAny_take (i := 0) (v := ?_) rfl (by kernel_rfl) (by kernel_rfl) (by kernel_rfl) (fun _ _ _ h => h) (Or.inl ⟨by rfl, ?_⟩) ?_
  rotate_left
  · intro w; go_simp; all_goals with_reducible rfl
  refine wpAny_take (i := 1) (v := ?_) rfl (by kernel_rfl) (by kernel_rfl) (by kernel_rfl) (fun _ _ _ h => h) (Or.inl ⟨by rfl, ?_⟩) ?_
  rotate_left
  · intro w; go_simp; all_goals with_reducible rfl
  refine wpAny_take (i := 4) (v := ?_) rfl (by kernel_rfl) (by kernel_rfl) (by kernel_rfl) (fun _ _ _ h => h) (Or.inl ⟨by rfl, ?_⟩) ?_
  rotate_left
  · intro w; go_simp; all_goals with_reducible rfl
  refine wpAny_take (i := 5) (v := ?_) rfl (by kernel_rfl) (by kernel_rfl) (by kernel_rfl) (fun _ _ _ h => h) (Or.inl ⟨by rfl, ?_⟩) ?_
  rotate_left
  · intro w; go_simp; all_goals with_reducible rfl
  refine wpAny_take (i := 6) (v := ?_) rfl (by kernel_rfl) (by kernel_rfl) (by kernel_rfl) (fun _ _ _ h => h) (Or.inl ⟨by rfl, ?_⟩) ?_
  rotate_left
  · intro w; go_simp; all_goals with_reducible rfl
  refine wpAny_ready (rs := [2, 7]) (by kernel_rfl) (by simp) ?_
  refine AllReady.cons rfl (fun K hK => ?_) (AllReady.cons rfl (fun K hK => ?_) AllReady.nil)
  · go_simp
    refine hK _ _ ?_
    clear hK K
    refine wpAny_ready (rs := [3, 7]) (by kernel_rfl) (by simp) ?_
    refine AllReady.cons rfl (fun K hK => ?_) (AllReady.cons rfl (fun K hK => ?_) AllReady.nil)
    · clear hK
      go_simp
      refine (HC.out _).mono ?_
      rintro e w1 ⟨rfl, rfl⟩
      exact ⟨rfl, rfl, (HM.out.al _).dr, of_drew (of_alloc _ _ _)⟩
    · go_simp
      refine hK _ _ ?_
      clear hK K
      refine wpAny_ready (rs := [3]) (by kernel_rfl) (by simp) ?_
      refine AllReady.cons rfl (fun K hK => ?_) AllReady.nil
      clear hK
      go_simp
      refine (HC.out _).mono ?_
      rintro e w1 ⟨rfl, rfl⟩
      exact ⟨rfl, rfl, (HM.out.al _).dr, of_drew (of_alloc _ _ _)⟩
  · go_simp
    refine hK _ _ ?_
    clear hK K
    refine wpAny_ready (rs := [2]) (by kernel_rfl) (by simp) ?_
    refine AllReady.cons rfl (fun K hK => ?_) AllReady.nil
    go_simp
    refine hK _ _ ?_
    clear hK K
    refine wpAny_ready (rs := [3]) (by kernel_rfl) (by simp) ?_
    refine AllReady.cons rfl (fun K hK => ?_) AllReady.nil
    clear hK
    go_simp
    refine (HC.out _).mono ?_
    rintro e w1 ⟨rfl, rfl⟩
    exact ⟨rfl, rfl, (HM.out.al _).dr, of_drew (of_alloc _ _ _)⟩

end Go.Proofs.YtohfampfnhfnlaaDoor
namespace Go.Proofs.YtohfampfnhfnlaaDoor
open Go.RowKit
set_option linter.unusedVariables false
attribute [local go_sem ↓] Go.wp_at_zero Go.wp_at_succ

/-- The rows of the table: a code, a code, a function. -/
def opR : List (Int × Int × Nat) := [(4, 12, 58), (20, 28, 59), (36, 44, 60), (52, 60, 61), (68, 76, 62), (84, 92, 63), (100, 108, 64), (116, 124, 65), (164, 172, 66), (132, 132, 67)]
theorem opR_length : opR.length = 10 := rfl
theorem opR_cells {k : Nat} (hk : k < opR.length) : opsC[k * 3 + 0]? = some (.int .u16 (opR[k]).1) ∧ opsC[k * 3 + 1]? = some (.int .u16 (opR[k]).2.1) ∧ opsC[k * 3 + 2]? = some (.func (.func (opR[k]).2.2) #[] #[]) := by
  match k, hk with
  | 0, _ => exact ⟨rfl, rfl, rfl⟩
  | 1, _ => exact ⟨rfl, rfl, rfl⟩
  | 2, _ => exact ⟨rfl, rfl, rfl⟩
  | 3, _ => exact ⟨rfl, rfl, rfl⟩
  | 4, _ => exact ⟨rfl, rfl, rfl⟩
  | 5, _ => exact ⟨rfl, rfl, rfl⟩
  | 6, _ => exact ⟨rfl, rfl, rfl⟩
  | 7, _ => exact ⟨rfl, rfl, rfl⟩
  | 8, _ => exact ⟨rfl, rfl, rfl⟩
  | 9, _ => exact ⟨rfl, rfl, rfl⟩
  | k + 10, hk => exact absurd hk (by rw [opR_length]; omega)
theorem op_cells {w : World} {M : Nat} {a x : Int} {c : Nat → Int} {d : Dat} {st : Int} {ov : Bool} {an : Int} (h : ML w M a x c d st ov an) {k : Nat} (hk : k < opR.length) :
    w.cell? ⟨M, 27 + k * 3, none⟩ = some (.int .u16 (opR[k]).1) ∧ w.cell? ⟨M, 27 + k * 3 + 1, none⟩ = some (.int .u16 (opR[k]).2.1) ∧ w.cell? ⟨M, 27 + k * 3 + 2, none⟩ = some (.func (.func (opR[k]).2.2) #[] #[]) := by
  obtain ⟨h0, h1, h2⟩ := opR_cells hk
  have hk' : k < 10 := hk
  refine ⟨h.cell _ _ ?_, h.cell _ _ ?_, h.cell _ _ ?_⟩
  · exact (ml_op hk' (by omega : 0 < 3)).trans h0
  · exact (ml_op hk' (by omega : 1 < 3)).trans h1
  · exact (ml_op hk' (by omega : 2 < 3)).trans h2
set_option maxHeartbeats 1600000 in
theorem find_op (cd : Int) (n : Nat) (hn : n < opR.length) (hit : (opR[n]).1 = cd ∨ (opR[n]).2.1 = cd) (miss : ∀ (k : Nat) (h : k < n), (opR[k]'(by omega)).1 ≠ cd ∧ (opR[k]'(by omega)).2.1 ≠ cd)
    (a x : Int) (c : Nat → Int) (d : Dat) (st : Int) (ov : Bool) (an : Int) (M : Nat) (w : World) (hm : ML w M a x c d st ov an) :
    Calls Tryd.prog 84 #[.slice (some ⟨M, 27, none⟩) 10 10, .int .u16 cd] w fun e w' => e = .returned (.func (.func (opR[n]).2.2) #[] #[]) ∧ w = w' := by
  have HM := Lib.hid hm
  have HI := Lib.hid hit
  have HS := Lib.hid miss
  have hn' : n < 10 := hn
  clear hm hit miss
  go_enter Tryd.func84, Tryd.ntmps84
  go_wp2
  go_loop [8] (fun i => ∃ k : Nat, k ≤ n ∧ i = .int .i64 k) (fun i => 10 - (intOf i).toNat)
  case atStart => exact ⟨0, by omega, rfl⟩
  case round =>
    obtain ⟨k, hk, rfl⟩ := hrel
    have hkl : k < opR.length := Nat.lt_of_le_of_lt hk hn
    have k9 : (k : Int) < 10 := by omega
    obtain ⟨p0, p1, p2⟩ := op_cells HM.out hkl
    by_cases hlt : k < n
    · obtain ⟨m0, m1⟩ := HS.out k hlt
      obtain ⟨x0, e0⟩ : ∃ v, v = (opR[k]).1 := ⟨_, rfl⟩
      obtain ⟨x1, e1⟩ : ∃ v, v = (opR[k]).2.1 := ⟨_, rfl⟩
      rw [← e0] at p0 m0
      rw [← e1] at p1 m1
      have q0 : (x0 == cd) = false := beq_eq_false_iff_ne.2 m0
      have q1 : (x1 == cd) = false := beq_eq_false_iff_ne.2 m1
      clear e0 e1 m0 m1 p2 hkl
      go_wp2
      go_round
      case rel => exact ⟨k + 1, by omega, by go_num⟩
      case measure => simp [intOf]; omega
    · obtain rfl : k = n := by omega
      have hi := HI.out
      generalize (opR[k]'hkl).1 = x0 at p0 hi
      generalize (opR[k]'hkl).2.1 = x1 at p1 hi
      generalize he2 : (opR[k]'hkl).2.2 = x2 at p2
      have HX := Lib.hid he2
      clear he2
      by_cases h0 : x0 = cd
      · have q0 : (x0 == cd) = true := beq_iff_eq.2 h0
        clear hi h0
        go_wp2
        go_ret
        exact ⟨congrArg (fun v => Ending.returned (.func (.func v) #[] #[])) HX.out.symm, rfl⟩
      · have q0 : (x0 == cd) = false := beq_eq_false_iff_ne.2 h0
        have q1 : (x1 == cd) = true := beq_iff_eq.2 (hi.resolve_left h0)
        clear hi h0
        go_wp2
        go_ret
        exact ⟨congrArg (fun v => Ending.returned (.func (.func v) #[] #[])) HX.out.symm, rfl⟩
/-- The rows of the table: a code, a code, a function. -/
def cmpR : List (Int × Int × Nat) := [(21, 29, 68), (37, 45, 69), (53, 61, 70), (69, 77, 71)]
theorem cmpR_length : cmpR.length = 4 := rfl
theorem cmpR_cells {k : Nat} (hk : k < cmpR.length) : cmpC[k * 3 + 0]? = some (.int .u16 (cmpR[k]).1) ∧ cmpC[k * 3 + 1]? = some (.int .u16 (cmpR[k]).2.1) ∧ cmpC[k * 3 + 2]? = some (.func (.func (cmpR[k]).2.2) #[] #[]) := by
  match k, hk with
  | 0, _ => exact ⟨rfl, rfl, rfl⟩
  | 1, _ => exact ⟨rfl, rfl, rfl⟩
  | 2, _ => exact ⟨rfl, rfl, rfl⟩
  | 3, _ => exact ⟨rfl, rfl, rfl⟩
  | k + 4, hk => exact absurd hk (by rw [cmpR_length]; omega)
theorem cmp_cells {w : World} {M : Nat} {a x : Int} {c : Nat → Int} {d : Dat} {st : Int} {ov : Bool} {an : Int} (h : ML w M a x c d st ov an) {k : Nat} (hk : k < cmpR.length) :
    w.cell? ⟨M, 57 + k * 3, none⟩ = some (.int .u16 (cmpR[k]).1) ∧ w.cell? ⟨M, 57 + k * 3 + 1, none⟩ = some (.int .u16 (cmpR[k]).2.1) ∧ w.cell? ⟨M, 57 + k * 3 + 2, none⟩ = some (.func (.func (cmpR[k]).2.2) #[] #[]) := by
  obtain ⟨h0, h1, h2⟩ := cmpR_cells hk
  have hk' : k < 4 := hk
  refine ⟨h.cell _ _ ?_, h.cell _ _ ?_, h.cell _ _ ?_⟩
  · exact (ml_cmp hk' (by omega : 0 < 3)).trans h0
  · exact (ml_cmp hk' (by omega : 1 < 3)).trans h1
  · exact (ml_cmp hk' (by omega : 2 < 3)).trans h2
set_option maxHeartbeats 1600000 in
theorem find_cmp (cd : Int) (n : Nat) (hn : n < cmpR.length) (hit : (cmpR[n]).1 = cd ∨ (cmpR[n]).2.1 = cd) (miss : ∀ (k : Nat) (h : k < n), (cmpR[k]'(by omega)).1 ≠ cd ∧ (cmpR[k]'(by omega)).2.1 ≠ cd)
    (a x : Int) (c : Nat → Int) (d : Dat) (st : Int) (ov : Bool) (an : Int) (M : Nat) (w : World) (hm : ML w M a x c d st ov an) :
    Calls Tryd.prog 85 #[.slice (some ⟨M, 57, none⟩) 4 4, .int .u16 cd] w fun e w' => e = .returned (.func (.func (cmpR[n]).2.2) #[] #[]) ∧ w = w' := by
  have HM := Lib.hid hm
  have HI := Lib.hid hit
  have HS := Lib.hid miss
  have hn' : n < 4 := hn
  clear hm hit miss
  go_enter Tryd.func85, Tryd.ntmps85
  go_wp2
  go_loop [8] (fun i => ∃ k : Nat, k ≤ n ∧ i = .int .i64 k) (fun i => 4 - (intOf i).toNat)
  case atStart => exact ⟨0, by omega, rfl⟩
  case round =>
    obtain ⟨k, hk, rfl⟩ := hrel
    have hkl : k < cmpR.length := Nat.lt_of_le_of_lt hk hn
    have k9 : (k : Int) < 4 := by omega
    obtain ⟨p0, p1, p2⟩ := cmp_cells HM.out hkl
    by_cases hlt : k < n
    · obtain ⟨m0, m1⟩ := HS.out k hlt
      obtain ⟨x0, e0⟩ : ∃ v, v = (cmpR[k]).1 := ⟨_, rfl⟩
      obtain ⟨x1, e1⟩ : ∃ v, v = (cmpR[k]).2.1 := ⟨_, rfl⟩
      rw [← e0] at p0 m0
      rw [← e1] at p1 m1
      have q0 : (x0 == cd) = false := beq_eq_false_iff_ne.2 m0
      have q1 : (x1 == cd) = false := beq_eq_false_iff_ne.2 m1
      clear e0 e1 m0 m1 p2 hkl
      go_wp2
      go_round
      case rel => exact ⟨k + 1, by omega, by go_num⟩
      case measure => simp [intOf]; omega
    · obtain rfl : k = n := by omega
      have hi := HI.out
      generalize (cmpR[k]'hkl).1 = x0 at p0 hi
      generalize (cmpR[k]'hkl).2.1 = x1 at p1 hi
      generalize he2 : (cmpR[k]'hkl).2.2 = x2 at p2
      have HX := Lib.hid he2
      clear he2
      by_cases h0 : x0 = cd
      · have q0 : (x0 == cd) = true := beq_iff_eq.2 h0
        clear hi h0
        go_wp2
        go_ret
        exact ⟨congrArg (fun v => Ending.returned (.func (.func v) #[] #[])) HX.out.symm, rfl⟩
      · have q0 : (x0 == cd) = false := beq_eq_false_iff_ne.2 h0
        have q1 : (x1 == cd) = true := beq_iff_eq.2 (hi.resolve_left h0)
        clear hi h0
        go_wp2
        go_ret
        exact ⟨congrArg (fun v => Ending.returned (.func (.func v) #[] #[])) HX.out.symm, rfl⟩
end Go.Proofs.YtohfampfnhfnlaaDoor
