/- The cells that are certain, reckoned place by place as the landed Sure does it; the small calls of Sure. Condition: a program. -/
import Derived.Test.YthhfpehngdohhaaDoorQf
import Derived.Test.YthhfpehngdohhaaDoorQg
import Derived.Laws.BitsAllLaws
namespace Go.Proofs.YthhfpehngdohhaaDoor
open Go.RowKit Go.Shelf
set_option linter.unusedVariables false
attribute [local go_sem] Oper.semAt_some

/-- What the instruction at a place writes. -/
def wrN (p : List Ins) (i : Nat) : Nat := match p[i]? with | none => 0 | some x => writesN x
/-- The sets when the first i places have been gone through. -/
def sureRow (p : List Ins) : Nat → Nat → Nat
  | 0, j => if j = 0 then 0 else 65535
  | i + 1, j => if (nextL p i).contains j then sureRow p i j &&& (sureRow p i i ||| wrN p i) else sureRow p i j
theorem bitN_lt (k : Int) : bitN k < 65536 := by
  unfold bitN
  split
  · have : (2 : Nat) ^ k.toNat ≤ 2 ^ 15 := Nat.pow_le_pow_right (by decide) (by omega)
    omega
  · omega
theorem writesN_lt (i : Ins) : writesN i < 65536 := by
  unfold writesN
  split
  · exact bitN_lt _
  · omega
theorem readsN_lt (i : Ins) : readsN i < 65536 := by
  unfold readsN
  split
  · exact bitN_lt _
  · omega
theorem wrN_lt (p : List Ins) (i : Nat) : wrN p i < 65536 := by
  unfold wrN
  split
  · omega
  · exact writesN_lt _
theorem or_lt {a b : Nat} (ha : a < 65536) (hb : b < 65536) : a ||| b < 65536 := Nat.or_lt_two_pow (n := 16) ha hb
theorem and_lt {a b : Nat} (ha : a < 65536) : a &&& b < 65536 := Nat.lt_of_le_of_lt Nat.and_le_left ha
theorem sureRow_lt (p : List Ins) : ∀ i j, sureRow p i j < 65536
  | 0, j => by show (if j = 0 then 0 else 65535) < 65536; split <;> omega
  | i + 1, j => by
    show (if (nextL p i).contains j then sureRow p i j &&& (sureRow p i i ||| wrN p i) else sureRow p i j) < 65536
    split
    · exact and_lt (sureRow_lt p i j)
    · exact sureRow_lt p i j
theorem bitN_bit {k : Int} (hk : 0 ≤ k) {c : Nat} (hc : c < 16) : (bitN k).testBit c = (k == (c : Int)) := by
  obtain ⟨m, rfl⟩ := Int.eq_ofNat_of_zero_le hk
  unfold bitN
  by_cases h : (m : Int) < 16
  · rw [if_pos h, Int.toNat_natCast, Nat.testBit_two_pow]
    rw [Bool.eq_iff_iff, decide_eq_true_eq, beq_iff_eq]
    omega
  · rw [if_neg h, Nat.zero_testBit]
    rw [eq_comm, beq_eq_false_iff_ne]
    omega
theorem wrN_bit {p : List Ins} (hp : OkL p) {i c : Nat} (hc : c < 16) : (wrN p i).testBit c = writesB p c i := by
  unfold wrN writesB
  cases h : p[i]? with
  | none => exact Nat.zero_testBit _
  | some x =>
    have hlt := (List.getElem?_eq_some_iff.1 h).1
    have hx : x.Ok := by
      have := hp.get hlt
      rw [List.getElem?_eq_getElem hlt] at h
      injection h with h
      rw [← h]; exact this
    obtain ⟨_, _, _, _, _, _, k0, _⟩ := hx
    show (writesN x).testBit c = ((x.c == 2 || x.c == 3) && x.k == (c : Int))
    unfold writesN
    by_cases h2 : x.c = 2 ∨ x.c = 3
    · rw [if_pos h2, bitN_bit k0 hc]
      rcases h2 with h2 | h2 <;> rw [h2] <;> rfl
    · rw [if_neg h2, Nat.zero_testBit]
      rw [beq_eq_false_iff_ne.2 (fun e => h2 (Or.inl e)), beq_eq_false_iff_ne.2 (fun e => h2 (Or.inr e))]; rfl
theorem sureRow_bit {p : List Ins} (hp : OkL p) {c : Nat} (hc : c < 16) : ∀ i j, (sureRow p i j).testBit c = !mark (nextL p) (fun i => !writesB p c i) i j
  | 0, j => by
    show (if j = 0 then 0 else 65535).testBit c = !(j == 0)
    by_cases h : j = 0
    · rw [if_pos h, Nat.zero_testBit, h]; rfl
    · rw [if_neg h, beq_eq_false_iff_ne.2 h, show (65535 : Nat) = 2 ^ 16 - 1 from rfl, Nat.testBit_two_pow_sub_one, decide_eq_true hc]; rfl
  | i + 1, j => by
    show (if (nextL p i).contains j then sureRow p i j &&& (sureRow p i i ||| wrN p i) else sureRow p i j).testBit c = !(mark (nextL p) (fun i => !writesB p c i) i j || (mark (nextL p) (fun i => !writesB p c i) i i && !writesB p c i && (nextL p i).contains j))
    have h1 := sureRow_bit hp hc i j
    have h2 := sureRow_bit hp hc i i
    cases hcn : (nextL p i).contains j with
    | true =>
      rw [if_pos rfl, Nat.testBit_and, Nat.testBit_or, h1, h2, wrN_bit hp hc]
      cases mark (nextL p) (fun i => !writesB p c i) i j <;> cases mark (nextL p) (fun i => !writesB p c i) i i <;> cases writesB p c i <;> rfl
    | false =>
      rw [if_neg (by simp), h1]
      simp
theorem sureRow_done {p : List Ins} (hp : OkL p) (j : Nat) : sureRow p p.length j = sureN p j := by
  apply Nat.eq_of_testBit_eq
  intro c
  unfold sureN
  rw [sureTo_bit]
  by_cases hc : c < 16
  · rw [sureRow_bit hp hc, decide_eq_true hc, Bool.true_and]; rfl
  · rw [decide_eq_false hc, Bool.false_and]
    exact Nat.testBit_lt_two_pow (Nat.lt_of_lt_of_le (sureRow_lt p _ j) (Nat.pow_le_pow_right (n := 2) (i := 16) (by decide) (by omega)))
theorem lead_call (R b x n cap s v : Nat) (w : World) (hb : w.cell? ⟨b, 0, none⟩ = some (.slice (some ⟨R, 0, none⟩) n cap)) (hx : x < n) (hs : s < 65536) (hv : v < 65536) (hc : w.cell? ⟨R, x, none⟩ = some (.int .u16 (s : Nat))) (hf : w.frozen? ⟨R, x, none⟩ = false) :
    Calls Tryd.prog 27 #[.int .i64 x, .int .u16 v, .pointer (some ⟨b, 0, none⟩)] w fun e w' => e = .returned (.tuple #[]) ∧ w' = w.setCell ⟨R, x, none⟩ (.int .u16 ((s &&& v : Nat) : Int)) := by
  have x1 : (x : Int) < n := by omega
  have x0 : (0 : Int) ≤ x := by omega
  have ha := u16_and_nat s v hs hv
  obtain ⟨y, hy⟩ : ∃ y : Nat, y = s &&& v := ⟨_, rfl⟩
  rw [← hy] at ha ⊢
  clear hx hs hv hy
  go_enter Tryd.func27, Tryd.ntmps27
  go_wp2
  go_end0
  exact ⟨rfl, rfl⟩
theorem sure_long (a0 : Option Addr) (n cap : Nat) (w : World) (hn : (4096 : Int) < n) : Calls Tryd.prog 16 #[.slice a0 n cap] w fun e w' => e = .returned (.slice none 0 0) ∧ w = w' := by
  have HT := Lib.hid (fun W => tooLong_call a0 n cap W)
  rw [decide_eq_true hn] at HT
  clear hn
  go_enter Tryd.func16, Tryd.ntmps16
  go_wp2_with (go_at_call 22; ((with_reducible refine (HT.out _).mono ?_); rintro e w1 ⟨rfl, rfl⟩))
  go_ret
  exact ⟨rfl, rfl⟩
theorem boxed_turned {B' b : Nat} {t : TypeId} {v : Value} {V V' : World} {row : Option Nat} (hb : Boxed V b t v) (hg : V.grownBy V' row) (hr : ∀ r, row = some r → B' ≤ r ∧ ∃ o : Obj, V.heap[r]? = some o ∧ o.isCells = false) : Boxed V' b t v :=
  hb.kept hg fun e => by
    obtain ⟨_, o, ho2, hc⟩ := hr _ e.symm
    rw [show V.heap[b]? = _ from hb] at ho2; cases ho2; cases hc
theorem row_turned {B' B s n : Nat} {e : TypeId} {v : Value} {xs : List Value} {V V' : World} {row : Option Nat} (h : V.ownsRow B e s v n xs) (hg : V.grownBy V' row) (hr : ∀ r, row = some r → B' ≤ r ∧ ∃ o : Obj, V.heap[r]? = some o ∧ o.isCells = false) : V'.ownsRow B e s v n xs := by
  refine h.kept hg ?_
  rcases h.2 with ⟨rfl, _⟩ | ⟨g, cap, cur, rfl, _, hgb, _⟩
  · exact .inl rfl
  · refine .inr fun e => ?_
    obtain ⟨_, o, ho2, hc⟩ := hr g e.symm
    rw [hgb] at ho2; cases ho2; cases hc
/-- Between two rounds: the row, its box, the closure's box. -/
def SureI (w : World) (B B2 n : Nat) (f : Nat → Nat) (V : World) : Prop :=
  V.ownsRow w.heap.size 34 1 (.slice (some ⟨w.heap.size, 0, none⟩) n n) n (rowS n f) ∧ Boxed V B 31 (.slice (some ⟨w.heap.size, 0, none⟩) n n) ∧
  Boxed V B2 56 (.func (.func 27) #[] #[.pointer (some ⟨B, 0, none⟩)]) ∧ Below w.heap.size w V
theorem SureI.on {w V V' : World} {B B2 n : Nat} {f : Nat → Nat} (h : SureI w B B2 n f V) (b : Below V.heap.size V V') : SureI w B B2 n f V' :=
  ⟨own_on h.1 b, (b.block _ (Array.getElem?_eq_some_iff.1 h.2.1).1).trans h.2.1, (b.block _ (Array.getElem?_eq_some_iff.1 h.2.2.1).1).trans h.2.2.1, thn h.2.2.2 b⟩
theorem SureI.set_ {w V : World} {B B2 n x v : Nat} {f g : Nat → Nat} (h : SureI w B B2 n f V) (hB : w.heap.size < B) (hB2 : w.heap.size < B2) (hg : ∀ j, g j = if j = x then v else f j) : SureI w B B2 n g (V.setCell ⟨w.heap.size, x, none⟩ (.int .u16 (v : Nat))) := by
  refine ⟨?_, ?_, ?_, h.2.2.2.setCell (p := ⟨w.heap.size, x, none⟩) (Nat.le_refl _) _⟩
  · have o := (h.1.stored x (.int .u16 (v : Nat))).1
    rw [rowS_set] at o
    rw [rowS_congr (g := fun j => if j = x then v else f j) (fun j _ => hg j)]
    exact o
  · exact (heap_setCell_other V _ B _ (show B ≠ w.heap.size by omega)).trans h.2.1
  · exact (heap_setCell_other V _ B2 _ (show B2 ≠ w.heap.size by omega)).trans h.2.2.1
theorem sureI_own (w : World) (B B2 n B' : Nat) (f : Nat → Nat) (hB : w.heap.size ≤ B') : OwnFrom B' (fun (_ : Unit) V => SureI w B B2 n f V) := by
  rintro s V V' row ⟨h1, h2, h3, h4⟩ hg hr
  exact ⟨row_turned h1 hg hr, boxed_turned h2 hg hr, boxed_turned h3 hg hr, h4.grown hg h4.size fun k e => by have := (hr k e).1; omega⟩
theorem leadI_call {w V : World} {B B2 n x v : Nat} {f g : Nat → Nat} (hB : w.heap.size < B) (hB2 : w.heap.size < B2) (hx : x < n) (hf : f x < 65536) (hv : v < 65536) (h : SureI w B B2 n f V) (hg : ∀ j, g j = if j = x then f x &&& v else f j) :
    Calls Tryd.prog 27 #[.int .i64 x, .int .u16 v, .pointer (some ⟨B, 0, none⟩)] V fun e V' => e = .returned (.tuple #[]) ∧ SureI w B B2 n g V' ∧ V.grownBy V' (some w.heap.size) :=
  (lead_call w.heap.size B x n n (f x) v V h.2.1.cell hx hf hv ((h.1.cellAt x (by omega)).trans (rowS_get _ hx)) (h.1.frozenAt x)).mono fun e V' ⟨h1, h2⟩ => by
    subst h2
    exact ⟨h1, h.set_ hB hB2 hg, of_set V w.heap.size x _⟩
end Go.Proofs.YthhfpehngdohhaaDoor
