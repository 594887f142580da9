/- The document's machine in memory: A, X, what is told, the cells, whether it is over; what becomes of it by a store; how the document shifts. Condition: numbers below 2 to the 32nd. What the document's machine makes of the codes that load, store, move. Condition: numbers below 2 to the 32nd. What the document's machine makes of the codes that jump: how many instructions are left out. Condition: numbers below 2 to the 32nd. What the document's machine makes of the codes of the class Number. Condition: numbers below 2 to the 32nd. What the document's machine makes of an instruction: as the plain function says. Condition: numbers below 2 to the 32nd. What the document's machine makes of any instruction: as the plain function says. Condition: numbers below 2 to the 32nd. -/
import Derived.Test.YtohfampfnhfnlaaDoorVa
import Derived.Test.YtohfampfnhfnlaaDoorDb
import Derived.Test.YtohfampfnhfnlaaDoorIf
import Derived.OwnWalk
import Derived.Maps.AppendAt
import Derived.RegionTactic
import Derived.ChangeAlike
import Derived.BigRegion
import Derived.Laws.BitsAllLaws
namespace Go.Proofs.YtohfampfnhfnlaaDoor
open Go.RowKit
set_option linter.unusedVariables false
attribute [local go_sem ↓] Go.wp_at_zero Go.wp_at_succ

/-- The machine's twenty cells. -/
def machC (a x t : Int) (c : Nat → Int) (ov : Bool) : List Value := .int .u32 a :: .int .u32 x :: .int .u32 t :: ((List.range 16).map (fun j => Value.int .u32 (c j)) ++ [.bool ov])
theorem mach_get {a x t : Int} {c : Nat → Int} {ov : Bool} {k : Nat} (hk : k < 16) : (machC a x t c ov)[3 + k]? = some (.int .u32 (c k)) := by
  match k, hk with
  | 0, _ => rfl
  | 1, _ => rfl
  | 2, _ => rfl
  | 3, _ => rfl
  | 4, _ => rfl
  | 5, _ => rfl
  | 6, _ => rfl
  | 7, _ => rfl
  | 8, _ => rfl
  | 9, _ => rfl
  | 10, _ => rfl
  | 11, _ => rfl
  | 12, _ => rfl
  | 13, _ => rfl
  | 14, _ => rfl
  | 15, _ => rfl
  | k + 16, hk => omega
theorem mach_put {a x t : Int} {c : Nat → Int} {ov : Bool} {k : Nat} (v : Int) (hk : k < 16) : (machC a x t c ov).set (3 + k) (.int .u32 v) = machC a x t (fun j => if j = k then v else c j) ov := by
  match k, hk with
  | 0, _ => rfl
  | 1, _ => rfl
  | 2, _ => rfl
  | 3, _ => rfl
  | 4, _ => rfl
  | 5, _ => rfl
  | 6, _ => rfl
  | 7, _ => rfl
  | 8, _ => rfl
  | 9, _ => rfl
  | 10, _ => rfl
  | 11, _ => rfl
  | 12, _ => rfl
  | 13, _ => rfl
  | 14, _ => rfl
  | 15, _ => rfl
  | k + 16, hk => omega
theorem of_below {w w' : World} {row : Option Nat} (h : Below w.heap.size w w') : w.grownBy w' row := ⟨h.os, h.tape, h.output, h.size, fun k hk _ => h.block k hk⟩
theorem of_set (w : World) (M i : Nat) (v : Value) : w.grownBy (w.setCell ⟨M, i, none⟩ v) (some M) := ⟨rfl, rfl, rfl, by simp [World.setCell], fun k _ hne => heap_setCell_other w _ k v (fun e => hne (by rw [e]))⟩
theorem of_alloc (w : World) (o : Obj) (row : Option Nat) : w.grownBy (w.alloc o) row := of_below ((Below.refl _ _).alloc (Nat.le_refl _) o)
/-- Two to the n, times. -/
theorem shl_step (a : Int) (n : Nat) : (a * 2 % 4294967296 * 2 ^ n) % 4294967296 = (a * 2 ^ (n + 1)) % 4294967296 := by
  rw [Int.mul_emod, Int.emod_emod_of_dvd _ (Int.dvd_refl _), ← Int.mul_emod, Int.pow_succ, Int.mul_comm (2 ^ n) 2, Int.mul_assoc]
theorem shr_step2 (a : Int) (n : Nat) : a / 2 / 2 ^ n = a / 2 ^ (n + 1) := by
  rw [Int.ediv_ediv_of_nonneg (by decide), Int.pow_succ, Int.mul_comm (2 ^ n) 2]
end Go.Proofs.YtohfampfnhfnlaaDoor
namespace Go.Proofs.YtohfampfnhfnlaaDoor
open Go.RowKit
set_option linter.unusedVariables false
attribute [local go_sem ↓] Go.wp_at_zero Go.wp_at_succ

theorem of_al2 (w : World) (o o' : Obj) (row : Option Nat) : w.grownBy ((w.alloc o).alloc o') row := (of_alloc w o row).trans (of_alloc _ o' row)
theorem of_drew {w w' : World} {row : Option Nat} (h : w.grownBy w' row) : w.grownBy w'.drew row := ⟨h.os, h.tape, h.output, h.size, h.block⟩
end Go.Proofs.YtohfampfnhfnlaaDoor
namespace Go.Proofs.YtohfampfnhfnlaaDoor
open Go.RowKit
set_option linter.unusedVariables false
attribute [local go_sem ↓] Go.wp_at_zero Go.wp_at_succ

def JumpTo (n : Nat) (w : World) (e : Ending) (w' : World) : Prop := e = .returned (.int .i64 n) ∧ Below w.heap.size w w'
end Go.Proofs.YtohfampfnhfnlaaDoor
namespace Go.Proofs.YtohfampfnhfnlaaDoor
open Go.RowKit
set_option linter.unusedVariables false
attribute [local go_sem ↓] Go.wp_at_zero Go.wp_at_succ

end Go.Proofs.YtohfampfnhfnlaaDoor
namespace Go.Proofs.YtohfampfnhfnlaaDoor
open Go.RowKit
set_option linter.unusedVariables false
attribute [local go_sem ↓] Go.wp_at_zero Go.wp_at_succ

/-- The machine's numbers are below 2 to the 32nd. -/
def OkM (a x : Int) (c : Nat → Int) : Prop := U32 a ∧ U32 x ∧ ∀ j, U32 (c j)
theorem one_field2 (x : Int) (n : ByteArray) (k : Int) (w : World) : (Instr.field 55 (.agg #[.int .u16 x, .string n, .int .u8 k]) 2).run Tryd.prog w = .ok (.int .u8 k) w := by kernel_rfl
/-- Block b is a box with an instruction. -/
def BoxI (w : World) (b : Nat) (c jt jf k : Int) : Prop := w.heap[b]? = some (.cells #[.int .u16 c, .int .u8 jt, .int .u8 jf, .int .u32 k] 35 (0, 0))
theorem BoxI.on {w w' : World} {b : Nat} {c jt jf k : Int} (h : BoxI w b c jt jf k) (hb : Below w.heap.size w w') : BoxI w' b c jt jf k := (hb.block b (lt_of_block h)).trans h
theorem BoxI.cells {w : World} {b : Nat} {c jt jf k : Int} (h : BoxI w b c jt jf k) : w.cell? ⟨b, 0, none⟩ = some (.int .u16 c) ∧ w.cell? ⟨b, 1, none⟩ = some (.int .u8 jt) ∧ w.cell? ⟨b, 2, none⟩ = some (.int .u8 jf) ∧ w.cell? ⟨b, 3, none⟩ = some (.int .u32 k) := by
  refine ⟨?_, ?_, ?_, ?_⟩ <;> (rw [cell_of_row w b _ _ 35 (0, 0) h]; rfl)
theorem BoxI.new2 {w w1 : World} {c jt jf k : Int} {o : Obj} (b : Below ((w.alloc (.cells #[.int .u16 c, .int .u8 jt, .int .u8 jf, .int .u32 k] 35)).alloc o).heap.size ((w.alloc (.cells #[.int .u16 c, .int .u8 jt, .int .u8 jf, .int .u32 k] 35)).alloc o) w1) : BoxI w1 w.heap.size c jt jf k :=
  (b.block _ (by simp; omega)).trans ((Below.heap_alloc _ o _ (by simp)).trans (heap_alloc_new w _))
theorem box2 {w w1 : World} {d : Dat} {o : Obj} (b : Below ((w.alloc o).alloc (.cells (datC d) 43)).heap.size ((w.alloc o).alloc (.cells (datC d) 43)) w1) : BoxD w1 (w.heap.size + 1) d := by
  have h := heap_alloc_new (w.alloc o) (.cells (datC d) 43)
  rw [World.size_alloc] at h
  exact (b.block _ (by simp)).trans h
end Go.Proofs.YtohfampfnhfnlaaDoor
namespace Go.Proofs.YtohfampfnhfnlaaDoor
open Go.RowKit
set_option linter.unusedVariables false

def vmCodes : List Int := [32, 128, 0, 96, 129, 1, 97, 2, 3, 132, 5, 6, 22, 7, 135, 4, 12, 20, 28, 36, 44, 52, 60, 68, 76, 84, 92, 100, 108, 116, 124, 164, 172, 21, 29, 37, 45, 53, 61, 69, 77]
theorem ofL_in : ∀ (l : List One) (c : Int), ofL l c = noOne ∨ (∃ o ∈ l, o.code = c ∧ ofL l c = o)
  | [], _ => Or.inl rfl
  | o :: r, c => by
    by_cases h : o.code = c
    · exact Or.inr ⟨o, List.mem_cons_self .., h, by show (if o.code = c then o else ofL r c) = o; rw [if_pos h]⟩
    · have e : ofL (o :: r) c = ofL r c := by show (if o.code = c then o else ofL r c) = _; rw [if_neg h]
      rw [e]
      rcases ofL_in r c with h1 | ⟨p, h1, h2, h3⟩
      · exact Or.inl h1
      · exact Or.inr ⟨p, List.mem_cons_of_mem _ h1, h2, h3⟩
theorem known_code {c : Int} (h : knownB c = true) : c ∈ vmCodes := by
  rcases ofL_in allL c with h1 | ⟨o, h1, h2, _⟩
  · unfold knownB at h; rw [h1] at h; exact absurd h (by decide)
  · have e : allL.map One.code = vmCodes := by kernel_rfl
    rw [← e, ← h2]
    exact List.mem_map.2 ⟨o, h1, rfl⟩
theorem code_known {c : Int} (h : c ∈ vmCodes) : knownB c = true := by
  have e : vmCodes.all knownB = true := by decide +kernel
  exact List.all_eq_true.1 e c h
theorem op_code {c : Int} (h0 : 0 ≤ c) (h : isOp c = true) : c ∈ vmCodes := by
  unfold isOp at h
  simp at h
  have : c = 4 ∨ c = 20 ∨ c = 36 ∨ c = 52 ∨ c = 68 ∨ c = 84 ∨ c = 100 ∨ c = 116 ∨ c = 164 := by omega
  rcases this with rfl | rfl | rfl | rfl | rfl | rfl | rfl | rfl | rfl <;> decide
theorem opx_code {c : Int} (h0 : 0 ≤ c) (h : isOpX c = true) : c ∈ vmCodes := by
  unfold isOpX at h
  simp at h
  have : c = 12 ∨ c = 28 ∨ c = 44 ∨ c = 60 ∨ c = 76 ∨ c = 92 ∨ c = 108 ∨ c = 124 ∨ c = 172 := by omega
  rcases this with rfl | rfl | rfl | rfl | rfl | rfl | rfl | rfl | rfl <;> decide
theorem cmp_code {c : Int} (h0 : 0 ≤ c) (h : isCmp c = true) : c ∈ vmCodes := by
  unfold isCmp at h
  simp at h
  have : c = 21 ∨ c = 37 ∨ c = 53 ∨ c = 69 := by omega
  rcases this with rfl | rfl | rfl | rfl <;> decide
theorem cmpx_code {c : Int} (h0 : 0 ≤ c) (h : isCmpX c = true) : c ∈ vmCodes := by
  unfold isCmpX at h
  simp at h
  have : c = 29 ∨ c = 45 ∨ c = 61 ∨ c = 77 := by omega
  rcases this with rfl | rfl | rfl | rfl <;> decide
theorem doI_unknown {i : Ins} (hi : i.Ok) (h : knownB i.c = false) (d : Dat) (a x : Int) (c : Nat → Int) : doI i d a x c = .bad 40 := by
  have hn : i.c ∉ vmCodes := fun hm => by rw [code_known hm] at h; cases h
  have h0 := hi.c0
  have q1 : isOp i.c = false := Bool.eq_false_iff.2 fun e => hn (op_code h0 e)
  have q2 : isOpX i.c = false := Bool.eq_false_iff.2 fun e => hn (opx_code h0 e)
  have q3 : isCmp i.c = false := Bool.eq_false_iff.2 fun e => hn (cmp_code h0 e)
  have q4 : isCmpX i.c = false := Bool.eq_false_iff.2 fun e => hn (cmpx_code h0 e)
  unfold doI
  rw [if_neg (fun e => hn (by rw [e]; decide) : ¬ i.c = 0x20)]
  rw [if_neg (fun e => hn (by rw [e]; decide) : ¬ i.c = 0x80)]
  rw [if_neg (fun e => hn (by rw [e]; decide) : ¬ i.c = 0)]
  rw [if_neg (fun e => hn (by rw [e]; decide) : ¬ i.c = 0x60)]
  rw [if_neg (fun e => hn (by rw [e]; decide) : ¬ i.c = 0x81)]
  rw [if_neg (fun e => hn (by rw [e]; decide) : ¬ i.c = 1)]
  rw [if_neg (fun e => hn (by rw [e]; decide) : ¬ i.c = 0x61)]
  rw [if_neg (fun e => hn (by rw [e]; decide) : ¬ i.c = 2)]
  rw [if_neg (fun e => hn (by rw [e]; decide) : ¬ i.c = 3)]
  rw [if_neg (fun e => hn (by rw [e]; decide) : ¬ i.c = 0x84)]
  rw [if_neg (fun e => hn (by rw [e]; decide) : ¬ i.c = 5)]
  rw [if_neg (fun e => hn (by rw [e]; decide) : ¬ i.c = 6)]
  rw [if_neg (fun e => hn (by rw [e]; decide) : ¬ i.c = 0x16)]
  rw [if_neg (fun e => hn (by rw [e]; decide) : ¬ i.c = 7)]
  rw [if_neg (fun e => hn (by rw [e]; decide) : ¬ i.c = 0x87)]
  rw [q1, q2, q3, q4]; rfl
end Go.Proofs.YtohfampfnhfnlaaDoor
