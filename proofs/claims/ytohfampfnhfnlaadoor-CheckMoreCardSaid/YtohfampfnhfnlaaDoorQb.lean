/- What the small calls of the landed package cells return: whether a program is too long, the set of one cell, the cells that an instruction writes and reads; the iterators themselves. No condition. What the landed iterator over the numbers of instructions that may be skipped hands over: as the chapter says, in order. Condition: an instruction. What the landed iterator over an instruction's successors hands over: as the chapter says, in order. Condition: a program of at most MaxInsns instructions. -/
import Derived.Test.YtohfampfnhfnlaaDoorQa
import Derived.Test.YtohfampfnhfnlaaDoorOf
import Derived.Test.YtohfampfnhfnlaaDoorIs
import Derived.Laws.Shifts
import Derived.RegionIn
import Derived.IntWalk
import Derived.Shelf.Abstract
namespace Go.Proofs.YtohfampfnhfnlaaDoor
open Go.RowKit
set_option linter.unusedVariables false
attribute [local go_sem ↓] Go.wp_at_zero Go.wp_at_succ

/-- The set of one cell; of a number that is no cell's, none. -/
def bitN (k : Int) : Nat := if k < 16 then 2 ^ k.toNat else 0
def writesN (i : Ins) : Nat := if i.c = 2 ∨ i.c = 3 then bitN i.k else 0
def readsN (i : Ins) : Nat := if i.c = 96 ∨ i.c = 97 then bitN i.k else 0
theorem tooLong_call (a0 : Option Addr) (n cap : Nat) (w : World) : Calls Tryd.prog 52 #[.slice a0 n cap] w fun e w' => e = .returned (.bool (decide ((4096 : Int) < n))) ∧ w = w' := by
  go_enter Tryd.func52, Tryd.ntmps52
  go_wp2
  go_ret
  exact ⟨rfl, rfl⟩
theorem wrap_pow : ∀ {k : Nat}, k < 16 → IntKind.u16.wrap (((2 : Nat) ^ k : Nat) : Int) = (((2 : Nat) ^ k : Nat) : Int) := by
  intro k hk
  have : (2 : Nat) ^ k ≤ 2 ^ 15 := Nat.pow_le_pow_right (by decide) (by omega)
  generalize (2 : Nat) ^ k = y at this
  rw [IntKind.wrap_u16]; omega
theorem bit_in (k : Nat) (hk : k < 16) (w : World) : Calls Tryd.prog 56 #[.int .u32 k] w fun e w' => e = .returned (.int .u16 (bitN k : Nat)) ∧ w = w' := by
  have k1 : decide ((16 : Int) ≤ k) = false := decide_eq_false (by omega)
  have k2 : ¬ (16 : Int) ≤ k := by omega
  have k0 : (0 : Int) ≤ k := by omega
  have hb : bitN k = 2 ^ k := by unfold bitN; rw [if_pos (by omega), Int.toNat_natCast]
  rw [hb]
  obtain ⟨y, hy⟩ : ∃ y : Nat, y = 2 ^ k := ⟨_, rfl⟩
  have hw : IntKind.u16.wrap ((2 : Int) ^ k) = y := by rw [hy, ← wrap_pow hk]; simp
  rw [← hy]
  clear hb hy hk
  go_enter Tryd.func56, Tryd.ntmps56
  go_wp2
  go_ret
  exact ⟨by rw [← hw]; rfl, rfl⟩
theorem bit_out (k : Int) (hk : 16 ≤ k) (w : World) : Calls Tryd.prog 56 #[.int .u32 k] w fun e w' => e = .returned (.int .u16 (bitN k : Nat)) ∧ w = w' := by
  have hb : bitN k = 0 := by unfold bitN; rw [if_neg (by omega)]
  rw [hb]
  clear hb
  go_enter Tryd.func56, Tryd.ntmps56
  go_wp2
  go_ret
  exact ⟨rfl, rfl⟩
theorem bit_any (k : Int) (k0 : 0 ≤ k) (w : World) : Calls Tryd.prog 56 #[.int .u32 k] w fun e w' => e = .returned (.int .u16 (bitN k : Nat)) ∧ w = w' := by
  by_cases h : 16 ≤ k
  · exact bit_out k h w
  · obtain ⟨m, rfl⟩ := Int.eq_ofNat_of_zero_le k0
    exact bit_in m (by omega) w
theorem written_0 (jt jf k : Int) (k0 : 0 ≤ k) (w : World) : Calls Tryd.prog 55 #[.agg #[.int .u16 2, .int .u8 jt, .int .u8 jf, .int .u32 k]] w fun e w' => e = .returned (.int .u16 (bitN k : Nat)) ∧ w' = w.alloc (.cells #[.int .u16 2, .int .u8 jt, .int .u8 jf, .int .u32 k] 35) := by
  have HB := Lib.hid (fun W => bit_any k k0 W)
  obtain ⟨y, hy⟩ : ∃ y : Nat, y = bitN k := ⟨_, rfl⟩
  rw [← hy] at HB ⊢
  clear hy k0
  go_enter Tryd.func55, Tryd.ntmps55
  go_wp2_with (go_at_call 56; ((with_reducible refine (HB.out _).mono ?_); rintro e w1 ⟨rfl, rfl⟩))
  go_ret
  exact ⟨rfl, rfl⟩
theorem written_1 (jt jf k : Int) (k0 : 0 ≤ k) (w : World) : Calls Tryd.prog 55 #[.agg #[.int .u16 3, .int .u8 jt, .int .u8 jf, .int .u32 k]] w fun e w' => e = .returned (.int .u16 (bitN k : Nat)) ∧ w' = w.alloc (.cells #[.int .u16 3, .int .u8 jt, .int .u8 jf, .int .u32 k] 35) := by
  have HB := Lib.hid (fun W => bit_any k k0 W)
  obtain ⟨y, hy⟩ : ∃ y : Nat, y = bitN k := ⟨_, rfl⟩
  rw [← hy] at HB ⊢
  clear hy k0
  go_enter Tryd.func55, Tryd.ntmps55
  go_wp2_with (go_at_call 56; ((with_reducible refine (HB.out _).mono ?_); rintro e w1 ⟨rfl, rfl⟩))
  go_ret
  exact ⟨rfl, rfl⟩
theorem written_no (c jt jf k : Int) (h2 : c ≠ 2) (h3 : c ≠ 3) (w : World) : Calls Tryd.prog 55 #[.agg #[.int .u16 c, .int .u8 jt, .int .u8 jf, .int .u32 k]] w fun e w' => e = .returned (.int .u16 0) ∧ w' = w.alloc (.cells #[.int .u16 c, .int .u8 jt, .int .u8 jf, .int .u32 k] 35) := by
  have e2 : (c == 2) = false := beq_eq_false_iff_ne.2 h2
  have e3 : (c == 3) = false := beq_eq_false_iff_ne.2 h3
  clear h2 h3
  go_enter Tryd.func55, Tryd.ntmps55
  go_wp2
  go_ret
  exact ⟨rfl, rfl⟩
theorem written_any (i : Ins) (hi : i.Ok) (w : World) : Calls Tryd.prog 55 #[.agg #[.int .u16 i.c, .int .u8 i.jt, .int .u8 i.jf, .int .u32 i.k]] w fun e w' => e = .returned (.int .u16 (writesN i : Nat)) ∧ w' = w.alloc (.cells #[.int .u16 i.c, .int .u8 i.jt, .int .u8 i.jf, .int .u32 i.k] 35) := by
  obtain ⟨c, jt, jf, k⟩ := i
  obtain ⟨c0, c1, t0, t1, f0, f1, k0, k1⟩ := hi
  simp only at k0 ⊢
  by_cases h2 : c = 2
  · subst h2
    have := written_0 jt jf k k0 w
    rwa [show bitN k = writesN ⟨2, jt, jf, k⟩ from by unfold writesN; rw [if_pos (Or.inl rfl)]] at this
  · by_cases h3 : c = 3
    · subst h3
      have := written_1 jt jf k k0 w
      rwa [show bitN k = writesN ⟨3, jt, jf, k⟩ from by unfold writesN; rw [if_pos (Or.inr rfl)]] at this
    · have := written_no c jt jf k h2 h3 w
      rwa [show (0 : Int) = ((writesN ⟨c, jt, jf, k⟩ : Nat) : Int) from by unfold writesN; rw [if_neg (fun h => h.elim h2 h3)]; rfl] at this
theorem read_0 (jt jf k : Int) (k0 : 0 ≤ k) (w : World) : Calls Tryd.prog 33 #[.agg #[.int .u16 96, .int .u8 jt, .int .u8 jf, .int .u32 k]] w fun e w' => e = .returned (.int .u16 (bitN k : Nat)) ∧ w' = w.alloc (.cells #[.int .u16 96, .int .u8 jt, .int .u8 jf, .int .u32 k] 35) := by
  have HB := Lib.hid (fun W => bit_any k k0 W)
  obtain ⟨y, hy⟩ : ∃ y : Nat, y = bitN k := ⟨_, rfl⟩
  rw [← hy] at HB ⊢
  clear hy k0
  go_enter Tryd.func33, Tryd.ntmps33
  go_wp2_with (go_at_call 56; ((with_reducible refine (HB.out _).mono ?_); rintro e w1 ⟨rfl, rfl⟩))
  go_ret
  exact ⟨rfl, rfl⟩
theorem read_1 (jt jf k : Int) (k0 : 0 ≤ k) (w : World) : Calls Tryd.prog 33 #[.agg #[.int .u16 97, .int .u8 jt, .int .u8 jf, .int .u32 k]] w fun e w' => e = .returned (.int .u16 (bitN k : Nat)) ∧ w' = w.alloc (.cells #[.int .u16 97, .int .u8 jt, .int .u8 jf, .int .u32 k] 35) := by
  have HB := Lib.hid (fun W => bit_any k k0 W)
  obtain ⟨y, hy⟩ : ∃ y : Nat, y = bitN k := ⟨_, rfl⟩
  rw [← hy] at HB ⊢
  clear hy k0
  go_enter Tryd.func33, Tryd.ntmps33
  go_wp2_with (go_at_call 56; ((with_reducible refine (HB.out _).mono ?_); rintro e w1 ⟨rfl, rfl⟩))
  go_ret
  exact ⟨rfl, rfl⟩
theorem read_no (c jt jf k : Int) (h2 : c ≠ 96) (h3 : c ≠ 97) (w : World) : Calls Tryd.prog 33 #[.agg #[.int .u16 c, .int .u8 jt, .int .u8 jf, .int .u32 k]] w fun e w' => e = .returned (.int .u16 0) ∧ w' = w.alloc (.cells #[.int .u16 c, .int .u8 jt, .int .u8 jf, .int .u32 k] 35) := by
  have e2 : (c == 96) = false := beq_eq_false_iff_ne.2 h2
  have e3 : (c == 97) = false := beq_eq_false_iff_ne.2 h3
  clear h2 h3
  go_enter Tryd.func33, Tryd.ntmps33
  go_wp2
  go_ret
  exact ⟨rfl, rfl⟩
theorem read_any (i : Ins) (hi : i.Ok) (w : World) : Calls Tryd.prog 33 #[.agg #[.int .u16 i.c, .int .u8 i.jt, .int .u8 i.jf, .int .u32 i.k]] w fun e w' => e = .returned (.int .u16 (readsN i : Nat)) ∧ w' = w.alloc (.cells #[.int .u16 i.c, .int .u8 i.jt, .int .u8 i.jf, .int .u32 i.k] 35) := by
  obtain ⟨c, jt, jf, k⟩ := i
  obtain ⟨c0, c1, t0, t1, f0, f1, k0, k1⟩ := hi
  simp only at k0 ⊢
  by_cases h2 : c = 96
  · subst h2
    have := read_0 jt jf k k0 w
    rwa [show bitN k = readsN ⟨96, jt, jf, k⟩ from by unfold readsN; rw [if_pos (Or.inl rfl)]] at this
  · by_cases h3 : c = 97
    · subst h3
      have := read_1 jt jf k k0 w
      rwa [show bitN k = readsN ⟨97, jt, jf, k⟩ from by unfold readsN; rw [if_pos (Or.inr rfl)]] at this
    · have := read_no c jt jf k h2 h3 w
      rwa [show (0 : Int) = ((readsN ⟨c, jt, jf, k⟩ : Nat) : Int) from by unfold readsN; rw [if_neg (fun h => h.elim h2 h3)]; rfl] at this
theorem skips_call (i : Ins) (w : World) : Calls Tryd.prog 79 #[.agg #[.int .u16 i.c, .int .u8 i.jt, .int .u8 i.jf, .int .u32 i.k]] w fun e w' =>
    e = .returned (.func (.func 86) #[] #[.pointer (some ⟨w.heap.size, 0, none⟩)]) ∧ w' = w.alloc (.cells #[.int .u16 i.c, .int .u8 i.jt, .int .u8 i.jf, .int .u32 i.k] 35) := by
  go_enter Tryd.func79, Tryd.ntmps79
  go_wp2
  go_ret
  exact ⟨rfl, rfl⟩
theorem successors_call (p : Option Addr) (n c : Nat) (at_ : Int) (w : World) : Calls Tryd.prog 54 #[.slice p n c, .int .i64 at_] w fun e w' =>
    e = .returned (.func (.func 78) #[] #[.pointer (some ⟨w.heap.size + 1, 0, none⟩), .pointer (some ⟨w.heap.size, 0, none⟩)]) ∧ w' = (w.alloc (.cells #[.slice p n c] 22)).alloc (.cells #[.int .i64 at_] 3) := by
  go_enter Tryd.func54, Tryd.ntmps54
  go_wp2
  go_ret
  exact ⟨rfl, rfl⟩
end Go.Proofs.YtohfampfnhfnlaaDoor
namespace Go.Proofs.YtohfampfnhfnlaaDoor
open Go.RowKit
set_option linter.unusedVariables false
attribute [local go_sem] Oper.semAt_some

theorem grown_below {w w' : World} (b : Below w.heap.size w w') : w.grownBy w' none := ⟨b.os, b.tape, b.output, b.size, fun k hk _ => b.block k hk⟩
theorem own_from_on {β : Type} {B : Nat} {J : β → World → Prop} (h : OwnFrom B J) {s : β} {w w' : World} (hs : J s w) (b : Below w.heap.size w w') : J s w' := h s w w' none hs (grown_below b) (fun r e => by cases e)
/-- How many instructions may be skipped, in ascending order, each once. -/
def skipsL (i : Ins) : List Nat :=
  if clsI i.c = 0 ∨ clsI i.c = 5 then [] else if clsI i.c = 4 then (if i.c = 5 then [i.k.toNat] else if i.jt = i.jf then [i.jt.toNat] else [min i.jt.toNat i.jf.toNat, max i.jt.toNat i.jf.toNat]) else [0]
def u64V (l : List Nat) : List Value := l.map fun x => .int .u64 ((x : Nat) : Int)
set_option maxRecDepth 100000 in
set_option maxHeartbeats 4000000 in
theorem skips_none0 {Bi : Nat} {S : Nat → Prop} {c jt jf k : Int} (cl : Int) {w0 : World} (hi : Ins.Ok ⟨c, jt, jf, k⟩) (hG : GW w0) (hB : Bi < w0.heap.size) (hat : InsAt w0 Bi 0 ⟨c, jt, jf, k⟩) (hcl : clsI c = cl) (h : cl = 0) :
    Gives Tryd.prog 86 #[.pointer (some ⟨Bi, 0, none⟩)] 0 S [] w0 := by
  intro l J Jx W hW hJ hJx hY h0
  obtain ⟨q0, q1, q2, q3⟩ := hat
  obtain ⟨c0, c1, t0, t1, f0, f1, k0, k1⟩ := hi
  simp only at q0 q1 q2 q3 c0 c1 t0 t1 f0 f1 k0 k1
  have r0 := (hW.cell (p := ⟨Bi, 0, none⟩) hB).trans q0
  have r1 := (hW.cell (p := ⟨Bi, 0 + 1, none⟩) hB).trans q1
  have r2 := (hW.cell (p := ⟨Bi, 0 + 2, none⟩) hB).trans q2
  have r3 := (hW.cell (p := ⟨Bi, 0 + 3, none⟩) hB).trans q3
  have hBW : Bi < W.heap.size := Nat.lt_of_lt_of_le hB hW.size
  have HO := Lib.hid (fun W (hG : GW W) => ofC c W hG c0 c1)
  rw [show (ofL allL c).cls = cl from hcl] at HO
  have HG := Lib.hid (hG.on hW)
  have HJ := Lib.hid hJ
  have HY := Lib.hid hY
  clear hY hJ hJx hG hW hB q0 q1 q2 q3 hcl c0 c1
  subst h
  refine (callsIn_wide (n := 4)).1 ?_
  refine callsIn_of_wp Tryd.func86 rfl trivial ?_ rfl
  simp only [Tryd.ntmps86, List.size_toArray, List.length_cons, List.length_nil, Nat.reduceAdd, Nat.reduceSub, Array.replicate_succ, Array.replicate_zero, List.push_toArray, List.append_toArray, List.nil_append, List.cons_append]
  gi_wp2_with (refine ⟨trivial, ?_⟩
               gi_at_call 20
               refine (callsIn_wide.2 (HO.out _ HG.out)).mono ?_
               rintro e w1 ⟨rfl, b1⟩
               have s0 := (b1.cell (p := ⟨Bi, 0, none⟩) hBW).trans r0
               have s1 := (b1.cell (p := ⟨Bi, 0 + 1, none⟩) hBW).trans r1
               have s2 := (b1.cell (p := ⟨Bi, 0 + 2, none⟩) hBW).trans r2
               have s3 := (b1.cell (p := ⟨Bi, 0 + 3, none⟩) hBW).trans r3
               have j1 := own_from_on HJ.out h0 b1
               have z1 := b1.size
               have z2 : w1.drew.heap.size = w1.heap.size := rfl
               skip)
  go_end0
  exact ⟨⟨_, rfl⟩, .inl j1⟩
set_option maxRecDepth 100000 in
set_option maxHeartbeats 4000000 in
theorem skips_none5 {Bi : Nat} {S : Nat → Prop} {c jt jf k : Int} (cl : Int) {w0 : World} (hi : Ins.Ok ⟨c, jt, jf, k⟩) (hG : GW w0) (hB : Bi < w0.heap.size) (hat : InsAt w0 Bi 0 ⟨c, jt, jf, k⟩) (hcl : clsI c = cl) (h : cl = 5) :
    Gives Tryd.prog 86 #[.pointer (some ⟨Bi, 0, none⟩)] 0 S [] w0 := by
  intro l J Jx W hW hJ hJx hY h0
  obtain ⟨q0, q1, q2, q3⟩ := hat
  obtain ⟨c0, c1, t0, t1, f0, f1, k0, k1⟩ := hi
  simp only at q0 q1 q2 q3 c0 c1 t0 t1 f0 f1 k0 k1
  have r0 := (hW.cell (p := ⟨Bi, 0, none⟩) hB).trans q0
  have r1 := (hW.cell (p := ⟨Bi, 0 + 1, none⟩) hB).trans q1
  have r2 := (hW.cell (p := ⟨Bi, 0 + 2, none⟩) hB).trans q2
  have r3 := (hW.cell (p := ⟨Bi, 0 + 3, none⟩) hB).trans q3
  have hBW : Bi < W.heap.size := Nat.lt_of_lt_of_le hB hW.size
  have HO := Lib.hid (fun W (hG : GW W) => ofC c W hG c0 c1)
  rw [show (ofL allL c).cls = cl from hcl] at HO
  have HG := Lib.hid (hG.on hW)
  have HJ := Lib.hid hJ
  have HY := Lib.hid hY
  clear hY hJ hJx hG hW hB q0 q1 q2 q3 hcl c0 c1
  subst h
  refine (callsIn_wide (n := 4)).1 ?_
  refine callsIn_of_wp Tryd.func86 rfl trivial ?_ rfl
  simp only [Tryd.ntmps86, List.size_toArray, List.length_cons, List.length_nil, Nat.reduceAdd, Nat.reduceSub, Array.replicate_succ, Array.replicate_zero, List.push_toArray, List.append_toArray, List.nil_append, List.cons_append]
  gi_wp2_with (refine ⟨trivial, ?_⟩
               gi_at_call 20
               refine (callsIn_wide.2 (HO.out _ HG.out)).mono ?_
               rintro e w1 ⟨rfl, b1⟩
               have s0 := (b1.cell (p := ⟨Bi, 0, none⟩) hBW).trans r0
               have s1 := (b1.cell (p := ⟨Bi, 0 + 1, none⟩) hBW).trans r1
               have s2 := (b1.cell (p := ⟨Bi, 0 + 2, none⟩) hBW).trans r2
               have s3 := (b1.cell (p := ⟨Bi, 0 + 3, none⟩) hBW).trans r3
               have j1 := own_from_on HJ.out h0 b1
               have z1 := b1.size
               have z2 : w1.drew.heap.size = w1.heap.size := rfl
               skip)
  go_end0
  exact ⟨⟨_, rfl⟩, .inl j1⟩
set_option maxRecDepth 100000 in
set_option maxHeartbeats 4000000 in
theorem skips_plain {Bi : Nat} {S : Nat → Prop} {c jt jf k : Int} (cl : Int) {w0 : World} (hi : Ins.Ok ⟨c, jt, jf, k⟩) (hG : GW w0) (hB : Bi < w0.heap.size) (hat : InsAt w0 Bi 0 ⟨c, jt, jf, k⟩) (hcl : clsI c = cl) (h0' : cl ≠ 0) (h4' : cl ≠ 4) (h5' : cl ≠ 5) :
    Gives Tryd.prog 86 #[.pointer (some ⟨Bi, 0, none⟩)] 0 S [.int .u64 0] w0 := by
  intro l J Jx W hW hJ hJx hY h0
  obtain ⟨q0, q1, q2, q3⟩ := hat
  obtain ⟨c0, c1, t0, t1, f0, f1, k0, k1⟩ := hi
  simp only at q0 q1 q2 q3 c0 c1 t0 t1 f0 f1 k0 k1
  have r0 := (hW.cell (p := ⟨Bi, 0, none⟩) hB).trans q0
  have r1 := (hW.cell (p := ⟨Bi, 0 + 1, none⟩) hB).trans q1
  have r2 := (hW.cell (p := ⟨Bi, 0 + 2, none⟩) hB).trans q2
  have r3 := (hW.cell (p := ⟨Bi, 0 + 3, none⟩) hB).trans q3
  have hBW : Bi < W.heap.size := Nat.lt_of_lt_of_le hB hW.size
  have HO := Lib.hid (fun W (hG : GW W) => ofC c W hG c0 c1)
  rw [show (ofL allL c).cls = cl from hcl] at HO
  have HG := Lib.hid (hG.on hW)
  have HJ := Lib.hid hJ
  have HY := Lib.hid hY
  clear hY hJ hJx hG hW hB q0 q1 q2 q3 hcl c0 c1
  have e0 : (cl == 0) = false := beq_eq_false_iff_ne.2 h0'
  have e4 : (cl == 4) = false := beq_eq_false_iff_ne.2 h4'
  have e5 : (cl == 5) = false := beq_eq_false_iff_ne.2 h5'
  clear h0' h4' h5'
  refine (callsIn_wide (n := 4)).1 ?_
  refine callsIn_of_wp Tryd.func86 rfl trivial ?_ rfl
  simp only [Tryd.ntmps86, List.size_toArray, List.length_cons, List.length_nil, Nat.reduceAdd, Nat.reduceSub, Array.replicate_succ, Array.replicate_zero, List.push_toArray, List.append_toArray, List.nil_append, List.cons_append]
  gi_wp2_with (refine ⟨trivial, ?_⟩
               gi_at_call 20
               refine (callsIn_wide.2 (HO.out _ HG.out)).mono ?_
               rintro e w1 ⟨rfl, b1⟩
               have s0 := (b1.cell (p := ⟨Bi, 0, none⟩) hBW).trans r0
               have s1 := (b1.cell (p := ⟨Bi, 0 + 1, none⟩) hBW).trans r1
               have s2 := (b1.cell (p := ⟨Bi, 0 + 2, none⟩) hBW).trans r2
               have s3 := (b1.cell (p := ⟨Bi, 0 + 3, none⟩) hBW).trans r3
               have j1 := own_from_on HJ.out h0 b1
               have z1 := b1.size
               have z2 : w1.drew.heap.size = w1.heap.size := rfl
               obtain ⟨fn0, tmps0, assign0, body0, hy0, hR0⟩ := HY.out 0 (.int .u64 0) w1 rfl j1 (by omega))
  refine hR0.mono ?_
  rintro e W3 ⟨_, ⟨rfl, hJ3, _⟩ | ⟨rfl, hJx3⟩⟩
  · gi_wp2
    go_end0
    exact ⟨⟨_, rfl⟩, .inl hJ3⟩
  · gi_wp2
    go_end0
    exact ⟨⟨_, rfl⟩, .inr ⟨_, hJx3⟩⟩

set_option maxRecDepth 100000 in
set_option maxHeartbeats 4000000 in
theorem skips_ja {Bi : Nat} {S : Nat → Prop} {c jt jf k : Int} (cl : Int) {w0 : World} (hi : Ins.Ok ⟨c, jt, jf, k⟩) (hG : GW w0) (hB : Bi < w0.heap.size) (hat : InsAt w0 Bi 0 ⟨c, jt, jf, k⟩) (hcl : clsI c = cl) (h4' : cl = 4) (h5' : c = 5) (kn : Nat) (hk : k = kn) :
    Gives Tryd.prog 86 #[.pointer (some ⟨Bi, 0, none⟩)] 0 S [.int .u64 (kn : Int)] w0 := by
  intro l J Jx W hW hJ hJx hY h0
  obtain ⟨q0, q1, q2, q3⟩ := hat
  obtain ⟨c0, c1, t0, t1, f0, f1, k0, k1⟩ := hi
  simp only at q0 q1 q2 q3 c0 c1 t0 t1 f0 f1 k0 k1
  have r0 := (hW.cell (p := ⟨Bi, 0, none⟩) hB).trans q0
  have r1 := (hW.cell (p := ⟨Bi, 0 + 1, none⟩) hB).trans q1
  have r2 := (hW.cell (p := ⟨Bi, 0 + 2, none⟩) hB).trans q2
  have r3 := (hW.cell (p := ⟨Bi, 0 + 3, none⟩) hB).trans q3
  have hBW : Bi < W.heap.size := Nat.lt_of_lt_of_le hB hW.size
  have HO := Lib.hid (fun W (hG : GW W) => ofC c W hG c0 c1)
  rw [show (ofL allL c).cls = cl from hcl] at HO
  have HG := Lib.hid (hG.on hW)
  have HJ := Lib.hid hJ
  have HY := Lib.hid hY
  clear hY hJ hJx hG hW hB q0 q1 q2 q3 hcl c0 c1
  subst h4' h5' hk
  have hw : IntKind.u64.wrap (kn : Int) = kn := by rw [IntKind.wrap_u64]; omega
  refine (callsIn_wide (n := 4)).1 ?_
  refine callsIn_of_wp Tryd.func86 rfl trivial ?_ rfl
  simp only [Tryd.ntmps86, List.size_toArray, List.length_cons, List.length_nil, Nat.reduceAdd, Nat.reduceSub, Array.replicate_succ, Array.replicate_zero, List.push_toArray, List.append_toArray, List.nil_append, List.cons_append]
  gi_wp2_with (refine ⟨trivial, ?_⟩
               gi_at_call 20
               refine (callsIn_wide.2 (HO.out _ HG.out)).mono ?_
               rintro e w1 ⟨rfl, b1⟩
               have s0 := (b1.cell (p := ⟨Bi, 0, none⟩) hBW).trans r0
               have s1 := (b1.cell (p := ⟨Bi, 0 + 1, none⟩) hBW).trans r1
               have s2 := (b1.cell (p := ⟨Bi, 0 + 2, none⟩) hBW).trans r2
               have s3 := (b1.cell (p := ⟨Bi, 0 + 3, none⟩) hBW).trans r3
               have j1 := own_from_on HJ.out h0 b1
               have z1 := b1.size
               have z2 : w1.drew.heap.size = w1.heap.size := rfl
               obtain ⟨fn0, tmps0, assign0, body0, hy0, hR0⟩ := HY.out 0 (.int .u64 (kn : Int)) w1 rfl j1 (by omega))
  refine hR0.mono ?_
  rintro e W3 ⟨_, ⟨rfl, hJ3, _⟩ | ⟨rfl, hJx3⟩⟩
  · gi_wp2
    refine bodyPost_ret (results_none rfl _ _ _) rfl ?_
    exact ⟨⟨_, rfl⟩, .inl hJ3⟩
  · gi_wp2
    refine bodyPost_ret (results_none rfl _ _ _) rfl ?_
    exact ⟨⟨_, rfl⟩, .inr ⟨_, hJx3⟩⟩

set_option maxRecDepth 100000 in
set_option maxHeartbeats 4000000 in
theorem skips_eq {Bi : Nat} {S : Nat → Prop} {c jt jf k : Int} (cl : Int) {w0 : World} (hi : Ins.Ok ⟨c, jt, jf, k⟩) (hG : GW w0) (hB : Bi < w0.heap.size) (hat : InsAt w0 Bi 0 ⟨c, jt, jf, k⟩) (hcl : clsI c = cl) (h4' : cl = 4) (h5' : c ≠ 5) (tn fn : Nat) (ht : jt = tn) (hf : jf = tn) :
    Gives Tryd.prog 86 #[.pointer (some ⟨Bi, 0, none⟩)] 0 S [.int .u64 (tn : Int)] w0 := by
  intro l J Jx W hW hJ hJx hY h0
  obtain ⟨q0, q1, q2, q3⟩ := hat
  obtain ⟨c0, c1, t0, t1, f0, f1, k0, k1⟩ := hi
  simp only at q0 q1 q2 q3 c0 c1 t0 t1 f0 f1 k0 k1
  have r0 := (hW.cell (p := ⟨Bi, 0, none⟩) hB).trans q0
  have r1 := (hW.cell (p := ⟨Bi, 0 + 1, none⟩) hB).trans q1
  have r2 := (hW.cell (p := ⟨Bi, 0 + 2, none⟩) hB).trans q2
  have r3 := (hW.cell (p := ⟨Bi, 0 + 3, none⟩) hB).trans q3
  have hBW : Bi < W.heap.size := Nat.lt_of_lt_of_le hB hW.size
  have HO := Lib.hid (fun W (hG : GW W) => ofC c W hG c0 c1)
  rw [show (ofL allL c).cls = cl from hcl] at HO
  have HG := Lib.hid (hG.on hW)
  have HJ := Lib.hid hJ
  have HY := Lib.hid hY
  clear hY hJ hJx hG hW hB q0 q1 q2 q3 hcl c0 c1
  subst h4' ht hf
  have e5 : (c == 5) = false := beq_eq_false_iff_ne.2 h5'
  have hw1 : IntKind.u64.wrap (tn : Int) = tn := by rw [IntKind.wrap_u64]; omega
  have e6 : decide ((tn : Int) < tn) = false := decide_eq_false (by omega)
  clear h5'
  refine (callsIn_wide (n := 4)).1 ?_
  refine callsIn_of_wp Tryd.func86 rfl trivial ?_ rfl
  simp only [Tryd.ntmps86, List.size_toArray, List.length_cons, List.length_nil, Nat.reduceAdd, Nat.reduceSub, Array.replicate_succ, Array.replicate_zero, List.push_toArray, List.append_toArray, List.nil_append, List.cons_append]
  gi_wp2_with (refine ⟨trivial, ?_⟩
               gi_at_call 20
               refine (callsIn_wide.2 (HO.out _ HG.out)).mono ?_
               rintro e w1 ⟨rfl, b1⟩
               have s0 := (b1.cell (p := ⟨Bi, 0, none⟩) hBW).trans r0
               have s1 := (b1.cell (p := ⟨Bi, 0 + 1, none⟩) hBW).trans r1
               have s2 := (b1.cell (p := ⟨Bi, 0 + 2, none⟩) hBW).trans r2
               have s3 := (b1.cell (p := ⟨Bi, 0 + 3, none⟩) hBW).trans r3
               have j1 := own_from_on HJ.out h0 b1
               have z1 := b1.size
               have z2 : w1.drew.heap.size = w1.heap.size := rfl
               skip)
  gi_region
  obtain ⟨fn0, tmps0, assign0, body0, hy0, hR0⟩ := HY.out 0 (.int .u64 (tn : Int)) w1.drew rfl (own_from_on HJ.out j1 (Below.refl _ _).drew) (by omega)
  gi_wp2
  refine hR0.mono ?_
  rintro e W3 ⟨_, ⟨rfl, hJ3, _⟩ | ⟨rfl, hJx3⟩⟩
  · gi_wp2
    go_end0
    exact ⟨⟨_, rfl⟩, .inl hJ3⟩
  · gi_wp2
    go_end0
    exact ⟨⟨_, rfl⟩, .inr ⟨_, hJx3⟩⟩

set_option maxRecDepth 100000 in
set_option maxHeartbeats 4000000 in
theorem skips_lt {Bi : Nat} {S : Nat → Prop} {c jt jf k : Int} (cl : Int) {w0 : World} (hi : Ins.Ok ⟨c, jt, jf, k⟩) (hG : GW w0) (hB : Bi < w0.heap.size) (hat : InsAt w0 Bi 0 ⟨c, jt, jf, k⟩) (hcl : clsI c = cl) (h4' : cl = 4) (h5' : c ≠ 5) (tn fn : Nat) (ht : jt = tn) (hf : jf = fn) (hlt : tn < fn) :
    Gives Tryd.prog 86 #[.pointer (some ⟨Bi, 0, none⟩)] 0 S [.int .u64 (tn : Int), .int .u64 (fn : Int)] w0 := by
  intro l J Jx W hW hJ hJx hY h0
  obtain ⟨q0, q1, q2, q3⟩ := hat
  obtain ⟨c0, c1, t0, t1, f0, f1, k0, k1⟩ := hi
  simp only at q0 q1 q2 q3 c0 c1 t0 t1 f0 f1 k0 k1
  have r0 := (hW.cell (p := ⟨Bi, 0, none⟩) hB).trans q0
  have r1 := (hW.cell (p := ⟨Bi, 0 + 1, none⟩) hB).trans q1
  have r2 := (hW.cell (p := ⟨Bi, 0 + 2, none⟩) hB).trans q2
  have r3 := (hW.cell (p := ⟨Bi, 0 + 3, none⟩) hB).trans q3
  have hBW : Bi < W.heap.size := Nat.lt_of_lt_of_le hB hW.size
  have HO := Lib.hid (fun W (hG : GW W) => ofC c W hG c0 c1)
  rw [show (ofL allL c).cls = cl from hcl] at HO
  have HG := Lib.hid (hG.on hW)
  have HJ := Lib.hid hJ
  have HY := Lib.hid hY
  clear hY hJ hJx hG hW hB q0 q1 q2 q3 hcl c0 c1
  subst h4' ht hf
  have e5 : (c == 5) = false := beq_eq_false_iff_ne.2 h5'
  have hw1 : IntKind.u64.wrap (tn : Int) = tn := by rw [IntKind.wrap_u64]; omega
  have hw2 : IntKind.u64.wrap (fn : Int) = fn := by rw [IntKind.wrap_u64]; omega
  have e6 : decide ((tn : Int) < fn) = true := decide_eq_true (by omega)
  have e7 : (tn : Int) < fn := by omega
  have m1 : min (tn : Int) fn = tn := by omega
  have m2 : max (tn : Int) fn = fn := by omega
  clear h5'
  refine (callsIn_wide (n := 4)).1 ?_
  refine callsIn_of_wp Tryd.func86 rfl trivial ?_ rfl
  simp only [Tryd.ntmps86, List.size_toArray, List.length_cons, List.length_nil, Nat.reduceAdd, Nat.reduceSub, Array.replicate_succ, Array.replicate_zero, List.push_toArray, List.append_toArray, List.nil_append, List.cons_append]
  gi_wp2_with (refine ⟨trivial, ?_⟩
               gi_at_call 20
               refine (callsIn_wide.2 (HO.out _ HG.out)).mono ?_
               rintro e w1 ⟨rfl, b1⟩
               have s0 := (b1.cell (p := ⟨Bi, 0, none⟩) hBW).trans r0
               have s1 := (b1.cell (p := ⟨Bi, 0 + 1, none⟩) hBW).trans r1
               have s2 := (b1.cell (p := ⟨Bi, 0 + 2, none⟩) hBW).trans r2
               have s3 := (b1.cell (p := ⟨Bi, 0 + 3, none⟩) hBW).trans r3
               have j1 := own_from_on HJ.out h0 b1
               have z1 := b1.size
               have z2 : w1.drew.heap.size = w1.heap.size := rfl
               skip)
  gi_region
  obtain ⟨fn0, tmps0, assign0, body0, hy0, hR0⟩ := HY.out 0 (.int .u64 (tn : Int)) w1.drew rfl (own_from_on HJ.out j1 (Below.refl _ _).drew) (by omega)
  gi_wp2
  refine hR0.mono ?_
  rintro e W3 ⟨_, ⟨rfl, hJ3, hk3⟩ | ⟨rfl, hJx3⟩⟩
  · obtain ⟨fn1, tmps1, assign1, body1, hy1, hR1⟩ := HY.out 1 (.int .u64 (fn : Int)) W3 rfl hJ3 (by have := hk3.1.size; have : w1.drew.heap.size = w1.heap.size := rfl; omega)
    gi_wp2
    refine hR1.mono ?_
    rintro e W4 ⟨_, ⟨rfl, hJ4, _⟩ | ⟨rfl, hJx4⟩⟩
    · gi_wp2
      go_end0
      exact ⟨⟨_, rfl⟩, .inl hJ4⟩
    · gi_wp2
      go_end0
      exact ⟨⟨_, rfl⟩, .inr ⟨_, hJx4⟩⟩
  · gi_wp2
    go_end0
    exact ⟨⟨_, rfl⟩, .inr ⟨_, hJx3⟩⟩

set_option maxRecDepth 100000 in
set_option maxHeartbeats 4000000 in
theorem skips_gt {Bi : Nat} {S : Nat → Prop} {c jt jf k : Int} (cl : Int) {w0 : World} (hi : Ins.Ok ⟨c, jt, jf, k⟩) (hG : GW w0) (hB : Bi < w0.heap.size) (hat : InsAt w0 Bi 0 ⟨c, jt, jf, k⟩) (hcl : clsI c = cl) (h4' : cl = 4) (h5' : c ≠ 5) (tn fn : Nat) (ht : jt = tn) (hf : jf = fn) (hlt : fn < tn) :
    Gives Tryd.prog 86 #[.pointer (some ⟨Bi, 0, none⟩)] 0 S [.int .u64 (fn : Int), .int .u64 (tn : Int)] w0 := by
  intro l J Jx W hW hJ hJx hY h0
  obtain ⟨q0, q1, q2, q3⟩ := hat
  obtain ⟨c0, c1, t0, t1, f0, f1, k0, k1⟩ := hi
  simp only at q0 q1 q2 q3 c0 c1 t0 t1 f0 f1 k0 k1
  have r0 := (hW.cell (p := ⟨Bi, 0, none⟩) hB).trans q0
  have r1 := (hW.cell (p := ⟨Bi, 0 + 1, none⟩) hB).trans q1
  have r2 := (hW.cell (p := ⟨Bi, 0 + 2, none⟩) hB).trans q2
  have r3 := (hW.cell (p := ⟨Bi, 0 + 3, none⟩) hB).trans q3
  have hBW : Bi < W.heap.size := Nat.lt_of_lt_of_le hB hW.size
  have HO := Lib.hid (fun W (hG : GW W) => ofC c W hG c0 c1)
  rw [show (ofL allL c).cls = cl from hcl] at HO
  have HG := Lib.hid (hG.on hW)
  have HJ := Lib.hid hJ
  have HY := Lib.hid hY
  clear hY hJ hJx hG hW hB q0 q1 q2 q3 hcl c0 c1
  subst h4' ht hf
  have e5 : (c == 5) = false := beq_eq_false_iff_ne.2 h5'
  have hw1 : IntKind.u64.wrap (tn : Int) = tn := by rw [IntKind.wrap_u64]; omega
  have hw2 : IntKind.u64.wrap (fn : Int) = fn := by rw [IntKind.wrap_u64]; omega
  have e6 : decide ((fn : Int) < tn) = true := decide_eq_true (by omega)
  have e7 : (fn : Int) < tn := by omega
  have m1 : min (tn : Int) fn = fn := by omega
  have m2 : max (tn : Int) fn = tn := by omega
  clear h5'
  refine (callsIn_wide (n := 4)).1 ?_
  refine callsIn_of_wp Tryd.func86 rfl trivial ?_ rfl
  simp only [Tryd.ntmps86, List.size_toArray, List.length_cons, List.length_nil, Nat.reduceAdd, Nat.reduceSub, Array.replicate_succ, Array.replicate_zero, List.push_toArray, List.append_toArray, List.nil_append, List.cons_append]
  gi_wp2_with (refine ⟨trivial, ?_⟩
               gi_at_call 20
               refine (callsIn_wide.2 (HO.out _ HG.out)).mono ?_
               rintro e w1 ⟨rfl, b1⟩
               have s0 := (b1.cell (p := ⟨Bi, 0, none⟩) hBW).trans r0
               have s1 := (b1.cell (p := ⟨Bi, 0 + 1, none⟩) hBW).trans r1
               have s2 := (b1.cell (p := ⟨Bi, 0 + 2, none⟩) hBW).trans r2
               have s3 := (b1.cell (p := ⟨Bi, 0 + 3, none⟩) hBW).trans r3
               have j1 := own_from_on HJ.out h0 b1
               have z1 := b1.size
               have z2 : w1.drew.heap.size = w1.heap.size := rfl
               skip)
  gi_region
  obtain ⟨fn0, tmps0, assign0, body0, hy0, hR0⟩ := HY.out 0 (.int .u64 (fn : Int)) w1.drew rfl (own_from_on HJ.out j1 (Below.refl _ _).drew) (by omega)
  gi_wp2
  refine hR0.mono ?_
  rintro e W3 ⟨_, ⟨rfl, hJ3, hk3⟩ | ⟨rfl, hJx3⟩⟩
  · obtain ⟨fn1, tmps1, assign1, body1, hy1, hR1⟩ := HY.out 1 (.int .u64 (tn : Int)) W3 rfl hJ3 (by have := hk3.1.size; have : w1.drew.heap.size = w1.heap.size := rfl; omega)
    gi_wp2
    refine hR1.mono ?_
    rintro e W4 ⟨_, ⟨rfl, hJ4, _⟩ | ⟨rfl, hJx4⟩⟩
    · gi_wp2
      go_end0
      exact ⟨⟨_, rfl⟩, .inl hJ4⟩
    · gi_wp2
      go_end0
      exact ⟨⟨_, rfl⟩, .inr ⟨_, hJx4⟩⟩
  · gi_wp2
    go_end0
    exact ⟨⟨_, rfl⟩, .inr ⟨_, hJx3⟩⟩

/-- What the iterator hands over. -/
theorem skips_gives {Bi : Nat} {S : Nat → Prop} {i : Ins} {w0 : World} (hi : i.Ok) (hG : GW w0) (hB : Bi < w0.heap.size) (hat : InsAt w0 Bi 0 i) : Gives Tryd.prog 86 #[.pointer (some ⟨Bi, 0, none⟩)] 0 S (u64V (skipsL i)) w0 := by
  obtain ⟨c, jt, jf, k⟩ := i
  have ho := hi
  obtain ⟨c0, c1, t0, t1, f0, f1, k0, k1⟩ := ho
  simp only at t0 t1 f0 f1 k0 k1
  obtain ⟨tn, rfl⟩ := Int.eq_ofNat_of_zero_le t0
  obtain ⟨fn, rfl⟩ := Int.eq_ofNat_of_zero_le f0
  obtain ⟨kn, rfl⟩ := Int.eq_ofNat_of_zero_le k0
  unfold skipsL
  simp only [Int.toNat_natCast]
  by_cases h0 : clsI c = 0
  · rw [if_pos (Or.inl h0)]; exact skips_none0 _ hi hG hB hat h0 rfl
  · by_cases h5 : clsI c = 5
    · rw [if_pos (Or.inr h5)]; exact skips_none5 _ hi hG hB hat h5 rfl
    · rw [if_neg (fun h => h.elim h0 h5)]
      by_cases h4 : clsI c = 4
      · rw [if_pos h4]
        by_cases hc : c = 5
        · rw [if_pos hc]; exact skips_ja _ hi hG hB hat h4 rfl hc kn rfl
        · rw [if_neg hc]
          rcases Nat.lt_trichotomy tn fn with h | h | h
          · rw [if_neg (by omega), Nat.min_eq_left (by omega), Nat.max_eq_right (by omega)]; exact skips_lt _ hi hG hB hat h4 rfl hc tn fn rfl rfl h
          · subst h
            rw [if_pos rfl]; exact skips_eq _ hi hG hB hat h4 rfl hc tn tn rfl rfl
          · rw [if_neg (by omega), Nat.min_eq_right (by omega), Nat.max_eq_left (by omega)]; exact skips_gt _ hi hG hB hat h4 rfl hc tn fn rfl rfl h
      · rw [if_neg h4]; exact skips_plain _ hi hG hB hat rfl h0 h4 h5
end Go.Proofs.YtohfampfnhfnlaaDoor
namespace Go.Proofs.YtohfampfnhfnlaaDoor
open Go.RowKit Go.Shelf
set_option linter.unusedVariables false
attribute [local go_sem] Oper.semAt_some

theorem tw_one (n k x : Nat) (hk : k < n) : (if k + 1 + x < n then [k + 1 + x] else []) = ([x].takeWhile (fun y => decide (y < n - k - 1))).map (fun y => k + 1 + y) := by
  by_cases h : x < n - k - 1
  · rw [if_pos (by omega)]; simp [List.takeWhile, h]
  · rw [if_neg (by omega)]; simp [List.takeWhile, h]
theorem tw_two (n k a b : Nat) (hk : k < n) (hab : a < b) : (if k + 1 + a < n then [k + 1 + a] else []) ++ (if k + 1 + b < n then [k + 1 + b] else []) = ([a, b].takeWhile (fun y => decide (y < n - k - 1))).map (fun y => k + 1 + y) := by
  by_cases h : a < n - k - 1
  · rw [if_pos (by omega)]
    by_cases h2 : b < n - k - 1
    · rw [if_pos (by omega)]; simp [List.takeWhile, h, h2]
    · rw [if_neg (by omega)]; simp [List.takeWhile, h, h2]
  · rw [if_neg (by omega), if_neg (by omega)]; simp [List.takeWhile, h]
/-- The successors are what may be skipped, as far as there are instructions. -/
theorem nextL_skips {p : List Ins} {k : Nat} {i : Ins} (hi : i.Ok) (h : p[k]? = some i) : nextL p k = ((skipsL i).takeWhile (fun x => decide (x < p.length - k - 1))).map (fun x => k + 1 + x) := by
  have hk : k < p.length := (List.getElem?_eq_some_iff.1 h).1
  obtain ⟨c0, c1, t0, t1, f0, f1, k0, k1⟩ := hi
  unfold nextL
  rw [h]
  simp only
  unfold nextI skipsL
  by_cases hc : clsI i.c = 0 ∨ clsI i.c = 5
  · rw [if_pos hc, if_pos hc]; rfl
  · rw [if_neg hc, if_neg hc]
    by_cases h4 : clsI i.c = 4
    · rw [if_pos h4]
      by_cases h5 : i.c = 5
      · have e : leads i k = (k + 1 + i.k.toNat, k + 1 + i.k.toNat) := by unfold leads; rw [if_pos h4, if_pos h5]
        rw [e, if_pos h5, two_same]
        exact tw_one _ _ _ hk
      · have e : leads i k = (k + 1 + i.jt.toNat, k + 1 + i.jf.toNat) := by unfold leads; rw [if_pos h4, if_neg h5]
        rw [e, if_neg h5]
        simp only
        by_cases hj : i.jt = i.jf
        · rw [if_pos hj, hj, two_same]
          exact tw_one _ _ _ hk
        · rw [if_neg hj]
          rcases Nat.lt_or_ge i.jt.toNat i.jf.toNat with hlt | hge
          · rw [two_lt (by omega), Nat.min_eq_left (by omega), Nat.max_eq_right (by omega)]
            exact tw_two _ _ _ _ hk hlt
          · rw [two_comm, two_lt (by omega), Nat.min_eq_right (by omega), Nat.max_eq_left (by omega)]
            exact tw_two _ _ _ _ hk (by omega)
    · have e : leads i k = (k + 1, k + 1) := by unfold leads; rw [if_neg h4]
      rw [e, if_neg h4, two_same]
      exact tw_one _ _ 0 hk
theorem tw_get {q : Nat → Bool} {x : Nat} : ∀ {l : List Nat} {j : Nat}, (∀ y ∈ l.take j, q y = true) → l[j]? = some x → q x = true → (l.takeWhile q)[j]? = some x
  | [], j, _, h, _ => by simp at h
  | a :: l, 0, _, h, hx => by
    obtain rfl : a = x := by simpa using h
    rw [List.takeWhile_cons_of_pos hx]; rfl
  | a :: l, j + 1, hp, h, hx => by
    rw [List.takeWhile_cons_of_pos (hp a (by simp))]
    show (l.takeWhile q)[j]? = some x
    exact tw_get (fun y hy => hp y (by simp [hy])) (by simpa using h) hx
theorem tw_stop {q : Nat → Bool} {x : Nat} : ∀ {l : List Nat} {j : Nat}, (∀ y ∈ l.take j, q y = true) → l[j]? = some x → q x = false → (l.takeWhile q).length = j
  | [], j, _, h, _ => by simp at h
  | a :: l, 0, _, h, hx => by
    obtain rfl : a = x := by simpa using h
    rw [List.takeWhile_cons_of_neg (by rw [hx]; simp)]; rfl
  | a :: l, j + 1, hp, h, hx => by
    rw [List.takeWhile_cons_of_pos (hp a (by simp)), List.length_cons, tw_stop (l := l) (j := j) (fun y hy => hp y (by simp [hy])) (by simpa using h) hx]
theorem tw_all {q : Nat → Bool} : ∀ {l : List Nat}, (∀ y ∈ l.take l.length, q y = true) → (l.takeWhile q).length = l.length
  | [], _ => rfl
  | a :: l, hp => by
    rw [List.takeWhile_cons_of_pos (hp a (by simp)), List.length_cons, List.length_cons, tw_all (l := l) (fun y hy => hp y (by simp at hy ⊢; exact Or.inr hy))]
theorem take_more {l : List Nat} {j x : Nat} {q : Nat → Bool} (h : ∀ y ∈ l.take j, q y = true) (hx : l[j]? = some x) (hq : q x = true) : ∀ y ∈ l.take (j + 1), q y = true := by
  intro y hy
  rw [List.take_add_one, hx] at hy
  rcases List.mem_append.1 hy with h1 | h1
  · exact h y h1
  · obtain rfl : y = x := by simpa using h1
    exact hq
theorem skipsL_lt {i : Ins} (hi : i.Ok) {x : Nat} (h : x ∈ skipsL i) : x < 4294967296 := by
  obtain ⟨c0, c1, t0, t1, f0, f1, k0, k1⟩ := hi
  unfold skipsL at h
  split at h
  · cases h
  · split at h
    · split at h
      · obtain rfl := List.mem_singleton.1 h; omega
      · split at h
        · obtain rfl := List.mem_singleton.1 h; omega
        · simp at h; omega
    · obtain rfl := List.mem_singleton.1 h; omega
theorem u64V_get {l : List Nat} {j : Nat} {v : Value} (h : (u64V l)[j]? = some v) : ∃ x, l[j]? = some x ∧ v = .int .u64 ((x : Nat) : Int) := by
  unfold u64V at h
  rw [List.getElem?_map] at h
  cases hx : l[j]? with
  | none => rw [hx] at h; cases h
  | some x => rw [hx] at h; injection h with h; exact ⟨x, rfl, h.symm⟩
theorem round_in {m m' lp : Nat} {P : Program} {l : Nat} {f : FuncId} {tmps : Array Value} {assign body : Code} {w : World} {R : Ending → World → Prop} (h : RoundIn Fence.wide m P l f tmps assign body w R) : RoundIn (Fence.wide.inRound lp) m' P l f tmps assign body w R := round_room h
theorem plV_map_get {f : Nat → Nat} {l : List Nat} {j x : Nat} (h : l[j]? = some x) : (plV (l.map f))[j]? = some (.int .i64 ((f x : Nat) : Int)) := by
  unfold plV
  rw [List.getElem?_map, List.getElem?_map, h]; rfl
theorem plV_map_length (f : Nat → Nat) (l : List Nat) : (plV (l.map f)).length = l.length := by simp [plV]
theorem u64V_length (l : List Nat) : (u64V l).length = l.length := by simp [u64V]
/-- What lies in the boxes that the iterator reads between two rounds. -/
def SuccBox (Ba z k b l : Nat) (V : World) : Prop := V.cell? ⟨Ba, 0, none⟩ = some (.int .i64 k) ∧ V.cell? ⟨z, 0, none⟩ = some (.func (.yield l) #[] #[]) ∧ V.cell? ⟨z + 1, 0, none⟩ = some (.int .u64 b)
theorem succBox_own (Ba z k b l B : Nat) : OwnFrom B (fun (_ : Unit) V => SuccBox Ba z k b l V) := fun s A C row h hg hr =>
  ⟨cell_kept h.1 hg (fun r e => (hr r e).2), cell_kept h.2.1 hg (fun r e => (hr r e).2), cell_kept h.2.2 hg (fun r e => (hr r e).2)⟩
set_option maxRecDepth 100000 in
set_option maxHeartbeats 4000000 in
theorem succ_low (Ba Bp n cap : Nat) {S : Nat → Prop} (a0 : Option Addr) (at_ : Int) (w0 : World) (hBa : Ba < w0.heap.size) (hBp : Bp < w0.heap.size) (ca : w0.cell? ⟨Ba, 0, none⟩ = some (.int .i64 at_)) (cp : w0.cell? ⟨Bp, 0, none⟩ = some (.slice a0 n cap)) (h : at_ < 0 ∨ 0 ≤ at_ ∧ (n : Int) ≤ at_) :
    Gives Tryd.prog 78 #[.pointer (some ⟨Ba, 0, none⟩), .pointer (some ⟨Bp, 0, none⟩)] 2 S [] w0 := by
  intro l J Jx W hW hJ hJx hY h0
  have r0 := (hW.cell (p := ⟨Ba, 0, none⟩) (by show Ba < w0.heap.size; omega)).trans ca
  have r1 := (hW.cell (p := ⟨Bp, 0, none⟩) (by show Bp < w0.heap.size; omega)).trans cp
  have j1 := hJ.alloc (.cells #[.func (.yield l) #[] #[]] 39) h0
  have b0 := World.block_lt_of_cell? W _ r0
  have b1 := World.block_lt_of_cell? W _ r1
  clear hY hJ hJx ca cp hW hBa hBp
  rcases h with h | ⟨h, h'⟩
  · refine (callsIn_wide (n := 4)).1 ?_
    refine callsIn_of_wp Tryd.func78 rfl trivial ?_ rfl
    simp only [Tryd.ntmps78, List.size_toArray, List.length_cons, List.length_nil, Nat.reduceAdd, Nat.reduceSub, Array.replicate_succ, Array.replicate_zero, List.push_toArray, List.append_toArray, List.nil_append, List.cons_append]
    gi_wp2
    refine bodyPost_ret (results_none rfl _ _ _) rfl ?_
    exact ⟨⟨_, rfl⟩, .inl j1⟩
  · refine (callsIn_wide (n := 4)).1 ?_
    refine callsIn_of_wp Tryd.func78 rfl trivial ?_ rfl
    simp only [Tryd.ntmps78, List.size_toArray, List.length_cons, List.length_nil, Nat.reduceAdd, Nat.reduceSub, Array.replicate_succ, Array.replicate_zero, List.push_toArray, List.append_toArray, List.nil_append, List.cons_append]
    gi_wp2
    refine bodyPost_ret (results_none rfl _ _ _) rfl ?_
    exact ⟨⟨_, rfl⟩, .inl j1⟩
set_option maxRecDepth 100000 in
set_option maxHeartbeats 8000000 in
theorem succ_in (Ba Bp n cap k b o : Nat) (i : Ins) (w0 : World) (hi : i.Ok) (hn : n ≤ 4096) (hk : k < n) (hG : GW w0) (hBa : Ba < w0.heap.size) (hBp : Bp < w0.heap.size) (hb : b < w0.heap.size) (ca : w0.cell? ⟨Ba, 0, none⟩ = some (.int .i64 k)) (cp : w0.cell? ⟨Bp, 0, none⟩ = some (.slice (some ⟨b, o, none⟩) n cap)) (hat : InsAt w0 b (o + k * 4) i)
    (xs : List Value) (hxs : xs = plV (((skipsL i).takeWhile (fun x => decide (x < n - k - 1))).map (fun x => k + 1 + x))) :
    Gives Tryd.prog 78 #[.pointer (some ⟨Ba, 0, none⟩), .pointer (some ⟨Bp, 0, none⟩)] 2 (· = Ba) xs w0 := by
  intro l J Jx W hW hJ hJx hY h0
  obtain ⟨bh, hbh⟩ : ∃ bh, bh = n - k - 1 := ⟨_, rfl⟩
  rw [← hbh] at hxs
  have HX := Lib.hid hxs
  have HS := Lib.hid (fun x (hx : x ∈ skipsL i) => skipsL_lt hi hx)
  have HI := Lib.hid hi
  obtain ⟨sk, hsk⟩ : ∃ sk, sk = skipsL i := ⟨_, rfl⟩
  have HK := Lib.hid hsk
  rw [← hsk] at HX HS
  have HBA := Lib.hid hBa
  have HG := Lib.hid (hG.on hW)
  have HJ := Lib.hid hJ
  have HJX := Lib.hid hJx
  have HY := Lib.hid hY
  have HZ := Lib.hid hW.size
  have hBaW : Ba < W.heap.size := by have := hW.size; omega
  have r0 := (hW.cell (p := ⟨Ba, 0, none⟩) (by show Ba < w0.heap.size; omega)).trans ca
  have r1 := (hW.cell (p := ⟨Bp, 0, none⟩) (by show Bp < w0.heap.size; omega)).trans cp
  obtain ⟨c, jt, jf, kk⟩ := i
  obtain ⟨q0, q1, q2, q3⟩ := hat
  simp only at q0 q1 q2 q3
  have r2 := (hW.cell (p := ⟨b, o + k * 4, none⟩) (by show b < w0.heap.size; omega)).trans q0
  have r3 := (hW.cell (p := ⟨b, o + k * 4 + 1, none⟩) (by show b < w0.heap.size; omega)).trans q1
  have r4 := (hW.cell (p := ⟨b, o + k * 4 + 2, none⟩) (by show b < w0.heap.size; omega)).trans q2
  have r5 := (hW.cell (p := ⟨b, o + k * 4 + 3, none⟩) (by show b < w0.heap.size; omega)).trans q3
  have b0 := World.block_lt_of_cell? W _ r0
  have b1 := World.block_lt_of_cell? W _ r1
  have b2 := World.block_lt_of_cell? W _ r2
  have k1 : (k : Int) < n := by omega
  have k0 : (0 : Int) ≤ k := by omega
  have n4 : (n : Int) ≤ 4096 := by omega
  have d1 : decide ((n : Int) ≤ k) = false := decide_eq_false (by omega)
  have d0 : decide ((k : Int) < 0) = false := decide_eq_false (by omega)
  have hb0 : (n : Int) - k - 1 = bh := by omega
  have hb1 : IntKind.i64.wrap ((n : Int) - k) = n - k := IntWalk.i64_in _ (by omega)
  have hb2 : IntKind.i64.wrap ((n : Int) - k - 1) = bh := by rw [hb0]; exact IntWalk.i64_in _ (by omega)
  have hb3 : IntKind.u64.wrap (bh : Int) = bh := by rw [IntKind.wrap_u64]; omega
  have HH := Lib.hid hbh
  clear hW hJ hJx hY hG hxs hsk hBa hBp hb hi ca cp q0 q1 q2 q3 hb0 hbh
  refine (callsIn_wide (n := 4)).1 ?_
  refine callsIn_of_wp_marks Tryd.func78 rfl trivial ?_ rfl
  simp only [Tryd.ntmps78, List.size_toArray, List.length_cons, List.length_nil, Nat.reduceAdd, Nat.reduceSub, Array.replicate_succ, Array.replicate_zero, List.push_toArray, List.append_toArray, List.nil_append, List.cons_append]
  gi_wp2_with (refine ⟨trivial, ?_⟩
               gi_at_call 79
               refine (callsIn_wide.2 (skips_call ⟨c, jt, jf, kk⟩ _)).mono ?_
               rintro e w2 ⟨rfl, rfl⟩)
  obtain ⟨W0, hW0⟩ : ∃ W0, W0 = ((W.alloc (.cells #[.func (.yield l) #[] #[]] 39)).alloc (.cells #[.int .u64 bh] 40)).alloc (.cells #[.int .u16 c, .int .u8 jt, .int .u8 jf, .int .u32 kk] 35) := ⟨_, rfl⟩
  have z0 : W0.heap.size = W.heap.size + 3 := by rw [hW0]; simp
  have BW : Below W.heap.size W W0 := by rw [hW0]; exact (((Below.refl _ _).alloc (Nat.le_refl _) _).alloc (by simp) _).alloc (by simp; omega) _
  have bat : InsAt W0 (W.heap.size + 1 + 1) 0 ⟨c, jt, jf, kk⟩ := by
    have hx := Below.refl W0.heap.size W0
    rw [hW0] at hx ⊢
    exact ⟨by have := box_cells hx 0 _ rfl; rwa [World.size_alloc, World.size_alloc] at this, by have := box_cells hx 1 _ rfl; rwa [World.size_alloc, World.size_alloc] at this, by have := box_cells hx 2 _ rfl; rwa [World.size_alloc, World.size_alloc] at this, by have := box_cells hx 3 _ rfl; rwa [World.size_alloc, World.size_alloc] at this⟩
  have bx : SuccBox Ba W.heap.size k bh l W0 := by
    refine ⟨(BW.cell (p := ⟨Ba, 0, none⟩) hBaW).trans r0, ?_, ?_⟩
    · rw [hW0]; exact (((Boxed.new W _ _).alloc _).alloc _).cell
    · have h := ((Boxed.new (W.alloc (.cells #[.func (.yield l) #[] #[]] 39)) 40 (.int .u64 bh)).alloc (.cells #[.int .u16 c, .int .u8 jt, .int .u8 jf, .int .u32 kk] 35)).cell
      rw [World.size_alloc] at h
      rw [hW0]; exact h
  have hgw := HG.out.on BW
  have j0 := own_from_on HJ.out h0 BW
  rw [← hW0]
  clear hW0 r0 r1 r2 r3 r4 r5 b0 b1 b2 hb1 hb2 hb3 h0 BW
  refine wp_gives (S := fun _ => False) (m := 0) (w0 := W0) (xs := u64V sk) (gf := 86) (lb := #[.pointer (some ⟨W.heap.size + 1 + 1, 0, none⟩)]) rfl (enters_of Tryd.func86 (by kernel_rfl) rfl)
    (by rw [HK.out]; exact skips_gives HI.out hgw (by omega) bat) (Below.refl _ _)
    (fun j V => J j V ∧ SuccBox Ba W.heap.size k bh l V ∧ W.heap.size + 3 ≤ V.heap.size ∧ ∀ y ∈ sk.take j, decide (y < bh) = true)
    (fun _ V => J xs.length V ∨ ∃ q, Jx q V)
    (fun j A C row ⟨h1, h2, h3, h4⟩ hg hr => ⟨HJ.out j A C row h1 hg (fun r e => ⟨by have := (hr r e).1; omega, (hr r e).2⟩), succBox_own _ _ _ _ _ _ () A C row h2 hg hr, Nat.le_trans h3 hg.size, h4⟩)
    (fun j A C row h hg hr => h.imp (fun h => HJ.out _ A C row h hg (fun r e => ⟨by have := (hr r e).1; omega, (hr r e).2⟩)) (fun ⟨q, h⟩ => ⟨q, HJX.out _ A C row h hg (fun r e => ⟨by have := (hr r e).1; omega, (hr r e).2⟩)⟩))
    ⟨j0, bx, by omega, fun y hy => by simp at hy⟩ ?after ?assign ?body ?done ?stop
  case assign =>
    intro lp x V K hK
    gi_wp2
    exact hK
  case body =>
    rintro lp j x V hx ⟨hj, ⟨s1, s2, s3⟩, hz, hpre⟩ _
    obtain ⟨m, hm, rfl⟩ := u64V_get hx
    have hm32 := HS.out m (List.mem_of_getElem? hm)
    clear hx bx bat hgw j0
    by_cases hlt : m < bh
    · have d3 : decide ((bh : Int) ≤ m) = false := decide_eq_false (by omega)
      have hxs : xs[j]? = some (.int .i64 ((k : Int) + 1 + m)) := by
        rw [HX.out, plV_map_get (tw_get hpre hm (decide_eq_true hlt))]
        simp
      have hle : bh ≤ 4096 := by rw [HH.out]; omega
      obtain ⟨fn, tmps, assign, body, hy, hR⟩ := HY.out j (.int .i64 ((k : Int) + 1 + m)) V hxs hj (by omega)
      have w1 : IntKind.i64.wrap (m : Int) = m := IntWalk.i64_in _ (by omega)
      have w2 : IntKind.i64.wrap ((k : Int) + 1 + m) = k + 1 + m := IntWalk.i64_in _ (by omega)
      have HP := Lib.hid hpre
      clear hxs hpre
      gi_wp2
      refine (round_in hR).mono ?_
      rintro e V' ⟨hkf, ⟨rfl, hJ3, hk3⟩ | ⟨rfl, hJx3⟩⟩
      · gi_wp2
        exact ⟨keeps_up hkf (by omega), ⟨hk3.1, fun b o h1 => h1.elim (fun h => h.elim) (fun h => absurd h.2 (by omega))⟩, hJ3, ⟨keptIt_cell hk3 (Or.inl rfl) s1, keptIt_cell hk3 (Or.inr ⟨Nat.le_refl _, by omega⟩) s2, keptIt_cell hk3 (Or.inr ⟨by omega, by omega⟩) s3⟩, by have := hk3.1.size; omega, take_more HP.out hm (decide_eq_true hlt)⟩
      · gi_wp2
        exact ⟨keeps_up hkf (by omega), Or.inr ⟨_, hJx3⟩⟩
    · have d3 : decide ((bh : Int) ≤ m) = true := decide_eq_true (by omega)
      have hlen : xs.length = j := by rw [HX.out, plV_map_length]; exact tw_stop hpre hm (decide_eq_false hlt)
      gi_wp2
      refine ⟨fun _ _ => trivial, ?_⟩
      gi_wp2
      exact ⟨KeepsFrom.refl _ _, Or.inl (by rw [hlen]; exact hj)⟩
  case done =>
    rintro V ⟨hj, _, _, hpre⟩ hK
    have hlen : xs.length = (u64V sk).length := by rw [HX.out, plV_map_length, u64V_length]; rw [u64V_length] at hpre; exact tw_all hpre
    rw [← hlen] at hj
    gi_wp2
    refine ⟨by simp, .inl ⟨_, _, rfl, run_takeDeferred hK, ?_⟩⟩
    exact ⟨_, results_none rfl _ _ _, ⟨_, rfl⟩, .inl (HJ.out.putObj _ hj (by omega) hK rfl)⟩
  case stop =>
    rintro j V h hK
    gi_wp2
    refine ⟨by simp, .inl ⟨_, _, rfl, run_takeDeferred hK, ?_⟩⟩
    exact ⟨_, results_none rfl _ _ _, ⟨_, rfl⟩, h.imp (fun h => HJ.out.putObj _ h (by omega) hK rfl) (fun ⟨q, h⟩ => ⟨q, HJX.out.putObj _ h (by omega) hK rfl⟩)⟩
/-- What the iterator hands over. -/
theorem succ_gives (Ba Bp n cap : Nat) (a0 : Option Addr) (p : List Ins) (at_ : Int) (w0 : World) (hl : p.length = n) (hn : n ≤ 4096) (hok : OkL p) (hG : GW w0) (hBa : Ba < w0.heap.size) (hBp : Bp < w0.heap.size)
    (ca : w0.cell? ⟨Ba, 0, none⟩ = some (.int .i64 at_)) (cp : w0.cell? ⟨Bp, 0, none⟩ = some (.slice a0 n cap)) (hR : RdI w0 w0.heap.size a0 p) :
    Gives Tryd.prog 78 #[.pointer (some ⟨Ba, 0, none⟩), .pointer (some ⟨Bp, 0, none⟩)] 2 (· = Ba) (plV (nextA p at_)) w0 := by
  unfold nextA
  by_cases h0 : 0 ≤ at_
  · rw [if_pos h0]
    obtain ⟨k, rfl⟩ := Int.eq_ofNat_of_zero_le h0
    rw [Int.toNat_natCast]
    by_cases hk : k < n
    · have hkl : k < p.length := by omega
      obtain ⟨b, o, rfl, hb, hc⟩ := hR (by omega)
      have hat := hc k hkl
      exact succ_in Ba Bp n cap k b o p[k] w0 (hok.get hkl) hn hk hG hBa hBp hb ca cp hat _ (by rw [nextL_skips (hok.get hkl) (List.getElem?_eq_getElem hkl), hl])
    · have e : nextL p k = [] := by unfold nextL; rw [List.getElem?_eq_none (by omega)]
      rw [e]
      exact succ_low Ba Bp n cap a0 k w0 hBa hBp ca cp (Or.inr ⟨by omega, by omega⟩)
  · rw [if_neg h0]
    exact succ_low Ba Bp n cap a0 at_ w0 hBa hBp ca cp (Or.inl (by omega))
end Go.Proofs.YtohfampfnhfnlaaDoor
