/- What the landed iterator over the numbers of instructions that may be skipped hands over: as the chapter says, in order. Condition: an instruction. -/
import Derived.Test.YthhfpehngdohhaaDoorQb
import Derived.RegionIn
import Derived.IntWalk
namespace Go.Proofs.YthhfpehngdohhaaDoor
open Go.RowKit
set_option linter.unusedVariables false
attribute [local go_sem] Oper.semAt_some

theorem grown_below {w w' : World} (b : Below w.heap.size w w') : w.grownBy w' none := ⟨b.os, b.tape, b.output, b.size, fun k hk _ => b.block k hk⟩
theorem own_from_on {β : Type} {B : Nat} {J : β → World → Prop} (h : OwnFrom B J) {s : β} {w w' : World} (hs : J s w) (b : Below w.heap.size w w') : J s w' := h s w w' none hs (grown_below b) (fun r e => by cases e)
/-- How many instructions may be skipped, in ascending order, each once. -/
def skipsL (i : Ins) : List Nat :=
  if clsI i.c = 0 ∨ clsI i.c = 5 then [] else if clsI i.c = 4 then (if i.c = 5 then [i.k.toNat] else if i.jt = i.jf then [i.jt.toNat] else [min i.jt.toNat i.jf.toNat, max i.jt.toNat i.jf.toNat]) else [0]
def u64V (l : List Nat) : List Value := l.map fun x => .int .u64 ((x : Nat) : Int)
set_option maxRecDepth 100000 in
set_option maxHeartbeats 4000000 in
theorem skips_none0 {Bi : Nat} {S : Nat → Prop} {c jt jf k : Int} (cl : Int) {w0 : World} (hi : Ins.Ok ⟨c, jt, jf, k⟩) (hG : GW w0) (hB : Bi < w0.heap.size) (hat : InsAt w0 Bi 0 ⟨c, jt, jf, k⟩) (hcl : clsI c = cl) (h : cl = 0) :
    Gives Tryd.prog 44 #[.pointer (some ⟨Bi, 0, none⟩)] 0 S [] w0 := by
  intro l J Jx W hW hJ hJx hY h0
  obtain ⟨q0, q1, q2, q3⟩ := hat
  obtain ⟨c0, c1, t0, t1, f0, f1, k0, k1⟩ := hi
  simp only at q0 q1 q2 q3 c0 c1 t0 t1 f0 f1 k0 k1
  have r0 := (hW.cell (p := ⟨Bi, 0, none⟩) hB).trans q0
  have r1 := (hW.cell (p := ⟨Bi, 0 + 1, none⟩) hB).trans q1
  have r2 := (hW.cell (p := ⟨Bi, 0 + 2, none⟩) hB).trans q2
  have r3 := (hW.cell (p := ⟨Bi, 0 + 3, none⟩) hB).trans q3
  have hBW : Bi < W.heap.size := Nat.lt_of_lt_of_le hB hW.size
  have HO := Lib.hid (fun W (hG : GW W) => ofC c W hG c0 c1)
  rw [show (ofL allL c).cls = cl from hcl] at HO
  have HG := Lib.hid (hG.on hW)
  have HJ := Lib.hid hJ
  have HY := Lib.hid hY
  clear hY hJ hJx hG hW hB q0 q1 q2 q3 hcl c0 c1
  subst h
  refine (callsIn_wide (n := 4)).1 ?_
  refine callsIn_of_wp Tryd.func44 rfl trivial ?_ rfl
  simp only [Tryd.ntmps44, List.size_toArray, List.length_cons, List.length_nil, Nat.reduceAdd, Nat.reduceSub, Array.replicate_succ, Array.replicate_zero, List.push_toArray, List.append_toArray, List.nil_append, List.cons_append]
  gi_wp2_with (refine ⟨trivial, ?_⟩
               gi_at_call 42
               refine (callsIn_wide.2 (HO.out _ HG.out)).mono ?_
               rintro e w1 ⟨rfl, b1⟩
               have s0 := (b1.cell (p := ⟨Bi, 0, none⟩) hBW).trans r0
               have s1 := (b1.cell (p := ⟨Bi, 0 + 1, none⟩) hBW).trans r1
               have s2 := (b1.cell (p := ⟨Bi, 0 + 2, none⟩) hBW).trans r2
               have s3 := (b1.cell (p := ⟨Bi, 0 + 3, none⟩) hBW).trans r3
               have j1 := own_from_on HJ.out h0 b1
               have z1 := b1.size
               have z2 : w1.drew.heap.size = w1.heap.size := rfl
               skip)
  go_end0
  exact ⟨⟨_, rfl⟩, .inl j1⟩
set_option maxRecDepth 100000 in
set_option maxHeartbeats 4000000 in
theorem skips_none5 {Bi : Nat} {S : Nat → Prop} {c jt jf k : Int} (cl : Int) {w0 : World} (hi : Ins.Ok ⟨c, jt, jf, k⟩) (hG : GW w0) (hB : Bi < w0.heap.size) (hat : InsAt w0 Bi 0 ⟨c, jt, jf, k⟩) (hcl : clsI c = cl) (h : cl = 5) :
    Gives Tryd.prog 44 #[.pointer (some ⟨Bi, 0, none⟩)] 0 S [] w0 := by
  intro l J Jx W hW hJ hJx hY h0
  obtain ⟨q0, q1, q2, q3⟩ := hat
  obtain ⟨c0, c1, t0, t1, f0, f1, k0, k1⟩ := hi
  simp only at q0 q1 q2 q3 c0 c1 t0 t1 f0 f1 k0 k1
  have r0 := (hW.cell (p := ⟨Bi, 0, none⟩) hB).trans q0
  have r1 := (hW.cell (p := ⟨Bi, 0 + 1, none⟩) hB).trans q1
  have r2 := (hW.cell (p := ⟨Bi, 0 + 2, none⟩) hB).trans q2
  have r3 := (hW.cell (p := ⟨Bi, 0 + 3, none⟩) hB).trans q3
  have hBW : Bi < W.heap.size := Nat.lt_of_lt_of_le hB hW.size
  have HO := Lib.hid (fun W (hG : GW W) => ofC c W hG c0 c1)
  rw [show (ofL allL c).cls = cl from hcl] at HO
  have HG := Lib.hid (hG.on hW)
  have HJ := Lib.hid hJ
  have HY := Lib.hid hY
  clear hY hJ hJx hG hW hB q0 q1 q2 q3 hcl c0 c1
  subst h
  refine (callsIn_wide (n := 4)).1 ?_
  refine callsIn_of_wp Tryd.func44 rfl trivial ?_ rfl
  simp only [Tryd.ntmps44, List.size_toArray, List.length_cons, List.length_nil, Nat.reduceAdd, Nat.reduceSub, Array.replicate_succ, Array.replicate_zero, List.push_toArray, List.append_toArray, List.nil_append, List.cons_append]
  gi_wp2_with (refine ⟨trivial, ?_⟩
               gi_at_call 42
               refine (callsIn_wide.2 (HO.out _ HG.out)).mono ?_
               rintro e w1 ⟨rfl, b1⟩
               have s0 := (b1.cell (p := ⟨Bi, 0, none⟩) hBW).trans r0
               have s1 := (b1.cell (p := ⟨Bi, 0 + 1, none⟩) hBW).trans r1
               have s2 := (b1.cell (p := ⟨Bi, 0 + 2, none⟩) hBW).trans r2
               have s3 := (b1.cell (p := ⟨Bi, 0 + 3, none⟩) hBW).trans r3
               have j1 := own_from_on HJ.out h0 b1
               have z1 := b1.size
               have z2 : w1.drew.heap.size = w1.heap.size := rfl
               skip)
  go_end0
  exact ⟨⟨_, rfl⟩, .inl j1⟩
set_option maxRecDepth 100000 in
set_option maxHeartbeats 4000000 in
theorem skips_plain {Bi : Nat} {S : Nat → Prop} {c jt jf k : Int} (cl : Int) {w0 : World} (hi : Ins.Ok ⟨c, jt, jf, k⟩) (hG : GW w0) (hB : Bi < w0.heap.size) (hat : InsAt w0 Bi 0 ⟨c, jt, jf, k⟩) (hcl : clsI c = cl) (h0' : cl ≠ 0) (h4' : cl ≠ 4) (h5' : cl ≠ 5) :
    Gives Tryd.prog 44 #[.pointer (some ⟨Bi, 0, none⟩)] 0 S [.int .u64 0] w0 := by
  intro l J Jx W hW hJ hJx hY h0
  obtain ⟨q0, q1, q2, q3⟩ := hat
  obtain ⟨c0, c1, t0, t1, f0, f1, k0, k1⟩ := hi
  simp only at q0 q1 q2 q3 c0 c1 t0 t1 f0 f1 k0 k1
  have r0 := (hW.cell (p := ⟨Bi, 0, none⟩) hB).trans q0
  have r1 := (hW.cell (p := ⟨Bi, 0 + 1, none⟩) hB).trans q1
  have r2 := (hW.cell (p := ⟨Bi, 0 + 2, none⟩) hB).trans q2
  have r3 := (hW.cell (p := ⟨Bi, 0 + 3, none⟩) hB).trans q3
  have hBW : Bi < W.heap.size := Nat.lt_of_lt_of_le hB hW.size
  have HO := Lib.hid (fun W (hG : GW W) => ofC c W hG c0 c1)
  rw [show (ofL allL c).cls = cl from hcl] at HO
  have HG := Lib.hid (hG.on hW)
  have HJ := Lib.hid hJ
  have HY := Lib.hid hY
  clear hY hJ hJx hG hW hB q0 q1 q2 q3 hcl c0 c1
  have e0 : (cl == 0) = false := beq_eq_false_iff_ne.2 h0'
  have e4 : (cl == 4) = false := beq_eq_false_iff_ne.2 h4'
  have e5 : (cl == 5) = false := beq_eq_false_iff_ne.2 h5'
  clear h0' h4' h5'
  refine (callsIn_wide (n := 4)).1 ?_
  refine callsIn_of_wp Tryd.func44 rfl trivial ?_ rfl
  simp only [Tryd.ntmps44, List.size_toArray, List.length_cons, List.length_nil, Nat.reduceAdd, Nat.reduceSub, Array.replicate_succ, Array.replicate_zero, List.push_toArray, List.append_toArray, List.nil_append, List.cons_append]
  gi_wp2_with (refine ⟨trivial, ?_⟩
               gi_at_call 42
               refine (callsIn_wide.2 (HO.out _ HG.out)).mono ?_
               rintro e w1 ⟨rfl, b1⟩
               have s0 := (b1.cell (p := ⟨Bi, 0, none⟩) hBW).trans r0
               have s1 := (b1.cell (p := ⟨Bi, 0 + 1, none⟩) hBW).trans r1
               have s2 := (b1.cell (p := ⟨Bi, 0 + 2, none⟩) hBW).trans r2
               have s3 := (b1.cell (p := ⟨Bi, 0 + 3, none⟩) hBW).trans r3
               have j1 := own_from_on HJ.out h0 b1
               have z1 := b1.size
               have z2 : w1.drew.heap.size = w1.heap.size := rfl
               obtain ⟨fn0, tmps0, assign0, body0, hy0, hR0⟩ := HY.out 0 (.int .u64 0) w1 rfl j1 (by omega))
  refine hR0.mono ?_
  rintro e W3 ⟨_, ⟨rfl, hJ3, _⟩ | ⟨rfl, hJx3⟩⟩
  · gi_wp2
    go_end0
    exact ⟨⟨_, rfl⟩, .inl hJ3⟩
  · gi_wp2
    go_end0
    exact ⟨⟨_, rfl⟩, .inr ⟨_, hJx3⟩⟩

set_option maxRecDepth 100000 in
set_option maxHeartbeats 4000000 in
theorem skips_ja {Bi : Nat} {S : Nat → Prop} {c jt jf k : Int} (cl : Int) {w0 : World} (hi : Ins.Ok ⟨c, jt, jf, k⟩) (hG : GW w0) (hB : Bi < w0.heap.size) (hat : InsAt w0 Bi 0 ⟨c, jt, jf, k⟩) (hcl : clsI c = cl) (h4' : cl = 4) (h5' : c = 5) (kn : Nat) (hk : k = kn) :
    Gives Tryd.prog 44 #[.pointer (some ⟨Bi, 0, none⟩)] 0 S [.int .u64 (kn : Int)] w0 := by
  intro l J Jx W hW hJ hJx hY h0
  obtain ⟨q0, q1, q2, q3⟩ := hat
  obtain ⟨c0, c1, t0, t1, f0, f1, k0, k1⟩ := hi
  simp only at q0 q1 q2 q3 c0 c1 t0 t1 f0 f1 k0 k1
  have r0 := (hW.cell (p := ⟨Bi, 0, none⟩) hB).trans q0
  have r1 := (hW.cell (p := ⟨Bi, 0 + 1, none⟩) hB).trans q1
  have r2 := (hW.cell (p := ⟨Bi, 0 + 2, none⟩) hB).trans q2
  have r3 := (hW.cell (p := ⟨Bi, 0 + 3, none⟩) hB).trans q3
  have hBW : Bi < W.heap.size := Nat.lt_of_lt_of_le hB hW.size
  have HO := Lib.hid (fun W (hG : GW W) => ofC c W hG c0 c1)
  rw [show (ofL allL c).cls = cl from hcl] at HO
  have HG := Lib.hid (hG.on hW)
  have HJ := Lib.hid hJ
  have HY := Lib.hid hY
  clear hY hJ hJx hG hW hB q0 q1 q2 q3 hcl c0 c1
  subst h4' h5' hk
  have hw : IntKind.u64.wrap (kn : Int) = kn := by rw [IntKind.wrap_u64]; omega
  refine (callsIn_wide (n := 4)).1 ?_
  refine callsIn_of_wp Tryd.func44 rfl trivial ?_ rfl
  simp only [Tryd.ntmps44, List.size_toArray, List.length_cons, List.length_nil, Nat.reduceAdd, Nat.reduceSub, Array.replicate_succ, Array.replicate_zero, List.push_toArray, List.append_toArray, List.nil_append, List.cons_append]
  gi_wp2_with (refine ⟨trivial, ?_⟩
               gi_at_call 42
               refine (callsIn_wide.2 (HO.out _ HG.out)).mono ?_
               rintro e w1 ⟨rfl, b1⟩
               have s0 := (b1.cell (p := ⟨Bi, 0, none⟩) hBW).trans r0
               have s1 := (b1.cell (p := ⟨Bi, 0 + 1, none⟩) hBW).trans r1
               have s2 := (b1.cell (p := ⟨Bi, 0 + 2, none⟩) hBW).trans r2
               have s3 := (b1.cell (p := ⟨Bi, 0 + 3, none⟩) hBW).trans r3
               have j1 := own_from_on HJ.out h0 b1
               have z1 := b1.size
               have z2 : w1.drew.heap.size = w1.heap.size := rfl
               obtain ⟨fn0, tmps0, assign0, body0, hy0, hR0⟩ := HY.out 0 (.int .u64 (kn : Int)) w1 rfl j1 (by omega))
  refine hR0.mono ?_
  rintro e W3 ⟨_, ⟨rfl, hJ3, _⟩ | ⟨rfl, hJx3⟩⟩
  · gi_wp2
    refine bodyPost_ret (results_none rfl _ _ _) rfl ?_
    exact ⟨⟨_, rfl⟩, .inl hJ3⟩
  · gi_wp2
    refine bodyPost_ret (results_none rfl _ _ _) rfl ?_
    exact ⟨⟨_, rfl⟩, .inr ⟨_, hJx3⟩⟩

set_option maxRecDepth 100000 in
set_option maxHeartbeats 4000000 in
theorem skips_eq {Bi : Nat} {S : Nat → Prop} {c jt jf k : Int} (cl : Int) {w0 : World} (hi : Ins.Ok ⟨c, jt, jf, k⟩) (hG : GW w0) (hB : Bi < w0.heap.size) (hat : InsAt w0 Bi 0 ⟨c, jt, jf, k⟩) (hcl : clsI c = cl) (h4' : cl = 4) (h5' : c ≠ 5) (tn fn : Nat) (ht : jt = tn) (hf : jf = tn) :
    Gives Tryd.prog 44 #[.pointer (some ⟨Bi, 0, none⟩)] 0 S [.int .u64 (tn : Int)] w0 := by
  intro l J Jx W hW hJ hJx hY h0
  obtain ⟨q0, q1, q2, q3⟩ := hat
  obtain ⟨c0, c1, t0, t1, f0, f1, k0, k1⟩ := hi
  simp only at q0 q1 q2 q3 c0 c1 t0 t1 f0 f1 k0 k1
  have r0 := (hW.cell (p := ⟨Bi, 0, none⟩) hB).trans q0
  have r1 := (hW.cell (p := ⟨Bi, 0 + 1, none⟩) hB).trans q1
  have r2 := (hW.cell (p := ⟨Bi, 0 + 2, none⟩) hB).trans q2
  have r3 := (hW.cell (p := ⟨Bi, 0 + 3, none⟩) hB).trans q3
  have hBW : Bi < W.heap.size := Nat.lt_of_lt_of_le hB hW.size
  have HO := Lib.hid (fun W (hG : GW W) => ofC c W hG c0 c1)
  rw [show (ofL allL c).cls = cl from hcl] at HO
  have HG := Lib.hid (hG.on hW)
  have HJ := Lib.hid hJ
  have HY := Lib.hid hY
  clear hY hJ hJx hG hW hB q0 q1 q2 q3 hcl c0 c1
  subst h4' ht hf
  have e5 : (c == 5) = false := beq_eq_false_iff_ne.2 h5'
  have hw1 : IntKind.u64.wrap (tn : Int) = tn := by rw [IntKind.wrap_u64]; omega
  have e6 : decide ((tn : Int) < tn) = false := decide_eq_false (by omega)
  clear h5'
  refine (callsIn_wide (n := 4)).1 ?_
  refine callsIn_of_wp Tryd.func44 rfl trivial ?_ rfl
  simp only [Tryd.ntmps44, List.size_toArray, List.length_cons, List.length_nil, Nat.reduceAdd, Nat.reduceSub, Array.replicate_succ, Array.replicate_zero, List.push_toArray, List.append_toArray, List.nil_append, List.cons_append]
  gi_wp2_with (refine ⟨trivial, ?_⟩
               gi_at_call 42
               refine (callsIn_wide.2 (HO.out _ HG.out)).mono ?_
               rintro e w1 ⟨rfl, b1⟩
               have s0 := (b1.cell (p := ⟨Bi, 0, none⟩) hBW).trans r0
               have s1 := (b1.cell (p := ⟨Bi, 0 + 1, none⟩) hBW).trans r1
               have s2 := (b1.cell (p := ⟨Bi, 0 + 2, none⟩) hBW).trans r2
               have s3 := (b1.cell (p := ⟨Bi, 0 + 3, none⟩) hBW).trans r3
               have j1 := own_from_on HJ.out h0 b1
               have z1 := b1.size
               have z2 : w1.drew.heap.size = w1.heap.size := rfl
               skip)
  gi_region
  obtain ⟨fn0, tmps0, assign0, body0, hy0, hR0⟩ := HY.out 0 (.int .u64 (tn : Int)) w1.drew rfl (own_from_on HJ.out j1 (Below.refl _ _).drew) (by omega)
  gi_wp2
  refine hR0.mono ?_
  rintro e W3 ⟨_, ⟨rfl, hJ3, _⟩ | ⟨rfl, hJx3⟩⟩
  · gi_wp2
    go_end0
    exact ⟨⟨_, rfl⟩, .inl hJ3⟩
  · gi_wp2
    go_end0
    exact ⟨⟨_, rfl⟩, .inr ⟨_, hJx3⟩⟩

set_option maxRecDepth 100000 in
set_option maxHeartbeats 4000000 in
theorem skips_lt {Bi : Nat} {S : Nat → Prop} {c jt jf k : Int} (cl : Int) {w0 : World} (hi : Ins.Ok ⟨c, jt, jf, k⟩) (hG : GW w0) (hB : Bi < w0.heap.size) (hat : InsAt w0 Bi 0 ⟨c, jt, jf, k⟩) (hcl : clsI c = cl) (h4' : cl = 4) (h5' : c ≠ 5) (tn fn : Nat) (ht : jt = tn) (hf : jf = fn) (hlt : tn < fn) :
    Gives Tryd.prog 44 #[.pointer (some ⟨Bi, 0, none⟩)] 0 S [.int .u64 (tn : Int), .int .u64 (fn : Int)] w0 := by
  intro l J Jx W hW hJ hJx hY h0
  obtain ⟨q0, q1, q2, q3⟩ := hat
  obtain ⟨c0, c1, t0, t1, f0, f1, k0, k1⟩ := hi
  simp only at q0 q1 q2 q3 c0 c1 t0 t1 f0 f1 k0 k1
  have r0 := (hW.cell (p := ⟨Bi, 0, none⟩) hB).trans q0
  have r1 := (hW.cell (p := ⟨Bi, 0 + 1, none⟩) hB).trans q1
  have r2 := (hW.cell (p := ⟨Bi, 0 + 2, none⟩) hB).trans q2
  have r3 := (hW.cell (p := ⟨Bi, 0 + 3, none⟩) hB).trans q3
  have hBW : Bi < W.heap.size := Nat.lt_of_lt_of_le hB hW.size
  have HO := Lib.hid (fun W (hG : GW W) => ofC c W hG c0 c1)
  rw [show (ofL allL c).cls = cl from hcl] at HO
  have HG := Lib.hid (hG.on hW)
  have HJ := Lib.hid hJ
  have HY := Lib.hid hY
  clear hY hJ hJx hG hW hB q0 q1 q2 q3 hcl c0 c1
  subst h4' ht hf
  have e5 : (c == 5) = false := beq_eq_false_iff_ne.2 h5'
  have hw1 : IntKind.u64.wrap (tn : Int) = tn := by rw [IntKind.wrap_u64]; omega
  have hw2 : IntKind.u64.wrap (fn : Int) = fn := by rw [IntKind.wrap_u64]; omega
  have e6 : decide ((tn : Int) < fn) = true := decide_eq_true (by omega)
  have e7 : (tn : Int) < fn := by omega
  have m1 : min (tn : Int) fn = tn := by omega
  have m2 : max (tn : Int) fn = fn := by omega
  clear h5'
  refine (callsIn_wide (n := 4)).1 ?_
  refine callsIn_of_wp Tryd.func44 rfl trivial ?_ rfl
  simp only [Tryd.ntmps44, List.size_toArray, List.length_cons, List.length_nil, Nat.reduceAdd, Nat.reduceSub, Array.replicate_succ, Array.replicate_zero, List.push_toArray, List.append_toArray, List.nil_append, List.cons_append]
  gi_wp2_with (refine ⟨trivial, ?_⟩
               gi_at_call 42
               refine (callsIn_wide.2 (HO.out _ HG.out)).mono ?_
               rintro e w1 ⟨rfl, b1⟩
               have s0 := (b1.cell (p := ⟨Bi, 0, none⟩) hBW).trans r0
               have s1 := (b1.cell (p := ⟨Bi, 0 + 1, none⟩) hBW).trans r1
               have s2 := (b1.cell (p := ⟨Bi, 0 + 2, none⟩) hBW).trans r2
               have s3 := (b1.cell (p := ⟨Bi, 0 + 3, none⟩) hBW).trans r3
               have j1 := own_from_on HJ.out h0 b1
               have z1 := b1.size
               have z2 : w1.drew.heap.size = w1.heap.size := rfl
               skip)
  gi_region
  obtain ⟨fn0, tmps0, assign0, body0, hy0, hR0⟩ := HY.out 0 (.int .u64 (tn : Int)) w1.drew rfl (own_from_on HJ.out j1 (Below.refl _ _).drew) (by omega)
  gi_wp2
  refine hR0.mono ?_
  rintro e W3 ⟨_, ⟨rfl, hJ3, hk3⟩ | ⟨rfl, hJx3⟩⟩
  · obtain ⟨fn1, tmps1, assign1, body1, hy1, hR1⟩ := HY.out 1 (.int .u64 (fn : Int)) W3 rfl hJ3 (by have := hk3.1.size; have : w1.drew.heap.size = w1.heap.size := rfl; omega)
    gi_wp2
    refine hR1.mono ?_
    rintro e W4 ⟨_, ⟨rfl, hJ4, _⟩ | ⟨rfl, hJx4⟩⟩
    · gi_wp2
      go_end0
      exact ⟨⟨_, rfl⟩, .inl hJ4⟩
    · gi_wp2
      go_end0
      exact ⟨⟨_, rfl⟩, .inr ⟨_, hJx4⟩⟩
  · gi_wp2
    go_end0
    exact ⟨⟨_, rfl⟩, .inr ⟨_, hJx3⟩⟩

set_option maxRecDepth 100000 in
set_option maxHeartbeats 4000000 in
theorem skips_gt {Bi : Nat} {S : Nat → Prop} {c jt jf k : Int} (cl : Int) {w0 : World} (hi : Ins.Ok ⟨c, jt, jf, k⟩) (hG : GW w0) (hB : Bi < w0.heap.size) (hat : InsAt w0 Bi 0 ⟨c, jt, jf, k⟩) (hcl : clsI c = cl) (h4' : cl = 4) (h5' : c ≠ 5) (tn fn : Nat) (ht : jt = tn) (hf : jf = fn) (hlt : fn < tn) :
    Gives Tryd.prog 44 #[.pointer (some ⟨Bi, 0, none⟩)] 0 S [.int .u64 (fn : Int), .int .u64 (tn : Int)] w0 := by
  intro l J Jx W hW hJ hJx hY h0
  obtain ⟨q0, q1, q2, q3⟩ := hat
  obtain ⟨c0, c1, t0, t1, f0, f1, k0, k1⟩ := hi
  simp only at q0 q1 q2 q3 c0 c1 t0 t1 f0 f1 k0 k1
  have r0 := (hW.cell (p := ⟨Bi, 0, none⟩) hB).trans q0
  have r1 := (hW.cell (p := ⟨Bi, 0 + 1, none⟩) hB).trans q1
  have r2 := (hW.cell (p := ⟨Bi, 0 + 2, none⟩) hB).trans q2
  have r3 := (hW.cell (p := ⟨Bi, 0 + 3, none⟩) hB).trans q3
  have hBW : Bi < W.heap.size := Nat.lt_of_lt_of_le hB hW.size
  have HO := Lib.hid (fun W (hG : GW W) => ofC c W hG c0 c1)
  rw [show (ofL allL c).cls = cl from hcl] at HO
  have HG := Lib.hid (hG.on hW)
  have HJ := Lib.hid hJ
  have HY := Lib.hid hY
  clear hY hJ hJx hG hW hB q0 q1 q2 q3 hcl c0 c1
  subst h4' ht hf
  have e5 : (c == 5) = false := beq_eq_false_iff_ne.2 h5'
  have hw1 : IntKind.u64.wrap (tn : Int) = tn := by rw [IntKind.wrap_u64]; omega
  have hw2 : IntKind.u64.wrap (fn : Int) = fn := by rw [IntKind.wrap_u64]; omega
  have e6 : decide ((fn : Int) < tn) = true := decide_eq_true (by omega)
  have e7 : (fn : Int) < tn := by omega
  have m1 : min (tn : Int) fn = fn := by omega
  have m2 : max (tn : Int) fn = tn := by omega
  clear h5'
  refine (callsIn_wide (n := 4)).1 ?_
  refine callsIn_of_wp Tryd.func44 rfl trivial ?_ rfl
  simp only [Tryd.ntmps44, List.size_toArray, List.length_cons, List.length_nil, Nat.reduceAdd, Nat.reduceSub, Array.replicate_succ, Array.replicate_zero, List.push_toArray, List.append_toArray, List.nil_append, List.cons_append]
  gi_wp2_with (refine ⟨trivial, ?_⟩
               gi_at_call 42
               refine (callsIn_wide.2 (HO.out _ HG.out)).mono ?_
               rintro e w1 ⟨rfl, b1⟩
               have s0 := (b1.cell (p := ⟨Bi, 0, none⟩) hBW).trans r0
               have s1 := (b1.cell (p := ⟨Bi, 0 + 1, none⟩) hBW).trans r1
               have s2 := (b1.cell (p := ⟨Bi, 0 + 2, none⟩) hBW).trans r2
               have s3 := (b1.cell (p := ⟨Bi, 0 + 3, none⟩) hBW).trans r3
               have j1 := own_from_on HJ.out h0 b1
               have z1 := b1.size
               have z2 : w1.drew.heap.size = w1.heap.size := rfl
               skip)
  gi_region
  obtain ⟨fn0, tmps0, assign0, body0, hy0, hR0⟩ := HY.out 0 (.int .u64 (fn : Int)) w1.drew rfl (own_from_on HJ.out j1 (Below.refl _ _).drew) (by omega)
  gi_wp2
  refine hR0.mono ?_
  rintro e W3 ⟨_, ⟨rfl, hJ3, hk3⟩ | ⟨rfl, hJx3⟩⟩
  · obtain ⟨fn1, tmps1, assign1, body1, hy1, hR1⟩ := HY.out 1 (.int .u64 (tn : Int)) W3 rfl hJ3 (by have := hk3.1.size; have : w1.drew.heap.size = w1.heap.size := rfl; omega)
    gi_wp2
    refine hR1.mono ?_
    rintro e W4 ⟨_, ⟨rfl, hJ4, _⟩ | ⟨rfl, hJx4⟩⟩
    · gi_wp2
      go_end0
      exact ⟨⟨_, rfl⟩, .inl hJ4⟩
    · gi_wp2
      go_end0
      exact ⟨⟨_, rfl⟩, .inr ⟨_, hJx4⟩⟩
  · gi_wp2
    go_end0
    exact ⟨⟨_, rfl⟩, .inr ⟨_, hJx3⟩⟩

/-- What the iterator hands over. -/
theorem skips_gives {Bi : Nat} {S : Nat → Prop} {i : Ins} {w0 : World} (hi : i.Ok) (hG : GW w0) (hB : Bi < w0.heap.size) (hat : InsAt w0 Bi 0 i) : Gives Tryd.prog 44 #[.pointer (some ⟨Bi, 0, none⟩)] 0 S (u64V (skipsL i)) w0 := by
  obtain ⟨c, jt, jf, k⟩ := i
  have ho := hi
  obtain ⟨c0, c1, t0, t1, f0, f1, k0, k1⟩ := ho
  simp only at t0 t1 f0 f1 k0 k1
  obtain ⟨tn, rfl⟩ := Int.eq_ofNat_of_zero_le t0
  obtain ⟨fn, rfl⟩ := Int.eq_ofNat_of_zero_le f0
  obtain ⟨kn, rfl⟩ := Int.eq_ofNat_of_zero_le k0
  unfold skipsL
  simp only [Int.toNat_natCast]
  by_cases h0 : clsI c = 0
  · rw [if_pos (Or.inl h0)]; exact skips_none0 _ hi hG hB hat h0 rfl
  · by_cases h5 : clsI c = 5
    · rw [if_pos (Or.inr h5)]; exact skips_none5 _ hi hG hB hat h5 rfl
    · rw [if_neg (fun h => h.elim h0 h5)]
      by_cases h4 : clsI c = 4
      · rw [if_pos h4]
        by_cases hc : c = 5
        · rw [if_pos hc]; exact skips_ja _ hi hG hB hat h4 rfl hc kn rfl
        · rw [if_neg hc]
          rcases Nat.lt_trichotomy tn fn with h | h | h
          · rw [if_neg (by omega), Nat.min_eq_left (by omega), Nat.max_eq_right (by omega)]; exact skips_lt _ hi hG hB hat h4 rfl hc tn fn rfl rfl h
          · subst h
            rw [if_pos rfl]; exact skips_eq _ hi hG hB hat h4 rfl hc tn tn rfl rfl
          · rw [if_neg (by omega), Nat.min_eq_right (by omega), Nat.max_eq_left (by omega)]; exact skips_gt _ hi hG hB hat h4 rfl hc tn fn rfl rfl h
      · rw [if_neg h4]; exact skips_plain _ hi hG hB hat rfl h0 h4 h5
end Go.Proofs.YthhfpehngdohhaaDoor
