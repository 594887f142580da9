/- What the document's machine makes of an instruction: as the plain function says. Condition: numbers below 2 to the 32nd. -/
import Derived.Test.YtinfbmfmmbibbaaDoorVe
namespace Go.Proofs.YtinfbmfmmbibbaaDoor
open Go.RowKit
set_option linter.unusedVariables false
attribute [local go_sem ↓] Go.wp_at_zero Go.wp_at_succ

/-- The machine's numbers are below 2 to the 32nd. -/
def OkM (a x : Int) (c : Nat → Int) : Prop := U32 a ∧ U32 x ∧ ∀ j, U32 (c j)
/-- What comes of it: how many are left out and an error; the machine; the rest stays. -/
def DoTo (M : Nat) (o : Out) (w : World) (e : Ending) (w' : World) : Prop :=
  w.grownBy w' (some M) ∧ match o with
  | .go a x c n => e = .returned (.tuple #[.int .i64 n, .int .i64 0]) ∧ MachAt w' M a x 0 c false
  | .fin v => e = .returned (.tuple #[.int .i64 0, .int .i64 0]) ∧ ∃ a x c, MachAt w' M a x v c true
  | .bad r => e = .returned (.tuple #[.int .i64 0, .int .i64 r])
theorem one_field2 (x : Int) (n : ByteArray) (k : Int) (w : World) : (Instr.field 65 (.agg #[.int .u16 x, .string n, .int .u8 k]) 2).run Tryd.prog w = .ok (.int .u8 k) w := by kernel_rfl
/-- Block b is a box with an instruction. -/
def BoxI (w : World) (b : Nat) (c jt jf k : Int) : Prop := w.heap[b]? = some (.cells #[.int .u16 c, .int .u8 jt, .int .u8 jf, .int .u32 k] 40 (0, 0))
theorem BoxI.on {w w' : World} {b : Nat} {c jt jf k : Int} (h : BoxI w b c jt jf k) (hb : Below w.heap.size w w') : BoxI w' b c jt jf k := (hb.block b (lt_of_block h)).trans h
theorem BoxI.cells {w : World} {b : Nat} {c jt jf k : Int} (h : BoxI w b c jt jf k) : w.cell? ⟨b, 0, none⟩ = some (.int .u16 c) ∧ w.cell? ⟨b, 1, none⟩ = some (.int .u8 jt) ∧ w.cell? ⟨b, 2, none⟩ = some (.int .u8 jf) ∧ w.cell? ⟨b, 3, none⟩ = some (.int .u32 k) := by
  refine ⟨?_, ?_, ?_, ?_⟩ <;> (rw [cell_of_row w b _ _ 40 (0, 0) h]; rfl)
theorem BoxI.new2 {w w1 : World} {c jt jf k : Int} {o : Obj} (b : Below ((w.alloc (.cells #[.int .u16 c, .int .u8 jt, .int .u8 jf, .int .u32 k] 40)).alloc o).heap.size ((w.alloc (.cells #[.int .u16 c, .int .u8 jt, .int .u8 jf, .int .u32 k] 40)).alloc o) w1) : BoxI w1 w.heap.size c jt jf k :=
  (b.block _ (by simp; omega)).trans ((Below.heap_alloc _ o _ (by simp)).trans (heap_alloc_new w _))
theorem box2 {w w1 : World} {d : Dat} {o : Obj} (b : Below ((w.alloc o).alloc (.cells (datC d) 27)).heap.size ((w.alloc o).alloc (.cells (datC d) 27)) w1) : BoxD w1 (w.heap.size + 1) d := by
  have h := heap_alloc_new (w.alloc o) (.cells (datC d) 27)
  rw [World.size_alloc] at h
  exact (b.block _ (by simp)).trans h
set_option maxRecDepth 100000 in
set_option maxHeartbeats 4000000 in
theorem do_load1 (jt jf k a x t : Int) (c : Nat → Int) (M : Nat) (w : World) (d : Dat) (cd : Int) (nm : ByteArray) (hk : knownB cd = true) (hm : MachAt w M a x t c false) (ho : ofL allL cd = ⟨cd, nm, 1⟩) (r a' x' : Int) (c' : Nat → Int)
    (HL : Hid (∀ W : World, MachAt W M a x t c false → Calls Tryd.prog 28 #[.pointer (some ⟨M, 0, none⟩), .agg #[.int .u16 cd, .int .u8 jt, .int .u8 jf, .int .u32 k], datV d] W (LoadTo M r a' x' t c' W))) :
    Calls Tryd.prog 18 #[.pointer (some ⟨M, 0, none⟩), .agg #[.int .u16 cd, .int .u8 jt, .int .u8 jf, .int .u32 k], datV d] w fun e w' => e = .returned (.tuple #[.int .i64 0, .int .i64 r]) ∧ MachAt w' M a' x' t c' false ∧ w.grownBy w' (some M) := by
  have HK := Lib.hid (fun W => refKnown_any cd W)
  rw [hk] at HK
  have HO := Lib.hid (fun W => refOf_any cd W)
  rw [ho] at HO
  have HM := Lib.hid hm
  have hl := hm.lt
  have hfd := one_field2
  clear hm hk ho
  unfold datV datC at *
  go_enter Tryd.func18, Tryd.ntmps18
  go_wp2_with (first
    | (go_at_call 27; ((with_reducible refine (HK.out _).mono ?_); rintro e w1 ⟨rfl, b1⟩); have HM1 := Lib.hid (((HM.out.al _).al _).on b1); have bi := BoxI.new2 b1; obtain ⟨s0, s1, s2, s3⟩ := bi.cells; have HB := Lib.hid (box2 b1))
    | (go_at_call 19; ((with_reducible refine (HO.out _).mono ?_); rintro e w2 ⟨rfl, b2⟩); have HM2 := Lib.hid (HM1.out.on b2); clear s0 s1 s2 s3; obtain ⟨s0, s1, s2, s3⟩ := (bi.on b2).cells; obtain ⟨x0, x1, x2, x3, x4, x5, x6, x7, x8⟩ := (HB.out.on b2).cells)
    | (go_at_call 28; ((with_reducible refine (HL.out _ HM2.out).mono ?_); rintro e w3 ⟨rfl, hm3, g3⟩)))
  go_ret2
  exact ⟨rfl, hm3, ((((of_al2 w _ _ _).trans (of_below b1)).trans (of_below b2)).trans g3)⟩
set_option maxRecDepth 100000 in
set_option maxHeartbeats 4000000 in
theorem do_load2 (jt jf k a x t : Int) (c : Nat → Int) (M : Nat) (w : World) (d : Dat) (cd : Int) (nm : ByteArray) (hk : knownB cd = true) (hm : MachAt w M a x t c false) (ho : ofL allL cd = ⟨cd, nm, 2⟩) (r a' x' : Int) (c' : Nat → Int)
    (HL : Hid (∀ W : World, MachAt W M a x t c false → Calls Tryd.prog 28 #[.pointer (some ⟨M, 0, none⟩), .agg #[.int .u16 cd, .int .u8 jt, .int .u8 jf, .int .u32 k], datV d] W (LoadTo M r a' x' t c' W))) :
    Calls Tryd.prog 18 #[.pointer (some ⟨M, 0, none⟩), .agg #[.int .u16 cd, .int .u8 jt, .int .u8 jf, .int .u32 k], datV d] w fun e w' => e = .returned (.tuple #[.int .i64 0, .int .i64 r]) ∧ MachAt w' M a' x' t c' false ∧ w.grownBy w' (some M) := by
  have HK := Lib.hid (fun W => refKnown_any cd W)
  rw [hk] at HK
  have HO := Lib.hid (fun W => refOf_any cd W)
  rw [ho] at HO
  have HM := Lib.hid hm
  have hl := hm.lt
  have hfd := one_field2
  clear hm hk ho
  unfold datV datC at *
  go_enter Tryd.func18, Tryd.ntmps18
  go_wp2_with (first
    | (go_at_call 27; ((with_reducible refine (HK.out _).mono ?_); rintro e w1 ⟨rfl, b1⟩); have HM1 := Lib.hid (((HM.out.al _).al _).on b1); have bi := BoxI.new2 b1; obtain ⟨s0, s1, s2, s3⟩ := bi.cells; have HB := Lib.hid (box2 b1))
    | (go_at_call 19; ((with_reducible refine (HO.out _).mono ?_); rintro e w2 ⟨rfl, b2⟩); have HM2 := Lib.hid (HM1.out.on b2); clear s0 s1 s2 s3; obtain ⟨s0, s1, s2, s3⟩ := (bi.on b2).cells; obtain ⟨x0, x1, x2, x3, x4, x5, x6, x7, x8⟩ := (HB.out.on b2).cells)
    | (go_at_call 28; ((with_reducible refine (HL.out _ HM2.out).mono ?_); rintro e w3 ⟨rfl, hm3, g3⟩)))
  go_ret2
  exact ⟨rfl, hm3, ((((of_al2 w _ _ _).trans (of_below b1)).trans (of_below b2)).trans g3)⟩
set_option maxRecDepth 100000 in
set_option maxHeartbeats 4000000 in
theorem do_load6 (jt jf k a x t : Int) (c : Nat → Int) (M : Nat) (w : World) (d : Dat) (cd : Int) (nm : ByteArray) (hk : knownB cd = true) (hm : MachAt w M a x t c false) (ho : ofL allL cd = ⟨cd, nm, 6⟩) (r a' x' : Int) (c' : Nat → Int)
    (HL : Hid (∀ W : World, MachAt W M a x t c false → Calls Tryd.prog 28 #[.pointer (some ⟨M, 0, none⟩), .agg #[.int .u16 cd, .int .u8 jt, .int .u8 jf, .int .u32 k], datV d] W (LoadTo M r a' x' t c' W))) :
    Calls Tryd.prog 18 #[.pointer (some ⟨M, 0, none⟩), .agg #[.int .u16 cd, .int .u8 jt, .int .u8 jf, .int .u32 k], datV d] w fun e w' => e = .returned (.tuple #[.int .i64 0, .int .i64 r]) ∧ MachAt w' M a' x' t c' false ∧ w.grownBy w' (some M) := by
  have HK := Lib.hid (fun W => refKnown_any cd W)
  rw [hk] at HK
  have HO := Lib.hid (fun W => refOf_any cd W)
  rw [ho] at HO
  have HM := Lib.hid hm
  have hl := hm.lt
  have hfd := one_field2
  clear hm hk ho
  unfold datV datC at *
  go_enter Tryd.func18, Tryd.ntmps18
  go_wp2_with (first
    | (go_at_call 27; ((with_reducible refine (HK.out _).mono ?_); rintro e w1 ⟨rfl, b1⟩); have HM1 := Lib.hid (((HM.out.al _).al _).on b1); have bi := BoxI.new2 b1; obtain ⟨s0, s1, s2, s3⟩ := bi.cells; have HB := Lib.hid (box2 b1))
    | (go_at_call 19; ((with_reducible refine (HO.out _).mono ?_); rintro e w2 ⟨rfl, b2⟩); have HM2 := Lib.hid (HM1.out.on b2); clear s0 s1 s2 s3; obtain ⟨s0, s1, s2, s3⟩ := (bi.on b2).cells; obtain ⟨x0, x1, x2, x3, x4, x5, x6, x7, x8⟩ := (HB.out.on b2).cells)
    | (go_at_call 28; ((with_reducible refine (HL.out _ HM2.out).mono ?_); rintro e w3 ⟨rfl, hm3, g3⟩)))
  go_ret2
  exact ⟨rfl, hm3, ((((of_al2 w _ _ _).trans (of_below b1)).trans (of_below b2)).trans g3)⟩
set_option maxRecDepth 100000 in
set_option maxHeartbeats 4000000 in
theorem do_num (jt jf k a x t : Int) (c : Nat → Int) (M : Nat) (w : World) (d : Dat) (cd : Int) (nm : ByteArray) (hk : knownB cd = true) (hm : MachAt w M a x t c false) (ho : ofL allL cd = ⟨cd, nm, 3⟩) (r a' x' : Int) (c' : Nat → Int) (ov : Bool)
    (HL : Hid (∀ W : World, MachAt W M a x t c false → Calls Tryd.prog 29 #[.pointer (some ⟨M, 0, none⟩), .agg #[.int .u16 cd, .int .u8 jt, .int .u8 jf, .int .u32 k]] W (NumTo M r a' x' t c' ov W))) :
    Calls Tryd.prog 18 #[.pointer (some ⟨M, 0, none⟩), .agg #[.int .u16 cd, .int .u8 jt, .int .u8 jf, .int .u32 k], datV d] w fun e w' => e = .returned (.tuple #[.int .i64 0, .int .i64 r]) ∧ MachAt w' M a' x' t c' ov ∧ w.grownBy w' (some M) := by
  have HK := Lib.hid (fun W => refKnown_any cd W)
  rw [hk] at HK
  have HO := Lib.hid (fun W => refOf_any cd W)
  rw [ho] at HO
  have HM := Lib.hid hm
  have hl := hm.lt
  have hfd := one_field2
  clear hm hk ho
  unfold datV datC at *
  go_enter Tryd.func18, Tryd.ntmps18
  go_wp2_with (first
    | (go_at_call 27; ((with_reducible refine (HK.out _).mono ?_); rintro e w1 ⟨rfl, b1⟩); have HM1 := Lib.hid (((HM.out.al _).al _).on b1); have bi := BoxI.new2 b1; obtain ⟨s0, s1, s2, s3⟩ := bi.cells; have HB := Lib.hid (box2 b1))
    | (go_at_call 19; ((with_reducible refine (HO.out _).mono ?_); rintro e w2 ⟨rfl, b2⟩); have HM2 := Lib.hid (HM1.out.on b2); clear s0 s1 s2 s3; obtain ⟨s0, s1, s2, s3⟩ := (bi.on b2).cells; obtain ⟨x0, x1, x2, x3, x4, x5, x6, x7, x8⟩ := (HB.out.on b2).cells)
    | (go_at_call 29; ((with_reducible refine (HL.out _ HM2.out).mono ?_); rintro e w3 ⟨rfl, hm3, g3⟩)))
  go_ret2
  exact ⟨rfl, hm3, ((((of_al2 w _ _ _).trans (of_below b1)).trans (of_below b2)).trans g3)⟩
set_option maxRecDepth 100000 in
set_option maxHeartbeats 4000000 in
theorem do_jump (jt jf k a x t : Int) (c : Nat → Int) (M : Nat) (w : World) (d : Dat) (cd : Int) (nm : ByteArray) (hk : knownB cd = true) (hm : MachAt w M a x t c false) (ho : ofL allL cd = ⟨cd, nm, 4⟩) (n : Nat)
    (HL : Hid (∀ W : World, MachAt W M a x t c false → Calls Tryd.prog 30 #[.pointer (some ⟨M, 0, none⟩), .agg #[.int .u16 cd, .int .u8 jt, .int .u8 jf, .int .u32 k]] W (JumpTo n W))) :
    Calls Tryd.prog 18 #[.pointer (some ⟨M, 0, none⟩), .agg #[.int .u16 cd, .int .u8 jt, .int .u8 jf, .int .u32 k], datV d] w fun e w' => e = .returned (.tuple #[.int .i64 n, .int .i64 0]) ∧ MachAt w' M a x t c false ∧ w.grownBy w' (some M) := by
  have HK := Lib.hid (fun W => refKnown_any cd W)
  rw [hk] at HK
  have HO := Lib.hid (fun W => refOf_any cd W)
  rw [ho] at HO
  have HM := Lib.hid hm
  have hl := hm.lt
  have hfd := one_field2
  clear hm hk ho
  unfold datV datC at *
  go_enter Tryd.func18, Tryd.ntmps18
  go_wp2_with (first
    | (go_at_call 27; ((with_reducible refine (HK.out _).mono ?_); rintro e w1 ⟨rfl, b1⟩); have HM1 := Lib.hid (((HM.out.al _).al _).on b1); have bi := BoxI.new2 b1; obtain ⟨s0, s1, s2, s3⟩ := bi.cells; have HB := Lib.hid (box2 b1))
    | (go_at_call 19; ((with_reducible refine (HO.out _).mono ?_); rintro e w2 ⟨rfl, b2⟩); have HM2 := Lib.hid (HM1.out.on b2); clear s0 s1 s2 s3; obtain ⟨s0, s1, s2, s3⟩ := (bi.on b2).cells; obtain ⟨x0, x1, x2, x3, x4, x5, x6, x7, x8⟩ := (HB.out.on b2).cells)
    | (go_at_call 30; ((with_reducible refine (HL.out _ HM2.out).mono ?_); rintro e w3 ⟨rfl, b3⟩); have HM3 := Lib.hid (HM2.out.on b3)))
  go_ret2
  exact ⟨rfl, HM3.out, ((((of_al2 w _ _ _).trans (of_below b1)).trans (of_below b2)).trans (of_below b3))⟩
set_option maxRecDepth 100000 in
set_option maxHeartbeats 4000000 in
theorem do_ret6 (jt jf k a x t : Int) (c : Nat → Int) (M : Nat) (w : World) (d : Dat) (cd : Int) (nm : ByteArray) (hk : knownB cd = true) (hm : MachAt w M a x t c false) (ho : ofL allL cd = ⟨cd, nm, 5⟩) (hc : cd = 6) :
    Calls Tryd.prog 18 #[.pointer (some ⟨M, 0, none⟩), .agg #[.int .u16 cd, .int .u8 jt, .int .u8 jf, .int .u32 k], datV d] w fun e w' => e = .returned (.tuple #[.int .i64 0, .int .i64 0]) ∧ MachAt w' M a x k c true ∧ w.grownBy w' (some M) := by
  subst hc
  have HK := Lib.hid (fun W => refKnown_any 6 W)
  rw [hk] at HK
  have HO := Lib.hid (fun W => refOf_any 6 W)
  rw [ho] at HO
  have HM := Lib.hid hm
  have hl := hm.lt
  have hfd := one_field2
  clear hm hk ho
  unfold datV datC at *
  go_enter Tryd.func18, Tryd.ntmps18
  go_wp2_with (first
    | (go_at_call 27; ((with_reducible refine (HK.out _).mono ?_); rintro e w1 ⟨rfl, b1⟩); have HM1 := Lib.hid (((HM.out.al _).al _).on b1); have bi := BoxI.new2 b1; obtain ⟨s0, s1, s2, s3⟩ := bi.cells; have HB := Lib.hid (box2 b1))
    | (go_at_call 19; ((with_reducible refine (HO.out _).mono ?_); rintro e w2 ⟨rfl, b2⟩); have HM2 := Lib.hid (HM1.out.on b2); clear s0 s1 s2 s3; obtain ⟨s0, s1, s2, s3⟩ := (bi.on b2).cells; have p0 := HM2.out.cell 0 _ rfl; have p2 := HM2.out.cell 2 _ rfl; have p4 := HM2.out.cell 19 _ rfl; have pf := HM2.out.free; have pl := HM2.out.lt)
    )
  go_ret2
  exact ⟨rfl, ((HM2.out.set_ 19 _ rfl).set_ 2 _ rfl), (((((of_al2 w _ _ _).trans (of_below b1)).trans (of_below b2)).trans (of_set _ M 19 _)).trans (of_set _ M 2 _))⟩
set_option maxRecDepth 100000 in
set_option maxHeartbeats 4000000 in
theorem do_ret22 (jt jf k a x t : Int) (c : Nat → Int) (M : Nat) (w : World) (d : Dat) (cd : Int) (nm : ByteArray) (hk : knownB cd = true) (hm : MachAt w M a x t c false) (ho : ofL allL cd = ⟨cd, nm, 5⟩) (hc : cd = 22) :
    Calls Tryd.prog 18 #[.pointer (some ⟨M, 0, none⟩), .agg #[.int .u16 cd, .int .u8 jt, .int .u8 jf, .int .u32 k], datV d] w fun e w' => e = .returned (.tuple #[.int .i64 0, .int .i64 0]) ∧ MachAt w' M a x a c true ∧ w.grownBy w' (some M) := by
  subst hc
  have HK := Lib.hid (fun W => refKnown_any 22 W)
  rw [hk] at HK
  have HO := Lib.hid (fun W => refOf_any 22 W)
  rw [ho] at HO
  have HM := Lib.hid hm
  have hl := hm.lt
  have hfd := one_field2
  clear hm hk ho
  unfold datV datC at *
  go_enter Tryd.func18, Tryd.ntmps18
  go_wp2_with (first
    | (go_at_call 27; ((with_reducible refine (HK.out _).mono ?_); rintro e w1 ⟨rfl, b1⟩); have HM1 := Lib.hid (((HM.out.al _).al _).on b1); have bi := BoxI.new2 b1; obtain ⟨s0, s1, s2, s3⟩ := bi.cells; have HB := Lib.hid (box2 b1))
    | (go_at_call 19; ((with_reducible refine (HO.out _).mono ?_); rintro e w2 ⟨rfl, b2⟩); have HM2 := Lib.hid (HM1.out.on b2); clear s0 s1 s2 s3; obtain ⟨s0, s1, s2, s3⟩ := (bi.on b2).cells; have p0 := HM2.out.cell 0 _ rfl; have p2 := HM2.out.cell 2 _ rfl; have p4 := HM2.out.cell 19 _ rfl; have pf := HM2.out.free; have pl := HM2.out.lt)
    )
  go_ret2
  exact ⟨rfl, (((HM2.out.set_ 19 _ rfl).set_ 2 _ rfl).set_ 2 _ rfl), ((((((of_al2 w _ _ _).trans (of_below b1)).trans (of_below b2)).trans (of_set _ M 19 _)).trans (of_set _ M 2 _)).trans (of_set _ M 2 _))⟩
set_option maxRecDepth 100000 in
theorem do_op (jt jf k : Int) (M : Nat) (w : World) (d : Dat) (cd : Int) (hk : knownB cd = false) :
    Calls Tryd.prog 18 #[.pointer (some ⟨M, 0, none⟩), .agg #[.int .u16 cd, .int .u8 jt, .int .u8 jf, .int .u32 k], datV d] w fun e w' => e = .returned (.tuple #[.int .i64 0, .int .i64 40]) ∧ w.grownBy w' (some M) := by
  have HK := Lib.hid (fun W => refKnown_any cd W)
  rw [hk] at HK
  clear hk
  unfold datV datC
  go_enter Tryd.func18, Tryd.ntmps18
  go_wp2_with (go_at_call 27; ((with_reducible refine (HK.out _).mono ?_); rintro e w1 ⟨rfl, b1⟩))
  go_ret2
  exact ⟨rfl, (of_al2 w _ _ _).trans (of_below b1)⟩
end Go.Proofs.YtinfbmfmmbibbaaDoor
