/- What the document's own Next returns: to where an instruction leads. Condition: a program of at most MaxInsns instructions. What the document's own Reached returns: what is reached. Condition: a program of at most MaxInsns instructions. -/
import Derived.Test.YtohfampfnhfnlaaDoorOa
import Derived.Test.YtohfampfnhfnlaaDoorVh
import Derived.RegionTactic
import Derived.BigRegion
import Derived.Test.YtohfampfnhfnlaaDoorFi
namespace Go.Proofs.YtohfampfnhfnlaaDoor
open Go.RowKit
set_option linter.unusedVariables false
attribute [local go_sem ↓] Go.wp_at_zero Go.wp_at_succ

theorem two_same (n a : Nat) : two n a a = if a < n then [a] else [] := by
  unfold two
  rw [Nat.min_self, if_neg (fun h : max a a < n ∧ a ≠ a => h.2 rfl), List.append_nil]
theorem two_lt {n a b : Nat} (h : a < b) : two n a b = (if a < n then [a] else []) ++ (if b < n then [b] else []) := by
  unfold two
  rw [Nat.min_eq_left (by omega), Nat.max_eq_right (by omega)]
  by_cases hb : b < n
  · rw [if_pos (⟨hb, by omega⟩ : b < n ∧ a ≠ b), if_pos hb]
  · rw [if_neg (fun e : b < n ∧ a ≠ b => hb e.1), if_neg hb]
theorem two_comm (n a b : Nat) : two n a b = two n b a := by
  unfold two
  rw [Nat.min_comm, Nat.max_comm]
  by_cases e : a = b <;> simp [e, eq_comm]
/-- Places in a row of their own. -/
def NextTo (l : List Nat) (w : World) (e : Ending) (w' : World) : Prop := ∃ q c, e = .returned (.slice q l.length c) ∧ w'.ownsRow w.heap.size 3 1 (.slice q l.length c) l.length (plV l) ∧ Below w.heap.size w w'
theorem next_nil {w w' : World} (h : Below w.heap.size w w') : NextTo [] w (.returned (.slice none 0 0)) w' := ⟨none, 0, rfl, World.ownsRow_nil _ _ _ _, h⟩
def NextOf (a0 : Option Addr) (n cap : Nat) (k : Int) (l : List Nat) (w : World) : Prop := Calls Tryd.prog 57 #[.slice a0 n cap, .int .i64 k] w (NextTo l w)
theorem rn_low (a0 : Option Addr) (n cap : Nat) (k : Int) (w : World) (h : k < 0) : NextOf a0 n cap k [] w := by
  go_enter Tryd.func57, Tryd.ntmps57
  go_wp2
  go_ret
  exact next_nil (Below.refl _ _)
theorem rn_high (a0 : Option Addr) (n cap : Nat) (k : Int) (w : World) (h : 0 ≤ k) (h2 : (n : Int) ≤ k) : NextOf a0 n cap k [] w := by
  go_enter Tryd.func57, Tryd.ntmps57
  go_wp2
  go_ret
  exact next_nil (Below.refl _ _)
theorem rn_long (a0 : Option Addr) (n cap : Nat) (k : Int) (w : World) (h : 0 ≤ k) (h2 : k < n) (h3 : (4096 : Int) < n) : NextOf a0 n cap k [] w := by
  go_enter Tryd.func57, Tryd.ntmps57
  go_wp2
  go_ret
  exact next_nil (Below.refl _ _)
set_option maxRecDepth 100000 in
set_option maxHeartbeats 8000000 in
theorem rn_plain1 (b o n cap k : Nat) (i : Ins) (hok : i.Ok) (cl : Int) (w : World) (hk : k < n) (hn : n ≤ 4096) (hat : InsAt w b (o + k * 4) i) (hcl : clsI i.c = cl) (h0 : cl ≠ 0) (h4 : cl ≠ 4) (h5 : cl ≠ 5) (hx : k + 1 < n) :
    NextOf (some ⟨b, o, none⟩) n cap k [k + 1] w := by
  obtain ⟨i0, hi, hz0, hz1, hz2⟩ := info_parts int_info
  have HI := Lib.hid hi
  have H0 := Lib.hid hz0
  have H1 := Lib.hid hz1
  have H2 := Lib.hid hz2
  obtain ⟨ic, jt, jf, kk⟩ := i
  obtain ⟨q0, q1, q2, q3⟩ := hat
  obtain ⟨c0, c1, t0, t1, f0, f1, k0, k1⟩ := hok
  simp only at q0 q1 q2 q3 c0 c1 t0 t1 f0 f1 k0 k1 hcl
  have HO := Lib.hid (fun W => refOf_any ic W)
  rw [show (ofL allL ic).cls = cl from hcl] at HO
  obtain ⟨oc, hoc⟩ : ∃ x, x = (ofL allL ic).code := ⟨_, rfl⟩
  obtain ⟨on, hon⟩ : ∃ x, x = (ofL allL ic).name := ⟨_, rfl⟩
  rw [← hoc, ← hon] at HO
  have hb := World.block_lt_of_cell? w _ q0
  have hfd := one_field2
  have kn : (k : Int) < n := by omega
  have n4 : (n : Int) ≤ 4096 := by omega
  have n5 : decide ((4096 : Int) < n) = false := decide_eq_false (by omega)
  have n6 : decide ((n : Int) ≤ k) = false := decide_eq_false (by omega)
  clear hi hz0 hz1 hz2 hoc hon hcl hk hn
  have e0 : (cl == 0) = false := beq_eq_false_iff_ne.2 h0
  have e4 : (cl == 4) = false := beq_eq_false_iff_ne.2 h4
  have e5 : (cl == 5) = false := beq_eq_false_iff_ne.2 h5
  clear h0 h4 h5
  have x1 : (k : Int) + 1 < n := by omega
  clear hx
  go_enter Tryd.func57, Tryd.ntmps57
  go_wp2_with (first
    | (go_at_call 22; ((with_reducible refine (HO.out _).mono ?_); rintro e w1 ⟨rfl, b1⟩); have BW : Below w.heap.size w w1 := b1; have r0 := (b1.cell hb).trans q0; have r1 := (b1.cell (p := ⟨b, o + k * 4 + 1, none⟩) hb).trans q1; have r2 := (b1.cell (p := ⟨b, o + k * 4 + 2, none⟩) hb).trans q2; have r3 := (b1.cell (p := ⟨b, o + k * 4 + 3, none⟩) hb).trans q3)
    | ((with_reducible show wpList _ _ _ (⟨some 91, _, _, _, _, _⟩ :: _) _ _)
       refine wpList_append_own _ rfl (.tmp 88) (.tmp 90) 48 rfl w.heap.size 3 i0 _ 1 8 Tryd.underlying48 HI.out H0.out H1.out H2.out rfl Nat.one_pos (.slice none 0 0) 0 [] rfl (World.ownsRow_nil _ _ _ _) _ 1 1 [.int .i64 ((k : Int) + 1)] rfl rfl (news_lit _ _ _ _ rfl) (by intro v hv; rw [List.mem_singleton.1 hv]; rfl) (by unfold maxLen; omega) (by omega) (by have := b1.size; simp; omega) ?_
       intro v4 w4 o4 hg4 _
       have b4 : Below w.heap.size w w4 := (BW.alloc BW.size _).grown hg4 (by have := b1.size; simp; omega) (fun g hg => by cases hg)
       have HO4 := Lib.hid o4
       obtain ⟨q4, c4, rfl⟩ := own_form HO4.out
       clear o4 hg4))
  go_ret
  exact ⟨q4, c4, rfl, by rw [show plV [k + 1] = [.int .i64 ((k : Int) + 1)] by simp [plV]]; exact HO4.out, b4⟩
set_option maxRecDepth 100000 in
set_option maxHeartbeats 8000000 in
theorem rn_plain0 (b o n cap k : Nat) (i : Ins) (hok : i.Ok) (cl : Int) (w : World) (hk : k < n) (hn : n ≤ 4096) (hat : InsAt w b (o + k * 4) i) (hcl : clsI i.c = cl) (h0 : cl ≠ 0) (h4 : cl ≠ 4) (h5 : cl ≠ 5) (hx : ¬ k + 1 < n) :
    NextOf (some ⟨b, o, none⟩) n cap k [] w := by
  obtain ⟨i0, hi, hz0, hz1, hz2⟩ := info_parts int_info
  have HI := Lib.hid hi
  have H0 := Lib.hid hz0
  have H1 := Lib.hid hz1
  have H2 := Lib.hid hz2
  obtain ⟨ic, jt, jf, kk⟩ := i
  obtain ⟨q0, q1, q2, q3⟩ := hat
  obtain ⟨c0, c1, t0, t1, f0, f1, k0, k1⟩ := hok
  simp only at q0 q1 q2 q3 c0 c1 t0 t1 f0 f1 k0 k1 hcl
  have HO := Lib.hid (fun W => refOf_any ic W)
  rw [show (ofL allL ic).cls = cl from hcl] at HO
  obtain ⟨oc, hoc⟩ : ∃ x, x = (ofL allL ic).code := ⟨_, rfl⟩
  obtain ⟨on, hon⟩ : ∃ x, x = (ofL allL ic).name := ⟨_, rfl⟩
  rw [← hoc, ← hon] at HO
  have hb := World.block_lt_of_cell? w _ q0
  have hfd := one_field2
  have kn : (k : Int) < n := by omega
  have n4 : (n : Int) ≤ 4096 := by omega
  have n5 : decide ((4096 : Int) < n) = false := decide_eq_false (by omega)
  have n6 : decide ((n : Int) ≤ k) = false := decide_eq_false (by omega)
  clear hi hz0 hz1 hz2 hoc hon hcl hk hn
  have e0 : (cl == 0) = false := beq_eq_false_iff_ne.2 h0
  have e4 : (cl == 4) = false := beq_eq_false_iff_ne.2 h4
  have e5 : (cl == 5) = false := beq_eq_false_iff_ne.2 h5
  clear h0 h4 h5
  have x1 : ¬ (k : Int) + 1 < n := by omega
  clear hx
  go_enter Tryd.func57, Tryd.ntmps57
  go_wp2_with (first
    | (go_at_call 22; ((with_reducible refine (HO.out _).mono ?_); rintro e w1 ⟨rfl, b1⟩); have BW : Below w.heap.size w w1 := b1; have r0 := (b1.cell hb).trans q0; have r1 := (b1.cell (p := ⟨b, o + k * 4 + 1, none⟩) hb).trans q1; have r2 := (b1.cell (p := ⟨b, o + k * 4 + 2, none⟩) hb).trans q2; have r3 := (b1.cell (p := ⟨b, o + k * 4 + 3, none⟩) hb).trans q3))
  go_ret
  exact next_nil BW
set_option maxRecDepth 100000 in
set_option maxHeartbeats 8000000 in
theorem rn_ja1 (b o n cap k : Nat) (i : Ins) (hok : i.Ok) (cl : Int) (w : World) (hk : k < n) (hn : n ≤ 4096) (hat : InsAt w b (o + k * 4) i) (hcl : clsI i.c = cl) (h4 : cl = 4) (h5 : i.c = 5) (hx : k + 1 + i.k.toNat < n) :
    NextOf (some ⟨b, o, none⟩) n cap k [k + 1 + i.k.toNat] w := by
  obtain ⟨i0, hi, hz0, hz1, hz2⟩ := info_parts int_info
  have HI := Lib.hid hi
  have H0 := Lib.hid hz0
  have H1 := Lib.hid hz1
  have H2 := Lib.hid hz2
  obtain ⟨ic, jt, jf, kk⟩ := i
  obtain ⟨q0, q1, q2, q3⟩ := hat
  obtain ⟨c0, c1, t0, t1, f0, f1, k0, k1⟩ := hok
  simp only at q0 q1 q2 q3 c0 c1 t0 t1 f0 f1 k0 k1 hcl
  have HO := Lib.hid (fun W => refOf_any ic W)
  rw [show (ofL allL ic).cls = cl from hcl] at HO
  obtain ⟨oc, hoc⟩ : ∃ x, x = (ofL allL ic).code := ⟨_, rfl⟩
  obtain ⟨on, hon⟩ : ∃ x, x = (ofL allL ic).name := ⟨_, rfl⟩
  rw [← hoc, ← hon] at HO
  have hb := World.block_lt_of_cell? w _ q0
  have hfd := one_field2
  have kn : (k : Int) < n := by omega
  have n4 : (n : Int) ≤ 4096 := by omega
  have n5 : decide ((4096 : Int) < n) = false := decide_eq_false (by omega)
  have n6 : decide ((n : Int) ≤ k) = false := decide_eq_false (by omega)
  clear hi hz0 hz1 hz2 hoc hon hcl hk hn
  subst h4
  obtain rfl : ic = 5 := h5
  obtain ⟨kn, rfl⟩ := Int.eq_ofNat_of_zero_le k0
  have hw1 : IntKind.i64.wrap (kn : Int) = kn := by rw [IntKind.wrap_i64]; omega
  have hw2 : IntKind.i64.wrap ((k : Int) + 1 + kn) = k + 1 + kn := by rw [IntKind.wrap_i64]; omega
  simp only [Int.toNat_natCast] at hx ⊢
  have x1 : (k : Int) + 1 + kn < n := by omega
  clear hx k1
  go_enter Tryd.func57, Tryd.ntmps57
  go_wp2_with (first
    | (go_at_call 22; ((with_reducible refine (HO.out _).mono ?_); rintro e w1 ⟨rfl, b1⟩); have r0 := (b1.cell hb).trans q0; have r1 := (b1.cell (p := ⟨b, o + k * 4 + 1, none⟩) hb).trans q1; have r2 := (b1.cell (p := ⟨b, o + k * 4 + 2, none⟩) hb).trans q2; have r3 := (b1.cell (p := ⟨b, o + k * 4 + 3, none⟩) hb).trans q3))
  go_region
  go_wp2
  go_region
  have BW : Below w.heap.size w w1.drew.drew := b1.drew.drew
  go_wp2_with (first
    | ((with_reducible show wpList _ _ _ (⟨some 91, _, _, _, _, _⟩ :: _) _ _)
       refine wpList_append_own _ rfl (.tmp 88) (.tmp 90) 48 rfl w.heap.size 3 i0 _ 1 8 Tryd.underlying48 HI.out H0.out H1.out H2.out rfl Nat.one_pos (.slice none 0 0) 0 [] rfl (World.ownsRow_nil _ _ _ _) _ 1 1 [.int .i64 ((k : Int) + 1 + kn)] rfl rfl (news_lit _ _ _ _ rfl) (by intro v hv; rw [List.mem_singleton.1 hv]; rfl) (by unfold maxLen; omega) (by omega) (by have := b1.size; simp; omega) ?_
       intro v4 w4 o4 hg4 _
       have b4 : Below w.heap.size w w4 := (BW.alloc BW.size _).grown hg4 (by have := b1.size; simp; omega) (fun g hg => by cases hg)
       have HO4 := Lib.hid o4
       obtain ⟨q4, c4, rfl⟩ := own_form HO4.out
       clear o4 hg4))
  go_ret
  exact ⟨q4, c4, rfl, by rw [show plV [k + 1 + kn] = [.int .i64 ((k : Int) + 1 + kn)] by simp [plV]]; exact HO4.out, b4⟩
set_option maxRecDepth 100000 in
set_option maxHeartbeats 8000000 in
theorem rn_ja0 (b o n cap k : Nat) (i : Ins) (hok : i.Ok) (cl : Int) (w : World) (hk : k < n) (hn : n ≤ 4096) (hat : InsAt w b (o + k * 4) i) (hcl : clsI i.c = cl) (h4 : cl = 4) (h5 : i.c = 5) (hx : ¬ k + 1 + i.k.toNat < n) :
    NextOf (some ⟨b, o, none⟩) n cap k [] w := by
  obtain ⟨i0, hi, hz0, hz1, hz2⟩ := info_parts int_info
  have HI := Lib.hid hi
  have H0 := Lib.hid hz0
  have H1 := Lib.hid hz1
  have H2 := Lib.hid hz2
  obtain ⟨ic, jt, jf, kk⟩ := i
  obtain ⟨q0, q1, q2, q3⟩ := hat
  obtain ⟨c0, c1, t0, t1, f0, f1, k0, k1⟩ := hok
  simp only at q0 q1 q2 q3 c0 c1 t0 t1 f0 f1 k0 k1 hcl
  have HO := Lib.hid (fun W => refOf_any ic W)
  rw [show (ofL allL ic).cls = cl from hcl] at HO
  obtain ⟨oc, hoc⟩ : ∃ x, x = (ofL allL ic).code := ⟨_, rfl⟩
  obtain ⟨on, hon⟩ : ∃ x, x = (ofL allL ic).name := ⟨_, rfl⟩
  rw [← hoc, ← hon] at HO
  have hb := World.block_lt_of_cell? w _ q0
  have hfd := one_field2
  have kn : (k : Int) < n := by omega
  have n4 : (n : Int) ≤ 4096 := by omega
  have n5 : decide ((4096 : Int) < n) = false := decide_eq_false (by omega)
  have n6 : decide ((n : Int) ≤ k) = false := decide_eq_false (by omega)
  clear hi hz0 hz1 hz2 hoc hon hcl hk hn
  subst h4
  obtain rfl : ic = 5 := h5
  obtain ⟨kn, rfl⟩ := Int.eq_ofNat_of_zero_le k0
  have hw1 : IntKind.i64.wrap (kn : Int) = kn := by rw [IntKind.wrap_i64]; omega
  have hw2 : IntKind.i64.wrap ((k : Int) + 1 + kn) = k + 1 + kn := by rw [IntKind.wrap_i64]; omega
  simp only [Int.toNat_natCast] at hx ⊢
  have x1 : ¬ (k : Int) + 1 + kn < n := by omega
  clear hx k1
  go_enter Tryd.func57, Tryd.ntmps57
  go_wp2_with (first
    | (go_at_call 22; ((with_reducible refine (HO.out _).mono ?_); rintro e w1 ⟨rfl, b1⟩); have r0 := (b1.cell hb).trans q0; have r1 := (b1.cell (p := ⟨b, o + k * 4 + 1, none⟩) hb).trans q1; have r2 := (b1.cell (p := ⟨b, o + k * 4 + 2, none⟩) hb).trans q2; have r3 := (b1.cell (p := ⟨b, o + k * 4 + 3, none⟩) hb).trans q3))
  go_region
  go_wp2
  go_region
  have BW : Below w.heap.size w w1.drew.drew := b1.drew.drew
  go_wp2
  go_ret
  exact next_nil BW
set_option maxRecDepth 100000 in
set_option maxHeartbeats 8000000 in
theorem rn_jmp_eq1 (b o n cap k : Nat) (i : Ins) (hok : i.Ok) (cl : Int) (w : World) (hk : k < n) (hn : n ≤ 4096) (hat : InsAt w b (o + k * 4) i) (hcl : clsI i.c = cl) (h4 : cl = 4) (h5 : i.c ≠ 5) (hx : i.jt.toNat = i.jf.toNat ∧ k + 1 + i.jt.toNat < n ∧ True) :
    NextOf (some ⟨b, o, none⟩) n cap k [k + 1 + i.jt.toNat] w := by
  obtain ⟨i0, hi, hz0, hz1, hz2⟩ := info_parts int_info
  have HI := Lib.hid hi
  have H0 := Lib.hid hz0
  have H1 := Lib.hid hz1
  have H2 := Lib.hid hz2
  obtain ⟨ic, jt, jf, kk⟩ := i
  obtain ⟨q0, q1, q2, q3⟩ := hat
  obtain ⟨c0, c1, t0, t1, f0, f1, k0, k1⟩ := hok
  simp only at q0 q1 q2 q3 c0 c1 t0 t1 f0 f1 k0 k1 hcl
  have HO := Lib.hid (fun W => refOf_any ic W)
  rw [show (ofL allL ic).cls = cl from hcl] at HO
  obtain ⟨oc, hoc⟩ : ∃ x, x = (ofL allL ic).code := ⟨_, rfl⟩
  obtain ⟨on, hon⟩ : ∃ x, x = (ofL allL ic).name := ⟨_, rfl⟩
  rw [← hoc, ← hon] at HO
  have hb := World.block_lt_of_cell? w _ q0
  have hfd := one_field2
  have kn : (k : Int) < n := by omega
  have n4 : (n : Int) ≤ 4096 := by omega
  have n5 : decide ((4096 : Int) < n) = false := decide_eq_false (by omega)
  have n6 : decide ((n : Int) ≤ k) = false := decide_eq_false (by omega)
  clear hi hz0 hz1 hz2 hoc hon hcl hk hn
  subst h4
  obtain ⟨tn, rfl⟩ := Int.eq_ofNat_of_zero_le t0
  obtain ⟨fn, rfl⟩ := Int.eq_ofNat_of_zero_le f0
  have e5 : (ic == 5) = false := beq_eq_false_iff_ne.2 h5
  simp only [Int.toNat_natCast] at hx ⊢
  obtain ⟨x1, x2, x3⟩ := hx
  subst x1
  have y1 : (k : Int) + 1 + tn < n := by omega
  clear x2 x3 h5
  go_enter Tryd.func57, Tryd.ntmps57
  go_wp2_with (first
    | (go_at_call 22; ((with_reducible refine (HO.out _).mono ?_); rintro e w1 ⟨rfl, b1⟩); have r0 := (b1.cell hb).trans q0; have r1 := (b1.cell (p := ⟨b, o + k * 4 + 1, none⟩) hb).trans q1; have r2 := (b1.cell (p := ⟨b, o + k * 4 + 2, none⟩) hb).trans q2; have r3 := (b1.cell (p := ⟨b, o + k * 4 + 3, none⟩) hb).trans q3))
  go_region
  have BW : Below w.heap.size w w1.drew := b1.drew
  go_wp2_with (first
    | ((with_reducible show wpList _ _ _ (⟨some 91, _, _, _, _, _⟩ :: _) _ _)
       refine wpList_append_own _ rfl (.tmp 88) (.tmp 90) 48 rfl w.heap.size 3 i0 _ 1 8 Tryd.underlying48 HI.out H0.out H1.out H2.out rfl Nat.one_pos (.slice none 0 0) 0 [] rfl (World.ownsRow_nil _ _ _ _) _ 1 1 [.int .i64 ((k : Int) + 1 + tn)] rfl rfl (news_lit _ _ _ _ rfl) (by intro v hv; rw [List.mem_singleton.1 hv]; rfl) (by unfold maxLen; omega) (by omega) (by have := b1.size; simp; omega) ?_
       intro v4 w4 o4 hg4 _
       have b4 : Below w.heap.size w w4 := (BW.alloc BW.size _).grown hg4 (by have := b1.size; simp; omega) (fun g hg => by cases hg)
       have HO4 := Lib.hid o4
       obtain ⟨q4, c4, rfl⟩ := own_form HO4.out
       clear o4 hg4))
  go_ret
  exact ⟨q4, c4, rfl, by rw [show plV [k + 1 + tn] = [.int .i64 ((k : Int) + 1 + tn)] by simp [plV]]; exact HO4.out, b4⟩
set_option maxRecDepth 100000 in
set_option maxHeartbeats 8000000 in
theorem rn_jmp_eq0 (b o n cap k : Nat) (i : Ins) (hok : i.Ok) (cl : Int) (w : World) (hk : k < n) (hn : n ≤ 4096) (hat : InsAt w b (o + k * 4) i) (hcl : clsI i.c = cl) (h4 : cl = 4) (h5 : i.c ≠ 5) (hx : i.jt.toNat = i.jf.toNat ∧ ¬ k + 1 + i.jt.toNat < n ∧ True) :
    NextOf (some ⟨b, o, none⟩) n cap k [] w := by
  obtain ⟨i0, hi, hz0, hz1, hz2⟩ := info_parts int_info
  have HI := Lib.hid hi
  have H0 := Lib.hid hz0
  have H1 := Lib.hid hz1
  have H2 := Lib.hid hz2
  obtain ⟨ic, jt, jf, kk⟩ := i
  obtain ⟨q0, q1, q2, q3⟩ := hat
  obtain ⟨c0, c1, t0, t1, f0, f1, k0, k1⟩ := hok
  simp only at q0 q1 q2 q3 c0 c1 t0 t1 f0 f1 k0 k1 hcl
  have HO := Lib.hid (fun W => refOf_any ic W)
  rw [show (ofL allL ic).cls = cl from hcl] at HO
  obtain ⟨oc, hoc⟩ : ∃ x, x = (ofL allL ic).code := ⟨_, rfl⟩
  obtain ⟨on, hon⟩ : ∃ x, x = (ofL allL ic).name := ⟨_, rfl⟩
  rw [← hoc, ← hon] at HO
  have hb := World.block_lt_of_cell? w _ q0
  have hfd := one_field2
  have kn : (k : Int) < n := by omega
  have n4 : (n : Int) ≤ 4096 := by omega
  have n5 : decide ((4096 : Int) < n) = false := decide_eq_false (by omega)
  have n6 : decide ((n : Int) ≤ k) = false := decide_eq_false (by omega)
  clear hi hz0 hz1 hz2 hoc hon hcl hk hn
  subst h4
  obtain ⟨tn, rfl⟩ := Int.eq_ofNat_of_zero_le t0
  obtain ⟨fn, rfl⟩ := Int.eq_ofNat_of_zero_le f0
  have e5 : (ic == 5) = false := beq_eq_false_iff_ne.2 h5
  simp only [Int.toNat_natCast] at hx ⊢
  obtain ⟨x1, x2, x3⟩ := hx
  subst x1
  have y1 : ¬ (k : Int) + 1 + tn < n := by omega
  clear x2 x3 h5
  go_enter Tryd.func57, Tryd.ntmps57
  go_wp2_with (first
    | (go_at_call 22; ((with_reducible refine (HO.out _).mono ?_); rintro e w1 ⟨rfl, b1⟩); have r0 := (b1.cell hb).trans q0; have r1 := (b1.cell (p := ⟨b, o + k * 4 + 1, none⟩) hb).trans q1; have r2 := (b1.cell (p := ⟨b, o + k * 4 + 2, none⟩) hb).trans q2; have r3 := (b1.cell (p := ⟨b, o + k * 4 + 3, none⟩) hb).trans q3))
  go_region
  have BW : Below w.heap.size w w1.drew := b1.drew
  go_wp2
  go_ret
  exact next_nil BW
set_option maxRecDepth 100000 in
set_option maxHeartbeats 8000000 in
theorem rn_jmp_lt2 (b o n cap k : Nat) (i : Ins) (hok : i.Ok) (cl : Int) (w : World) (hk : k < n) (hn : n ≤ 4096) (hat : InsAt w b (o + k * 4) i) (hcl : clsI i.c = cl) (h4 : cl = 4) (h5 : i.c ≠ 5) (hx : i.jt.toNat < i.jf.toNat ∧ k + 1 + i.jt.toNat < n ∧ k + 1 + i.jf.toNat < n) :
    NextOf (some ⟨b, o, none⟩) n cap k [k + 1 + i.jt.toNat, k + 1 + i.jf.toNat] w := by
  obtain ⟨i0, hi, hz0, hz1, hz2⟩ := info_parts int_info
  have HI := Lib.hid hi
  have H0 := Lib.hid hz0
  have H1 := Lib.hid hz1
  have H2 := Lib.hid hz2
  obtain ⟨ic, jt, jf, kk⟩ := i
  obtain ⟨q0, q1, q2, q3⟩ := hat
  obtain ⟨c0, c1, t0, t1, f0, f1, k0, k1⟩ := hok
  simp only at q0 q1 q2 q3 c0 c1 t0 t1 f0 f1 k0 k1 hcl
  have HO := Lib.hid (fun W => refOf_any ic W)
  rw [show (ofL allL ic).cls = cl from hcl] at HO
  obtain ⟨oc, hoc⟩ : ∃ x, x = (ofL allL ic).code := ⟨_, rfl⟩
  obtain ⟨on, hon⟩ : ∃ x, x = (ofL allL ic).name := ⟨_, rfl⟩
  rw [← hoc, ← hon] at HO
  have hb := World.block_lt_of_cell? w _ q0
  have hfd := one_field2
  have kn : (k : Int) < n := by omega
  have n4 : (n : Int) ≤ 4096 := by omega
  have n5 : decide ((4096 : Int) < n) = false := decide_eq_false (by omega)
  have n6 : decide ((n : Int) ≤ k) = false := decide_eq_false (by omega)
  clear hi hz0 hz1 hz2 hoc hon hcl hk hn
  subst h4
  obtain ⟨tn, rfl⟩ := Int.eq_ofNat_of_zero_le t0
  obtain ⟨fn, rfl⟩ := Int.eq_ofNat_of_zero_le f0
  have e5 : (ic == 5) = false := beq_eq_false_iff_ne.2 h5
  simp only [Int.toNat_natCast] at hx ⊢
  obtain ⟨x1, x2, x3⟩ := hx
  have y0 : ¬ (k : Int) + 1 + fn < (k : Int) + 1 + tn := by omega
  have y1 : (k : Int) + 1 + tn < n := by omega
  have y2 : (k : Int) + 1 + fn < n := by omega
  have y3 : ((k : Int) + 1 + fn != (k : Int) + 1 + tn) = true := by simp; omega
  clear x1 x2 x3 h5
  go_enter Tryd.func57, Tryd.ntmps57
  go_wp2_with (first
    | (go_at_call 22; ((with_reducible refine (HO.out _).mono ?_); rintro e w1 ⟨rfl, b1⟩); have r0 := (b1.cell hb).trans q0; have r1 := (b1.cell (p := ⟨b, o + k * 4 + 1, none⟩) hb).trans q1; have r2 := (b1.cell (p := ⟨b, o + k * 4 + 2, none⟩) hb).trans q2; have r3 := (b1.cell (p := ⟨b, o + k * 4 + 3, none⟩) hb).trans q3))
  go_region
  have BW : Below w.heap.size w w1.drew := b1.drew
  go_wp2_with (first
    | ((with_reducible show wpList _ _ _ (⟨some 91, _, _, _, _, _⟩ :: _) _ _)
       refine wpList_append_own _ rfl (.tmp 88) (.tmp 90) 48 rfl w.heap.size 3 i0 _ 1 8 Tryd.underlying48 HI.out H0.out H1.out H2.out rfl Nat.one_pos (.slice none 0 0) 0 [] rfl (World.ownsRow_nil _ _ _ _) _ 1 1 [.int .i64 ((k : Int) + 1 + tn)] rfl rfl (news_lit _ _ _ _ rfl) (by intro v hv; rw [List.mem_singleton.1 hv]; rfl) (by unfold maxLen; omega) (by omega) (by have := b1.size; simp; omega) ?_
       intro v4 w4 o4 hg4 _
       have b4 : Below w.heap.size w w4 := (BW.alloc BW.size _).grown hg4 (by have := b1.size; simp; omega) (fun g hg => by cases hg)
       have HO4 := Lib.hid o4
       obtain ⟨q4, c4, rfl⟩ := own_form HO4.out
       clear o4 hg4)
    | ((with_reducible show wpList _ _ _ (⟨some 104, _, _, _, _, _⟩ :: _) _ _)
       refine wpList_append_own _ rfl (.tmp 101) (.tmp 103) 48 rfl w.heap.size 3 i0 _ 1 8 Tryd.underlying48 HI.out H0.out H1.out H2.out rfl Nat.one_pos (.slice q4 1 c4) 1 [.int .i64 ((k : Int) + 1 + tn)] rfl (HO4.out.alloc _) _ 1 1 [.int .i64 ((k : Int) + 1 + fn)] rfl rfl (news_lit _ _ _ _ rfl) (by intro v hv; rw [List.mem_singleton.1 hv]; rfl) (by unfold maxLen; omega) (by omega) (by have := b4.size; simp; omega) ?_
       intro v5 w5 o5 hg5 _
       have b5 : Below w.heap.size w w5 := (b4.alloc b4.size _).grown hg5 (by have := b4.size; simp; omega) (fun g hg => (HO4.out.lt g hg).1)
       have HO5 := Lib.hid o5
       obtain ⟨q5, c5, rfl⟩ := own_form HO5.out
       clear o5 hg5))
  go_ret
  exact ⟨q5, c5, rfl, by rw [show plV [k + 1 + tn, k + 1 + fn] = [.int .i64 ((k : Int) + 1 + tn)] ++ [.int .i64 ((k : Int) + 1 + fn)] by simp [plV]]; exact HO5.out, b5⟩
set_option maxRecDepth 100000 in
set_option maxHeartbeats 8000000 in
theorem rn_jmp_lt1 (b o n cap k : Nat) (i : Ins) (hok : i.Ok) (cl : Int) (w : World) (hk : k < n) (hn : n ≤ 4096) (hat : InsAt w b (o + k * 4) i) (hcl : clsI i.c = cl) (h4 : cl = 4) (h5 : i.c ≠ 5) (hx : i.jt.toNat < i.jf.toNat ∧ k + 1 + i.jt.toNat < n ∧ ¬ k + 1 + i.jf.toNat < n) :
    NextOf (some ⟨b, o, none⟩) n cap k [k + 1 + i.jt.toNat] w := by
  obtain ⟨i0, hi, hz0, hz1, hz2⟩ := info_parts int_info
  have HI := Lib.hid hi
  have H0 := Lib.hid hz0
  have H1 := Lib.hid hz1
  have H2 := Lib.hid hz2
  obtain ⟨ic, jt, jf, kk⟩ := i
  obtain ⟨q0, q1, q2, q3⟩ := hat
  obtain ⟨c0, c1, t0, t1, f0, f1, k0, k1⟩ := hok
  simp only at q0 q1 q2 q3 c0 c1 t0 t1 f0 f1 k0 k1 hcl
  have HO := Lib.hid (fun W => refOf_any ic W)
  rw [show (ofL allL ic).cls = cl from hcl] at HO
  obtain ⟨oc, hoc⟩ : ∃ x, x = (ofL allL ic).code := ⟨_, rfl⟩
  obtain ⟨on, hon⟩ : ∃ x, x = (ofL allL ic).name := ⟨_, rfl⟩
  rw [← hoc, ← hon] at HO
  have hb := World.block_lt_of_cell? w _ q0
  have hfd := one_field2
  have kn : (k : Int) < n := by omega
  have n4 : (n : Int) ≤ 4096 := by omega
  have n5 : decide ((4096 : Int) < n) = false := decide_eq_false (by omega)
  have n6 : decide ((n : Int) ≤ k) = false := decide_eq_false (by omega)
  clear hi hz0 hz1 hz2 hoc hon hcl hk hn
  subst h4
  obtain ⟨tn, rfl⟩ := Int.eq_ofNat_of_zero_le t0
  obtain ⟨fn, rfl⟩ := Int.eq_ofNat_of_zero_le f0
  have e5 : (ic == 5) = false := beq_eq_false_iff_ne.2 h5
  simp only [Int.toNat_natCast] at hx ⊢
  obtain ⟨x1, x2, x3⟩ := hx
  have y0 : ¬ (k : Int) + 1 + fn < (k : Int) + 1 + tn := by omega
  have y1 : (k : Int) + 1 + tn < n := by omega
  have y2 : ¬ (k : Int) + 1 + fn < n := by omega
  clear x1 x2 x3 h5
  go_enter Tryd.func57, Tryd.ntmps57
  go_wp2_with (first
    | (go_at_call 22; ((with_reducible refine (HO.out _).mono ?_); rintro e w1 ⟨rfl, b1⟩); have r0 := (b1.cell hb).trans q0; have r1 := (b1.cell (p := ⟨b, o + k * 4 + 1, none⟩) hb).trans q1; have r2 := (b1.cell (p := ⟨b, o + k * 4 + 2, none⟩) hb).trans q2; have r3 := (b1.cell (p := ⟨b, o + k * 4 + 3, none⟩) hb).trans q3))
  go_region
  have BW : Below w.heap.size w w1.drew := b1.drew
  go_wp2_with (first
    | ((with_reducible show wpList _ _ _ (⟨some 91, _, _, _, _, _⟩ :: _) _ _)
       refine wpList_append_own _ rfl (.tmp 88) (.tmp 90) 48 rfl w.heap.size 3 i0 _ 1 8 Tryd.underlying48 HI.out H0.out H1.out H2.out rfl Nat.one_pos (.slice none 0 0) 0 [] rfl (World.ownsRow_nil _ _ _ _) _ 1 1 [.int .i64 ((k : Int) + 1 + tn)] rfl rfl (news_lit _ _ _ _ rfl) (by intro v hv; rw [List.mem_singleton.1 hv]; rfl) (by unfold maxLen; omega) (by omega) (by have := b1.size; simp; omega) ?_
       intro v4 w4 o4 hg4 _
       have b4 : Below w.heap.size w w4 := (BW.alloc BW.size _).grown hg4 (by have := b1.size; simp; omega) (fun g hg => by cases hg)
       have HO4 := Lib.hid o4
       obtain ⟨q4, c4, rfl⟩ := own_form HO4.out
       clear o4 hg4))
  go_ret
  exact ⟨q4, c4, rfl, by rw [show plV [k + 1 + tn] = [.int .i64 ((k : Int) + 1 + tn)] by simp [plV]]; exact HO4.out, b4⟩
set_option maxRecDepth 100000 in
set_option maxHeartbeats 8000000 in
theorem rn_jmp_lt0 (b o n cap k : Nat) (i : Ins) (hok : i.Ok) (cl : Int) (w : World) (hk : k < n) (hn : n ≤ 4096) (hat : InsAt w b (o + k * 4) i) (hcl : clsI i.c = cl) (h4 : cl = 4) (h5 : i.c ≠ 5) (hx : i.jt.toNat < i.jf.toNat ∧ ¬ k + 1 + i.jt.toNat < n ∧ ¬ k + 1 + i.jf.toNat < n) :
    NextOf (some ⟨b, o, none⟩) n cap k [] w := by
  obtain ⟨i0, hi, hz0, hz1, hz2⟩ := info_parts int_info
  have HI := Lib.hid hi
  have H0 := Lib.hid hz0
  have H1 := Lib.hid hz1
  have H2 := Lib.hid hz2
  obtain ⟨ic, jt, jf, kk⟩ := i
  obtain ⟨q0, q1, q2, q3⟩ := hat
  obtain ⟨c0, c1, t0, t1, f0, f1, k0, k1⟩ := hok
  simp only at q0 q1 q2 q3 c0 c1 t0 t1 f0 f1 k0 k1 hcl
  have HO := Lib.hid (fun W => refOf_any ic W)
  rw [show (ofL allL ic).cls = cl from hcl] at HO
  obtain ⟨oc, hoc⟩ : ∃ x, x = (ofL allL ic).code := ⟨_, rfl⟩
  obtain ⟨on, hon⟩ : ∃ x, x = (ofL allL ic).name := ⟨_, rfl⟩
  rw [← hoc, ← hon] at HO
  have hb := World.block_lt_of_cell? w _ q0
  have hfd := one_field2
  have kn : (k : Int) < n := by omega
  have n4 : (n : Int) ≤ 4096 := by omega
  have n5 : decide ((4096 : Int) < n) = false := decide_eq_false (by omega)
  have n6 : decide ((n : Int) ≤ k) = false := decide_eq_false (by omega)
  clear hi hz0 hz1 hz2 hoc hon hcl hk hn
  subst h4
  obtain ⟨tn, rfl⟩ := Int.eq_ofNat_of_zero_le t0
  obtain ⟨fn, rfl⟩ := Int.eq_ofNat_of_zero_le f0
  have e5 : (ic == 5) = false := beq_eq_false_iff_ne.2 h5
  simp only [Int.toNat_natCast] at hx ⊢
  obtain ⟨x1, x2, x3⟩ := hx
  have y0 : ¬ (k : Int) + 1 + fn < (k : Int) + 1 + tn := by omega
  have y1 : ¬ (k : Int) + 1 + tn < n := by omega
  have y2 : ¬ (k : Int) + 1 + fn < n := by omega
  clear x1 x2 x3 h5
  go_enter Tryd.func57, Tryd.ntmps57
  go_wp2_with (first
    | (go_at_call 22; ((with_reducible refine (HO.out _).mono ?_); rintro e w1 ⟨rfl, b1⟩); have r0 := (b1.cell hb).trans q0; have r1 := (b1.cell (p := ⟨b, o + k * 4 + 1, none⟩) hb).trans q1; have r2 := (b1.cell (p := ⟨b, o + k * 4 + 2, none⟩) hb).trans q2; have r3 := (b1.cell (p := ⟨b, o + k * 4 + 3, none⟩) hb).trans q3))
  go_region
  have BW : Below w.heap.size w w1.drew := b1.drew
  go_wp2
  go_ret
  exact next_nil BW
set_option maxRecDepth 100000 in
set_option maxHeartbeats 8000000 in
theorem rn_jmp_gt2 (b o n cap k : Nat) (i : Ins) (hok : i.Ok) (cl : Int) (w : World) (hk : k < n) (hn : n ≤ 4096) (hat : InsAt w b (o + k * 4) i) (hcl : clsI i.c = cl) (h4 : cl = 4) (h5 : i.c ≠ 5) (hx : i.jf.toNat < i.jt.toNat ∧ k + 1 + i.jf.toNat < n ∧ k + 1 + i.jt.toNat < n) :
    NextOf (some ⟨b, o, none⟩) n cap k [k + 1 + i.jf.toNat, k + 1 + i.jt.toNat] w := by
  obtain ⟨i0, hi, hz0, hz1, hz2⟩ := info_parts int_info
  have HI := Lib.hid hi
  have H0 := Lib.hid hz0
  have H1 := Lib.hid hz1
  have H2 := Lib.hid hz2
  obtain ⟨ic, jt, jf, kk⟩ := i
  obtain ⟨q0, q1, q2, q3⟩ := hat
  obtain ⟨c0, c1, t0, t1, f0, f1, k0, k1⟩ := hok
  simp only at q0 q1 q2 q3 c0 c1 t0 t1 f0 f1 k0 k1 hcl
  have HO := Lib.hid (fun W => refOf_any ic W)
  rw [show (ofL allL ic).cls = cl from hcl] at HO
  obtain ⟨oc, hoc⟩ : ∃ x, x = (ofL allL ic).code := ⟨_, rfl⟩
  obtain ⟨on, hon⟩ : ∃ x, x = (ofL allL ic).name := ⟨_, rfl⟩
  rw [← hoc, ← hon] at HO
  have hb := World.block_lt_of_cell? w _ q0
  have hfd := one_field2
  have kn : (k : Int) < n := by omega
  have n4 : (n : Int) ≤ 4096 := by omega
  have n5 : decide ((4096 : Int) < n) = false := decide_eq_false (by omega)
  have n6 : decide ((n : Int) ≤ k) = false := decide_eq_false (by omega)
  clear hi hz0 hz1 hz2 hoc hon hcl hk hn
  subst h4
  obtain ⟨tn, rfl⟩ := Int.eq_ofNat_of_zero_le t0
  obtain ⟨fn, rfl⟩ := Int.eq_ofNat_of_zero_le f0
  have e5 : (ic == 5) = false := beq_eq_false_iff_ne.2 h5
  simp only [Int.toNat_natCast] at hx ⊢
  obtain ⟨x1, x2, x3⟩ := hx
  have y0 : (k : Int) + 1 + fn < (k : Int) + 1 + tn := by omega
  have y1 : (k : Int) + 1 + fn < n := by omega
  have y2 : (k : Int) + 1 + tn < n := by omega
  have y3 : ((k : Int) + 1 + tn != (k : Int) + 1 + fn) = true := by simp; omega
  clear x1 x2 x3 h5
  go_enter Tryd.func57, Tryd.ntmps57
  go_wp2_with (first
    | (go_at_call 22; ((with_reducible refine (HO.out _).mono ?_); rintro e w1 ⟨rfl, b1⟩); have r0 := (b1.cell hb).trans q0; have r1 := (b1.cell (p := ⟨b, o + k * 4 + 1, none⟩) hb).trans q1; have r2 := (b1.cell (p := ⟨b, o + k * 4 + 2, none⟩) hb).trans q2; have r3 := (b1.cell (p := ⟨b, o + k * 4 + 3, none⟩) hb).trans q3))
  go_region
  have BW : Below w.heap.size w w1.drew := b1.drew
  go_wp2_with (first
    | ((with_reducible show wpList _ _ _ (⟨some 91, _, _, _, _, _⟩ :: _) _ _)
       refine wpList_append_own _ rfl (.tmp 88) (.tmp 90) 48 rfl w.heap.size 3 i0 _ 1 8 Tryd.underlying48 HI.out H0.out H1.out H2.out rfl Nat.one_pos (.slice none 0 0) 0 [] rfl (World.ownsRow_nil _ _ _ _) _ 1 1 [.int .i64 ((k : Int) + 1 + fn)] rfl rfl (news_lit _ _ _ _ rfl) (by intro v hv; rw [List.mem_singleton.1 hv]; rfl) (by unfold maxLen; omega) (by omega) (by have := b1.size; simp; omega) ?_
       intro v4 w4 o4 hg4 _
       have b4 : Below w.heap.size w w4 := (BW.alloc BW.size _).grown hg4 (by have := b1.size; simp; omega) (fun g hg => by cases hg)
       have HO4 := Lib.hid o4
       obtain ⟨q4, c4, rfl⟩ := own_form HO4.out
       clear o4 hg4)
    | ((with_reducible show wpList _ _ _ (⟨some 104, _, _, _, _, _⟩ :: _) _ _)
       refine wpList_append_own _ rfl (.tmp 101) (.tmp 103) 48 rfl w.heap.size 3 i0 _ 1 8 Tryd.underlying48 HI.out H0.out H1.out H2.out rfl Nat.one_pos (.slice q4 1 c4) 1 [.int .i64 ((k : Int) + 1 + fn)] rfl (HO4.out.alloc _) _ 1 1 [.int .i64 ((k : Int) + 1 + tn)] rfl rfl (news_lit _ _ _ _ rfl) (by intro v hv; rw [List.mem_singleton.1 hv]; rfl) (by unfold maxLen; omega) (by omega) (by have := b4.size; simp; omega) ?_
       intro v5 w5 o5 hg5 _
       have b5 : Below w.heap.size w w5 := (b4.alloc b4.size _).grown hg5 (by have := b4.size; simp; omega) (fun g hg => (HO4.out.lt g hg).1)
       have HO5 := Lib.hid o5
       obtain ⟨q5, c5, rfl⟩ := own_form HO5.out
       clear o5 hg5))
  go_ret
  exact ⟨q5, c5, rfl, by rw [show plV [k + 1 + fn, k + 1 + tn] = [.int .i64 ((k : Int) + 1 + fn)] ++ [.int .i64 ((k : Int) + 1 + tn)] by simp [plV]]; exact HO5.out, b5⟩
set_option maxRecDepth 100000 in
set_option maxHeartbeats 8000000 in
theorem rn_jmp_gt1 (b o n cap k : Nat) (i : Ins) (hok : i.Ok) (cl : Int) (w : World) (hk : k < n) (hn : n ≤ 4096) (hat : InsAt w b (o + k * 4) i) (hcl : clsI i.c = cl) (h4 : cl = 4) (h5 : i.c ≠ 5) (hx : i.jf.toNat < i.jt.toNat ∧ k + 1 + i.jf.toNat < n ∧ ¬ k + 1 + i.jt.toNat < n) :
    NextOf (some ⟨b, o, none⟩) n cap k [k + 1 + i.jf.toNat] w := by
  obtain ⟨i0, hi, hz0, hz1, hz2⟩ := info_parts int_info
  have HI := Lib.hid hi
  have H0 := Lib.hid hz0
  have H1 := Lib.hid hz1
  have H2 := Lib.hid hz2
  obtain ⟨ic, jt, jf, kk⟩ := i
  obtain ⟨q0, q1, q2, q3⟩ := hat
  obtain ⟨c0, c1, t0, t1, f0, f1, k0, k1⟩ := hok
  simp only at q0 q1 q2 q3 c0 c1 t0 t1 f0 f1 k0 k1 hcl
  have HO := Lib.hid (fun W => refOf_any ic W)
  rw [show (ofL allL ic).cls = cl from hcl] at HO
  obtain ⟨oc, hoc⟩ : ∃ x, x = (ofL allL ic).code := ⟨_, rfl⟩
  obtain ⟨on, hon⟩ : ∃ x, x = (ofL allL ic).name := ⟨_, rfl⟩
  rw [← hoc, ← hon] at HO
  have hb := World.block_lt_of_cell? w _ q0
  have hfd := one_field2
  have kn : (k : Int) < n := by omega
  have n4 : (n : Int) ≤ 4096 := by omega
  have n5 : decide ((4096 : Int) < n) = false := decide_eq_false (by omega)
  have n6 : decide ((n : Int) ≤ k) = false := decide_eq_false (by omega)
  clear hi hz0 hz1 hz2 hoc hon hcl hk hn
  subst h4
  obtain ⟨tn, rfl⟩ := Int.eq_ofNat_of_zero_le t0
  obtain ⟨fn, rfl⟩ := Int.eq_ofNat_of_zero_le f0
  have e5 : (ic == 5) = false := beq_eq_false_iff_ne.2 h5
  simp only [Int.toNat_natCast] at hx ⊢
  obtain ⟨x1, x2, x3⟩ := hx
  have y0 : (k : Int) + 1 + fn < (k : Int) + 1 + tn := by omega
  have y1 : (k : Int) + 1 + fn < n := by omega
  have y2 : ¬ (k : Int) + 1 + tn < n := by omega
  clear x1 x2 x3 h5
  go_enter Tryd.func57, Tryd.ntmps57
  go_wp2_with (first
    | (go_at_call 22; ((with_reducible refine (HO.out _).mono ?_); rintro e w1 ⟨rfl, b1⟩); have r0 := (b1.cell hb).trans q0; have r1 := (b1.cell (p := ⟨b, o + k * 4 + 1, none⟩) hb).trans q1; have r2 := (b1.cell (p := ⟨b, o + k * 4 + 2, none⟩) hb).trans q2; have r3 := (b1.cell (p := ⟨b, o + k * 4 + 3, none⟩) hb).trans q3))
  go_region
  have BW : Below w.heap.size w w1.drew := b1.drew
  go_wp2_with (first
    | ((with_reducible show wpList _ _ _ (⟨some 91, _, _, _, _, _⟩ :: _) _ _)
       refine wpList_append_own _ rfl (.tmp 88) (.tmp 90) 48 rfl w.heap.size 3 i0 _ 1 8 Tryd.underlying48 HI.out H0.out H1.out H2.out rfl Nat.one_pos (.slice none 0 0) 0 [] rfl (World.ownsRow_nil _ _ _ _) _ 1 1 [.int .i64 ((k : Int) + 1 + fn)] rfl rfl (news_lit _ _ _ _ rfl) (by intro v hv; rw [List.mem_singleton.1 hv]; rfl) (by unfold maxLen; omega) (by omega) (by have := b1.size; simp; omega) ?_
       intro v4 w4 o4 hg4 _
       have b4 : Below w.heap.size w w4 := (BW.alloc BW.size _).grown hg4 (by have := b1.size; simp; omega) (fun g hg => by cases hg)
       have HO4 := Lib.hid o4
       obtain ⟨q4, c4, rfl⟩ := own_form HO4.out
       clear o4 hg4))
  go_ret
  exact ⟨q4, c4, rfl, by rw [show plV [k + 1 + fn] = [.int .i64 ((k : Int) + 1 + fn)] by simp [plV]]; exact HO4.out, b4⟩
set_option maxRecDepth 100000 in
set_option maxHeartbeats 8000000 in
theorem rn_jmp_gt0 (b o n cap k : Nat) (i : Ins) (hok : i.Ok) (cl : Int) (w : World) (hk : k < n) (hn : n ≤ 4096) (hat : InsAt w b (o + k * 4) i) (hcl : clsI i.c = cl) (h4 : cl = 4) (h5 : i.c ≠ 5) (hx : i.jf.toNat < i.jt.toNat ∧ ¬ k + 1 + i.jf.toNat < n ∧ ¬ k + 1 + i.jt.toNat < n) :
    NextOf (some ⟨b, o, none⟩) n cap k [] w := by
  obtain ⟨i0, hi, hz0, hz1, hz2⟩ := info_parts int_info
  have HI := Lib.hid hi
  have H0 := Lib.hid hz0
  have H1 := Lib.hid hz1
  have H2 := Lib.hid hz2
  obtain ⟨ic, jt, jf, kk⟩ := i
  obtain ⟨q0, q1, q2, q3⟩ := hat
  obtain ⟨c0, c1, t0, t1, f0, f1, k0, k1⟩ := hok
  simp only at q0 q1 q2 q3 c0 c1 t0 t1 f0 f1 k0 k1 hcl
  have HO := Lib.hid (fun W => refOf_any ic W)
  rw [show (ofL allL ic).cls = cl from hcl] at HO
  obtain ⟨oc, hoc⟩ : ∃ x, x = (ofL allL ic).code := ⟨_, rfl⟩
  obtain ⟨on, hon⟩ : ∃ x, x = (ofL allL ic).name := ⟨_, rfl⟩
  rw [← hoc, ← hon] at HO
  have hb := World.block_lt_of_cell? w _ q0
  have hfd := one_field2
  have kn : (k : Int) < n := by omega
  have n4 : (n : Int) ≤ 4096 := by omega
  have n5 : decide ((4096 : Int) < n) = false := decide_eq_false (by omega)
  have n6 : decide ((n : Int) ≤ k) = false := decide_eq_false (by omega)
  clear hi hz0 hz1 hz2 hoc hon hcl hk hn
  subst h4
  obtain ⟨tn, rfl⟩ := Int.eq_ofNat_of_zero_le t0
  obtain ⟨fn, rfl⟩ := Int.eq_ofNat_of_zero_le f0
  have e5 : (ic == 5) = false := beq_eq_false_iff_ne.2 h5
  simp only [Int.toNat_natCast] at hx ⊢
  obtain ⟨x1, x2, x3⟩ := hx
  have y0 : (k : Int) + 1 + fn < (k : Int) + 1 + tn := by omega
  have y1 : ¬ (k : Int) + 1 + fn < n := by omega
  have y2 : ¬ (k : Int) + 1 + tn < n := by omega
  clear x1 x2 x3 h5
  go_enter Tryd.func57, Tryd.ntmps57
  go_wp2_with (first
    | (go_at_call 22; ((with_reducible refine (HO.out _).mono ?_); rintro e w1 ⟨rfl, b1⟩); have r0 := (b1.cell hb).trans q0; have r1 := (b1.cell (p := ⟨b, o + k * 4 + 1, none⟩) hb).trans q1; have r2 := (b1.cell (p := ⟨b, o + k * 4 + 2, none⟩) hb).trans q2; have r3 := (b1.cell (p := ⟨b, o + k * 4 + 3, none⟩) hb).trans q3))
  go_region
  have BW : Below w.heap.size w w1.drew := b1.drew
  go_wp2
  go_ret
  exact next_nil BW
theorem rn_none (b o n cap k : Nat) (i : Ins) (w : World) (hk : k < n) (hn : n ≤ 4096) (hat : InsAt w b (o + k * 4) i) (hcl : clsI i.c = 0 ∨ clsI i.c = 5) :
    NextOf (some ⟨b, o, none⟩) n cap k [] w := by
  obtain ⟨q0, q1, q2, q3⟩ := hat
  have HO := Lib.hid (fun W => refOf_any i.c W)
  obtain ⟨cl, hc⟩ : ∃ x, x = (ofL allL i.c).cls := ⟨_, rfl⟩
  obtain ⟨oc, hoc⟩ : ∃ x, x = (ofL allL i.c).code := ⟨_, rfl⟩
  obtain ⟨on, hon⟩ : ∃ x, x = (ofL allL i.c).name := ⟨_, rfl⟩
  rw [← hoc, ← hon, ← hc] at HO
  unfold clsI at hcl
  rw [← hc] at hcl
  have hfd := one_field2
  have kn : (k : Int) < n := by omega
  have n5 : decide ((4096 : Int) < n) = false := decide_eq_false (by omega)
  have n6 : decide ((n : Int) ≤ k) = false := decide_eq_false (by omega)
  clear hc hoc hon hk hn
  rcases hcl with rfl | rfl
  all_goals
    go_enter Tryd.func57, Tryd.ntmps57
    go_wp2_with (go_at_call 22; ((with_reducible refine (HO.out _).mono ?_); rintro e w1 ⟨rfl, b1⟩))
    go_ret
    exact next_nil b1
/-- What the document's Next returns. -/
theorem refNext (a0 : Option Addr) (n cap : Nat) (p : List Ins) (at_ : Int) (w : World) (hl : p.length = n) (hn : n ≤ 4096) (hp : OkL p) (hr : RdI w w.heap.size a0 p) : NextOf a0 n cap at_ (nextA p at_) w := by
  unfold nextA
  by_cases h0 : 0 ≤ at_
  · rw [if_pos h0]
    obtain ⟨k, rfl⟩ := Int.eq_ofNat_of_zero_le h0
    rw [Int.toNat_natCast]
    by_cases hk : k < n
    · have hkl : k < p.length := by omega
      obtain ⟨b, o, rfl, _, hc⟩ := hr (by omega)
      have hat := hc k hkl
      have hok := hp.get hkl
      unfold nextL
      rw [List.getElem?_eq_getElem hkl]
      simp only
      generalize p[k] = i at hat hok
      rw [hl]
      unfold nextI
      by_cases hcl : clsI i.c = 0 ∨ clsI i.c = 5
      · rw [if_pos hcl]; exact rn_none b o n cap k i w hk hn hat hcl
      · rw [if_neg hcl]
        have n0 : clsI i.c ≠ 0 := fun e => hcl (Or.inl e)
        have n5 : clsI i.c ≠ 5 := fun e => hcl (Or.inr e)
        by_cases h4 : clsI i.c = 4
        · by_cases h5 : i.c = 5
          · have e : leads i k = (k + 1 + i.k.toNat, k + 1 + i.k.toNat) := by unfold leads; rw [if_pos h4, if_pos h5]
            rw [e, two_same]
            by_cases hx : k + 1 + i.k.toNat < n
            · rw [if_pos hx]; exact rn_ja1 b o n cap k i hok 4 w hk hn hat h4 rfl h5 hx
            · rw [if_neg hx]; exact rn_ja0 b o n cap k i hok 4 w hk hn hat h4 rfl h5 hx
          · have e : leads i k = (k + 1 + i.jt.toNat, k + 1 + i.jf.toNat) := by unfold leads; rw [if_pos h4, if_neg h5]
            rw [e]
            rcases Nat.lt_trichotomy i.jt.toNat i.jf.toNat with h | h | h
            · simp only
              rw [two_lt (by omega)]
              by_cases h1 : k + 1 + i.jf.toNat < n
              · rw [if_pos (by omega), if_pos h1]; exact rn_jmp_lt2 b o n cap k i hok 4 w hk hn hat h4 rfl h5 ⟨h, by omega, h1⟩
              · rw [if_neg h1]
                by_cases h2 : k + 1 + i.jt.toNat < n
                · rw [if_pos h2]; exact rn_jmp_lt1 b o n cap k i hok 4 w hk hn hat h4 rfl h5 ⟨h, h2, h1⟩
                · rw [if_neg h2]; exact rn_jmp_lt0 b o n cap k i hok 4 w hk hn hat h4 rfl h5 ⟨h, h2, h1⟩
            · simp only
              rw [← h, two_same]
              by_cases h1 : k + 1 + i.jt.toNat < n
              · rw [if_pos h1]; exact rn_jmp_eq1 b o n cap k i hok 4 w hk hn hat h4 rfl h5 ⟨h, h1, trivial⟩
              · rw [if_neg h1]; exact rn_jmp_eq0 b o n cap k i hok 4 w hk hn hat h4 rfl h5 ⟨h, h1, trivial⟩
            · simp only
              rw [two_comm, two_lt (by omega)]
              by_cases h1 : k + 1 + i.jt.toNat < n
              · rw [if_pos (by omega), if_pos h1]; exact rn_jmp_gt2 b o n cap k i hok 4 w hk hn hat h4 rfl h5 ⟨h, by omega, h1⟩
              · rw [if_neg h1]
                by_cases h2 : k + 1 + i.jf.toNat < n
                · rw [if_pos h2]; exact rn_jmp_gt1 b o n cap k i hok 4 w hk hn hat h4 rfl h5 ⟨h, h2, h1⟩
                · rw [if_neg h2]; exact rn_jmp_gt0 b o n cap k i hok 4 w hk hn hat h4 rfl h5 ⟨h, h2, h1⟩
        · have e : leads i k = (k + 1, k + 1) := by unfold leads; rw [if_neg h4]
          rw [e, two_same]
          by_cases hx : k + 1 < n
          · rw [if_pos hx]; exact rn_plain1 b o n cap k i hok _ w hk hn hat rfl n0 h4 n5 hx
          · rw [if_neg hx]; exact rn_plain0 b o n cap k i hok _ w hk hn hat rfl n0 h4 n5 hx
    · have e : nextL p k = [] := by unfold nextL; rw [List.getElem?_eq_none (by omega)]
      rw [e]
      exact rn_high a0 n cap k w (by omega) (by omega)
  · rw [if_neg h0]
    exact rn_low a0 n cap at_ w (by omega)
end Go.Proofs.YtohfampfnhfnlaaDoor
namespace Go.Proofs.YtohfampfnhfnlaaDoor
open Go.RowKit
set_option linter.unusedVariables false
attribute [local go_sem ↓] Go.wp_at_zero Go.wp_at_succ

/-- A row of truths. -/
def rowB (n : Nat) (f : Nat → Bool) : List Value := (List.range n).map (fun j => Value.bool (f j))
theorem rowB_length (n : Nat) (f : Nat → Bool) : (rowB n f).length = n := by simp [rowB]
theorem rowB_get {n : Nat} (f : Nat → Bool) {j : Nat} (h : j < n) : (rowB n f)[j]? = some (.bool (f j)) := by
  unfold rowB
  rw [List.getElem?_map, List.getElem?_range h]; rfl
theorem rowB_congr {n : Nat} {f g : Nat → Bool} (h : ∀ j, j < n → f j = g j) : rowB n f = rowB n g := by
  unfold rowB
  exact List.map_congr_left fun j hj => by rw [h j (List.mem_range.1 hj)]
theorem rowB_set (n x : Nat) (f : Nat → Bool) : (rowB n f).set x (.bool true) = rowB n (fun j => f j || j == x) := by
  apply List.ext_getElem?
  intro j
  by_cases hj : j < n
  · rw [List.getElem?_set, rowB_get _ hj]
    by_cases e : x = j
    · subst e; rw [if_pos rfl, if_pos (by rw [rowB_length]; exact hj), rowB_get _ hj, beq_self_eq_true, Bool.or_true]
    · rw [if_neg e, rowB_get _ hj, beq_eq_false_iff_ne.2 (fun h => e h.symm), Bool.or_false]
  · rw [List.getElem?_eq_none (by rw [List.length_set, rowB_length]; omega), List.getElem?_eq_none (by rw [rowB_length]; omega)]
theorem made_bools (n : Nat) : (madeCells (Value.bool false).cells (n * 1)).toList = rowB n (fun _ => false) := by
  apply List.ext_getElem?
  intro j
  by_cases hj : j < n
  · rw [rowB_get _ hj]
    unfold madeCells
    rw [Array.getElem?_toList, Array.getElem?_map, Array.getElem?_range, if_pos (by omega)]
    show some ((#[Value.bool false] : Array Value)[j % 1]!) = _
    rw [Nat.mod_one]; rfl
  · rw [List.getElem?_eq_none (by simp [madeCells]; omega), List.getElem?_eq_none (by rw [rowB_length]; omega)]
theorem bool_info : (Tryd.prog.info? 4).map (fun i => (i.zero, i.size, i.bytes)) = some (some (.bool false), 1, 1) := by kernel_rfl
/-- A row of truths of one's own. -/
def BoolsTo (n : Nat) (f : Nat → Bool) (w : World) (e : Ending) (w' : World) : Prop := ∃ q c, e = .returned (.slice q n c) ∧ w'.ownsRow w.heap.size 4 1 (.slice q n c) n (rowB n f) ∧ Below w.heap.size w w'
theorem nextA_nat (p : List Ins) (i : Nat) : nextA p (i : Int) = nextL p i := by
  unfold nextA
  rw [if_pos (by omega), Int.toNat_natCast]
theorem plV_get' {l : List Nat} {i : Nat} (h : i < l.length) : (plV l)[i]? = some (.int .i64 ((l.getD i 0 : Nat) : Int)) := by
  unfold plV
  rw [List.getElem?_map, List.getD_eq_getElem?_getD, List.getElem?_eq_getElem h]; rfl
/-- The slice's cells are the places. -/
theorem pl_cells' {w : World} {B c : Nat} {q : Option Addr} {l : List Nat} (h : w.ownsRow B 3 1 (.slice q l.length c) l.length (plV l)) (h0 : 0 < l.length) : ∃ g, q = some ⟨g, 0, none⟩ ∧ B ≤ g ∧ ∀ i, i < l.length → w.cell? ⟨g, i, none⟩ = some (.int .i64 ((l.getD i 0 : Nat) : Int)) := by
  rcases h.2 with ⟨_, h1⟩ | ⟨g, cap, cur, hv, hb, _⟩
  · omega
  · injection hv with e1 e2 e3
    subst e1
    refine ⟨g, rfl, hb, fun i hi => ?_⟩
    rw [h.cellAt i (by omega)]
    exact plV_get' hi
theorem take_contains {l : List Nat} {k : Nat} (h : k < l.length) (j : Nat) : (l.take (k + 1)).contains j = ((l.take k).contains j || j == l.getD k 0) := by
  have e : l.take (k + 1) = l.take k ++ [l.getD k 0] := by
    rw [List.take_add_one, List.getD_eq_getElem?_getD, List.getElem?_eq_getElem h]; rfl
  rw [Bool.eq_iff_iff, List.contains_iff_mem, Bool.or_eq_true, List.contains_iff_mem, beq_iff_eq, e, List.mem_append, List.mem_singleton]
set_option maxRecDepth 100000 in
set_option maxHeartbeats 16000000 in
theorem refReached (a0 : Option Addr) (n cap : Nat) (p : List Ins) (w : World) (hl : p.length = n) (hn : n ≤ 4096) (hp : OkL p) (hr : RdI w w.heap.size a0 p) :
    Calls Tryd.prog 36 #[.slice a0 n cap] w (BoolsTo n (reachB p) w) := by
  obtain ⟨i0, hi, hz0, hz1, hz2⟩ := info_parts bool_info
  have HI := Lib.hid hi
  have H0 := Lib.hid hz0
  have H1 := Lib.hid hz1
  have hm0 : i0.bytes * n ≤ 281474976710656 := by rw [hz2]; omega
  have hm1 : n ≤ maxLen := by unfold maxLen; omega
  have HL := Lib.hid hl
  have HR := Lib.hid hr
  have HN := Lib.hid (fun (W : World) (i : Nat) (h : Below w.heap.size w W) => refNext a0 n cap p i W hl hn hp ((hr.keep fun q hq => h.cell hq).more h.size))
  have n5 : decide ((4096 : Int) < n) = false := decide_eq_false (by omega)
  have n4 : (n : Int) ≤ 4096 := by omega
  have HE := Lib.hid (show reachB p = mark (nextL p) (fun _ => true) n by unfold reachB; rw [hl])
  clear hi hz0 hz1 hz2 hl hn hp hr
  rw [HE.out]
  obtain ⟨M, hM⟩ : ∃ M, M = mark (nextL p) (fun _ => true) := ⟨_, rfl⟩
  have HM := Lib.hid hM
  rw [← hM]
  clear hM HE
  by_cases hn0 : 0 < n
  · have n1 : (0 : Int) < n := by omega
    go_enter Tryd.func36, Tryd.ntmps36
    go_wp2_with (first
      | (at_make
         refine wpList_make_full _ rfl _ _ 88 rfl w.heap.size 4 i0 _ 1 Tryd.underlying88 HI.out H0.out H1.out .i64 .i64 n n n rfl rfl rfl rfl hm0 hm1 (Nat.le_refl _) ?_
         intro w1 o1 g1
         have b1 : Below w.heap.size w w1 := (Below.refl _ _).grown g1 (Nat.le_refl _) (by intro k hk; cases hk)
         rw [made_bools] at o1
         have s0 : w1.cell? ⟨w.heap.size, 0, none⟩ = some (.bool false) := (o1.cellAt 0 (by omega)).trans (rowB_get _ hn0)
         have f0 := o1.frozenAt 0
         have O1 := Lib.hid (o1.stored 0 (.bool true)).1
         have B1 := Lib.hid (b1.setCell (p := ⟨w.heap.size, 0, none⟩) (Nat.le_refl _) (.bool true))
         clear o1 g1 b1))
    go_loopw [4] (fun v4 wr => ∃ i : Nat, i ≤ n ∧ v4 = .int .i64 i ∧ Hid (wr.ownsRow w.heap.size 4 1 (.slice (some ⟨w.heap.size, 0, none⟩) n n) n (rowB n (M i))) ∧ Hid (Below w.heap.size w wr)) (fun v4 _ => n - (intOf v4).toNat)
    case atStart =>
      refine ⟨0, Nat.zero_le _, rfl, Lib.hid ?_, B1⟩
      have h := O1.out
      rw [rowB_set] at h
      rw [show rowB n (M 0) = rowB n (fun j => false || j == 0) from rowB_congr fun j _ => by rw [HM.out]; simp [mark]]
      exact h
    case round =>
      clear s0 f0 O1 B1
      obtain ⟨i, hi, rfl, HO, HB⟩ := hrel
      obtain ⟨W, rfl⟩ : ∃ wo : World, wo = wr := ⟨_, rfl⟩
      by_cases hlt : i < n
      · have s1 : W.cell? ⟨w.heap.size, i, none⟩ = some (.bool (M i i)) := (HO.out.cellAt i (by omega)).trans (rowB_get _ hlt)
        have i1 : (i : Int) < n := by omega
        have hst := Lib.hid (show ∀ j, M (i + 1) j = (M i j || (M i i && (nextL p i).contains j)) from fun j => by rw [HM.out]; show (_ || (_ && true && _)) = _; rw [Bool.and_true])
        cases hmi : M i i with
        | false =>
          rw [hmi] at s1 hst
          clear hmi
          go_wp2_with fail
          go_roundw
          case rel => exact ⟨i + 1, by omega, by go_num, Lib.hid (by rw [rowB_congr (g := M i) (fun j _ => by rw [hst.out j]; simp)]; exact HO.out), HB⟩
          case measure => simp [intOf]; omega
        | true =>
          rw [hmi] at s1 hst
          clear hmi
          have HNX := Lib.hid (HN.out W i HB.out)
          rw [nextA_nat] at HNX
          obtain ⟨l, hll⟩ : ∃ l, l = nextL p i := ⟨_, rfl⟩
          rw [← hll] at HNX hst
          have HLT := Lib.hid (show ∀ x ∈ l, x < n from fun x hx => by rw [hll] at hx; have := (nextL_lt hx).2; rw [HL.out] at this; exact this)
          have hl2 : l.length ≤ 2 := by rw [hll]; exact nextL_length p i
          obtain ⟨m, hm⟩ : ∃ m, m = l.length := ⟨_, rfl⟩
          unfold NextOf NextTo at HNX
          rw [← hm] at HNX hl2
          have HMM := Lib.hid hm
          clear hll hm
          go_wp2_with (go_at_call 57; ((with_reducible refine (HNX.out).mono ?_); rintro e v2 ⟨q, c, rfl, o2, b2⟩); have O2 := Lib.hid o2; have HO2 := Lib.hid (own_on HO.out b2); have HB2 := Lib.hid (thn HB.out b2); have HG := Lib.hid (show w.heap.size < W.heap.size from (HO.out.lt _ rfl).2); clear o2 b2 s1)
          go_loopw [6] (fun v6 wr => ∃ k : Nat, k ≤ m ∧ v6 = .int .i64 k ∧ Hid (wr.ownsRow w.heap.size 4 1 (.slice (some ⟨w.heap.size, 0, none⟩) n n) n (rowB n (fun j => M i j || (l.take k).contains j))) ∧ Hid (wr.ownsRow W.heap.size 3 1 (.slice q m c) m (plV l)) ∧ Hid (Below w.heap.size w wr)) (fun v6 _ => m - (intOf v6).toNat)
          case atStart => exact ⟨0, Nat.zero_le _, rfl, Lib.hid (by rw [rowB_congr (g := M i) (fun j _ => by simp)]; exact HO2.out), O2, HB2⟩
          case round =>
            clear O2 HO2 HB2
            obtain ⟨k, hk, rfl, P1, P2, P3⟩ := hrel
            obtain ⟨V, rfl⟩ : ∃ wo : World, wo = wr := ⟨_, rfl⟩
            by_cases hlk : k < m
            · have h2 := P2.out
              rw [HMM.out] at h2
              obtain ⟨g, hq, hgB, hc⟩ := pl_cells' h2 (by have := HMM.out; omega)
              subst hq
              have c1 := hc k (by have := HMM.out; omega)
              have htk := Lib.hid (fun j => take_contains (l := l) (k := k) (by have := HMM.out; omega) j)
              have hx := HLT.out (l.getD k 0) (by rw [List.getD_eq_getElem?_getD, List.getElem?_eq_getElem (by have := HMM.out; omega)]; exact List.getElem_mem _)
              obtain ⟨x, hxx⟩ : ∃ x, x = l.getD k 0 := ⟨_, rfl⟩
              rw [← hxx] at c1 htk hx
              have x1 : (x : Int) < n := by omega
              have k1 : (k : Int) < m := by omega
              have k2 : (0 : Int) ≤ k := by omega
              have s2 : V.cell? ⟨w.heap.size, x, none⟩ = some (.bool (M i x || (l.take k).contains x)) := (P1.out.cellAt x (by omega)).trans (rowB_get _ hx)
              have f2 := P1.out.frozenAt x
              have Q1 := Lib.hid (P1.out.stored x (.bool true)).1
              have Q2 := Lib.hid (own_but P2.out (of_set V w.heap.size x (.bool true)) HG.out)
              have Q3 := Lib.hid (P3.out.setCell (p := ⟨w.heap.size, x, none⟩) (Nat.le_refl _) (.bool true))
              clear hc h2 hxx P1 P2 P3
              go_wp2_with fail
              go_roundw
              case rel =>
                refine ⟨k + 1, by omega, by go_num, Lib.hid ?_, Q2, Q3⟩
                have h := Q1.out
                rw [rowB_set] at h
                rw [rowB_congr (g := fun j => (M i j || (l.take k).contains j) || j == x) (fun j _ => by rw [htk.out j, Bool.or_assoc])]
                exact h
              case measure => simp [intOf]; omega
            · obtain rfl : m = k := by omega
              go_wp2_with fail
              go_roundw
              case rel =>
                refine ⟨i + 1, by omega, by go_num, Lib.hid ?_, P3⟩
                have h := P1.out
                rw [List.take_of_length_le (by rw [← HMM.out]; exact Nat.le_refl _)] at h
                rw [rowB_congr (g := fun j => M i j || l.contains j) (fun j _ => by rw [hst.out j, Bool.true_and])]
                exact h
              case measure => simp [intOf]; omega
      · obtain rfl : n = i := by omega
        go_wp2_with fail
        go_ret
        exact ⟨_, _, rfl, HO.out, HB.out⟩
  · obtain rfl : n = 0 := by omega
    go_enter Tryd.func36, Tryd.ntmps36
    go_wp2_with (first
      | (at_make
         refine wpList_make_full _ rfl _ _ 88 rfl w.heap.size 4 i0 _ 1 Tryd.underlying88 HI.out H0.out H1.out .i64 .i64 0 0 0 rfl rfl rfl rfl hm0 hm1 (Nat.le_refl _) ?_
         intro w1 o1 g1
         have b1 : Below w.heap.size w w1 := (Below.refl _ _).grown g1 (Nat.le_refl _) (by intro k hk; cases hk)
         rw [made_bools] at o1
         have O1 := Lib.hid o1
         clear o1 g1))
    go_loopw [4] (fun v4 wr => v4 = .int .i64 0 ∧ wr = w1) (fun v4 _ => 0 - (intOf v4).toNat)
    case atStart => exact ⟨rfl, rfl⟩
    case round =>
      obtain ⟨rfl, rfl⟩ := hrel
      go_wp2_with fail
      go_ret
      exact ⟨_, _, rfl, O1.out, b1⟩
end Go.Proofs.YtohfampfnhfnlaaDoor
