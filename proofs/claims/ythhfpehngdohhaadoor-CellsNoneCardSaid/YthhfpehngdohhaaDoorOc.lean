/- What the document's own Next returns: to where an instruction leads. Condition: a program of at most MaxInsns instructions. -/
import Derived.Test.YthhfpehngdohhaaDoorOb
import Derived.Test.YthhfpehngdohhaaDoorVh
import Derived.RegionTactic
import Derived.BigRegion
namespace Go.Proofs.YthhfpehngdohhaaDoor
open Go.RowKit
set_option linter.unusedVariables false
attribute [local go_sem ↓] Go.wp_at_zero Go.wp_at_succ

theorem two_same (n a : Nat) : two n a a = if a < n then [a] else [] := by
  unfold two
  rw [Nat.min_self, if_neg (fun h : max a a < n ∧ a ≠ a => h.2 rfl), List.append_nil]
theorem two_lt {n a b : Nat} (h : a < b) : two n a b = (if a < n then [a] else []) ++ (if b < n then [b] else []) := by
  unfold two
  rw [Nat.min_eq_left (by omega), Nat.max_eq_right (by omega)]
  by_cases hb : b < n
  · rw [if_pos (⟨hb, by omega⟩ : b < n ∧ a ≠ b), if_pos hb]
  · rw [if_neg (fun e : b < n ∧ a ≠ b => hb e.1), if_neg hb]
theorem two_comm (n a b : Nat) : two n a b = two n b a := by
  unfold two
  rw [Nat.min_comm, Nat.max_comm]
  by_cases e : a = b <;> simp [e, eq_comm]
/-- Places in a row of their own. -/
def NextTo (l : List Nat) (w : World) (e : Ending) (w' : World) : Prop := ∃ q c, e = .returned (.slice q l.length c) ∧ w'.ownsRow w.heap.size 3 1 (.slice q l.length c) l.length (plV l) ∧ Below w.heap.size w w'
theorem next_nil {w w' : World} (h : Below w.heap.size w w') : NextTo [] w (.returned (.slice none 0 0)) w' := ⟨none, 0, rfl, World.ownsRow_nil _ _ _ _, h⟩
def NextOf (a0 : Option Addr) (n cap : Nat) (k : Int) (l : List Nat) (w : World) : Prop := Calls Tryd.prog 14 #[.slice a0 n cap, .int .i64 k] w (NextTo l w)
theorem rn_low (a0 : Option Addr) (n cap : Nat) (k : Int) (w : World) (h : k < 0) : NextOf a0 n cap k [] w := by
  go_enter Tryd.func14, Tryd.ntmps14
  go_wp2
  go_ret
  exact next_nil (Below.refl _ _)
theorem rn_high (a0 : Option Addr) (n cap : Nat) (k : Int) (w : World) (h : 0 ≤ k) (h2 : (n : Int) ≤ k) : NextOf a0 n cap k [] w := by
  go_enter Tryd.func14, Tryd.ntmps14
  go_wp2
  go_ret
  exact next_nil (Below.refl _ _)
theorem rn_long (a0 : Option Addr) (n cap : Nat) (k : Int) (w : World) (h : 0 ≤ k) (h2 : k < n) (h3 : (4096 : Int) < n) : NextOf a0 n cap k [] w := by
  go_enter Tryd.func14, Tryd.ntmps14
  go_wp2
  go_ret
  exact next_nil (Below.refl _ _)
set_option maxRecDepth 100000 in
set_option maxHeartbeats 8000000 in
theorem rn_plain1 (b o n cap k : Nat) (i : Ins) (hok : i.Ok) (cl : Int) (w : World) (hk : k < n) (hn : n ≤ 4096) (hat : InsAt w b (o + k * 4) i) (hcl : clsI i.c = cl) (h0 : cl ≠ 0) (h4 : cl ≠ 4) (h5 : cl ≠ 5) (hx : k + 1 < n) :
    NextOf (some ⟨b, o, none⟩) n cap k [k + 1] w := by
  obtain ⟨i0, hi, hz0, hz1, hz2⟩ := info_parts int_info
  have HI := Lib.hid hi
  have H0 := Lib.hid hz0
  have H1 := Lib.hid hz1
  have H2 := Lib.hid hz2
  obtain ⟨ic, jt, jf, kk⟩ := i
  obtain ⟨q0, q1, q2, q3⟩ := hat
  obtain ⟨c0, c1, t0, t1, f0, f1, k0, k1⟩ := hok
  simp only at q0 q1 q2 q3 c0 c1 t0 t1 f0 f1 k0 k1 hcl
  have HO := Lib.hid (fun W => refOf_any ic W)
  rw [show (ofL allL ic).cls = cl from hcl] at HO
  obtain ⟨oc, hoc⟩ : ∃ x, x = (ofL allL ic).code := ⟨_, rfl⟩
  obtain ⟨on, hon⟩ : ∃ x, x = (ofL allL ic).name := ⟨_, rfl⟩
  rw [← hoc, ← hon] at HO
  have hb := World.block_lt_of_cell? w _ q0
  have hfd := one_field2
  have kn : (k : Int) < n := by omega
  have n4 : (n : Int) ≤ 4096 := by omega
  have n5 : decide ((4096 : Int) < n) = false := decide_eq_false (by omega)
  have n6 : decide ((n : Int) ≤ k) = false := decide_eq_false (by omega)
  clear hi hz0 hz1 hz2 hoc hon hcl hk hn
  have e0 : (cl == 0) = false := beq_eq_false_iff_ne.2 h0
  have e4 : (cl == 4) = false := beq_eq_false_iff_ne.2 h4
  have e5 : (cl == 5) = false := beq_eq_false_iff_ne.2 h5
  clear h0 h4 h5
  have x1 : (k : Int) + 1 < n := by omega
  clear hx
  go_enter Tryd.func14, Tryd.ntmps14
  go_wp2_with (first
    | (go_at_call 26; ((with_reducible refine (HO.out _).mono ?_); rintro e w1 ⟨rfl, b1⟩); have BW : Below w.heap.size w w1 := b1; have r0 := (b1.cell hb).trans q0; have r1 := (b1.cell (p := ⟨b, o + k * 4 + 1, none⟩) hb).trans q1; have r2 := (b1.cell (p := ⟨b, o + k * 4 + 2, none⟩) hb).trans q2; have r3 := (b1.cell (p := ⟨b, o + k * 4 + 3, none⟩) hb).trans q3)
    | ((with_reducible show wpList _ _ _ (⟨some 91, _, _, _, _, _⟩ :: _) _ _)
       refine wpList_append_own _ rfl (.tmp 88) (.tmp 90) 27 rfl w.heap.size 3 i0 _ 1 8 Tryd.underlying27 HI.out H0.out H1.out H2.out rfl Nat.one_pos (.slice none 0 0) 0 [] rfl (World.ownsRow_nil _ _ _ _) _ 1 1 [.int .i64 ((k : Int) + 1)] rfl rfl (news_lit _ _ _ _ rfl) (by intro v hv; rw [List.mem_singleton.1 hv]; rfl) (by unfold maxLen; omega) (by omega) (by have := b1.size; simp; omega) ?_
       intro v4 w4 o4 hg4 _
       have b4 : Below w.heap.size w w4 := (BW.alloc BW.size _).grown hg4 (by have := b1.size; simp; omega) (fun g hg => by cases hg)
       have HO4 := Lib.hid o4
       obtain ⟨q4, c4, rfl⟩ := own_form HO4.out
       clear o4 hg4))
  go_ret
  exact ⟨q4, c4, rfl, by rw [show plV [k + 1] = [.int .i64 ((k : Int) + 1)] by simp [plV]]; exact HO4.out, b4⟩
set_option maxRecDepth 100000 in
set_option maxHeartbeats 8000000 in
theorem rn_plain0 (b o n cap k : Nat) (i : Ins) (hok : i.Ok) (cl : Int) (w : World) (hk : k < n) (hn : n ≤ 4096) (hat : InsAt w b (o + k * 4) i) (hcl : clsI i.c = cl) (h0 : cl ≠ 0) (h4 : cl ≠ 4) (h5 : cl ≠ 5) (hx : ¬ k + 1 < n) :
    NextOf (some ⟨b, o, none⟩) n cap k [] w := by
  obtain ⟨i0, hi, hz0, hz1, hz2⟩ := info_parts int_info
  have HI := Lib.hid hi
  have H0 := Lib.hid hz0
  have H1 := Lib.hid hz1
  have H2 := Lib.hid hz2
  obtain ⟨ic, jt, jf, kk⟩ := i
  obtain ⟨q0, q1, q2, q3⟩ := hat
  obtain ⟨c0, c1, t0, t1, f0, f1, k0, k1⟩ := hok
  simp only at q0 q1 q2 q3 c0 c1 t0 t1 f0 f1 k0 k1 hcl
  have HO := Lib.hid (fun W => refOf_any ic W)
  rw [show (ofL allL ic).cls = cl from hcl] at HO
  obtain ⟨oc, hoc⟩ : ∃ x, x = (ofL allL ic).code := ⟨_, rfl⟩
  obtain ⟨on, hon⟩ : ∃ x, x = (ofL allL ic).name := ⟨_, rfl⟩
  rw [← hoc, ← hon] at HO
  have hb := World.block_lt_of_cell? w _ q0
  have hfd := one_field2
  have kn : (k : Int) < n := by omega
  have n4 : (n : Int) ≤ 4096 := by omega
  have n5 : decide ((4096 : Int) < n) = false := decide_eq_false (by omega)
  have n6 : decide ((n : Int) ≤ k) = false := decide_eq_false (by omega)
  clear hi hz0 hz1 hz2 hoc hon hcl hk hn
  have e0 : (cl == 0) = false := beq_eq_false_iff_ne.2 h0
  have e4 : (cl == 4) = false := beq_eq_false_iff_ne.2 h4
  have e5 : (cl == 5) = false := beq_eq_false_iff_ne.2 h5
  clear h0 h4 h5
  have x1 : ¬ (k : Int) + 1 < n := by omega
  clear hx
  go_enter Tryd.func14, Tryd.ntmps14
  go_wp2_with (first
    | (go_at_call 26; ((with_reducible refine (HO.out _).mono ?_); rintro e w1 ⟨rfl, b1⟩); have BW : Below w.heap.size w w1 := b1; have r0 := (b1.cell hb).trans q0; have r1 := (b1.cell (p := ⟨b, o + k * 4 + 1, none⟩) hb).trans q1; have r2 := (b1.cell (p := ⟨b, o + k * 4 + 2, none⟩) hb).trans q2; have r3 := (b1.cell (p := ⟨b, o + k * 4 + 3, none⟩) hb).trans q3))
  go_ret
  exact next_nil BW
set_option maxRecDepth 100000 in
set_option maxHeartbeats 8000000 in
theorem rn_ja1 (b o n cap k : Nat) (i : Ins) (hok : i.Ok) (cl : Int) (w : World) (hk : k < n) (hn : n ≤ 4096) (hat : InsAt w b (o + k * 4) i) (hcl : clsI i.c = cl) (h4 : cl = 4) (h5 : i.c = 5) (hx : k + 1 + i.k.toNat < n) :
    NextOf (some ⟨b, o, none⟩) n cap k [k + 1 + i.k.toNat] w := by
  obtain ⟨i0, hi, hz0, hz1, hz2⟩ := info_parts int_info
  have HI := Lib.hid hi
  have H0 := Lib.hid hz0
  have H1 := Lib.hid hz1
  have H2 := Lib.hid hz2
  obtain ⟨ic, jt, jf, kk⟩ := i
  obtain ⟨q0, q1, q2, q3⟩ := hat
  obtain ⟨c0, c1, t0, t1, f0, f1, k0, k1⟩ := hok
  simp only at q0 q1 q2 q3 c0 c1 t0 t1 f0 f1 k0 k1 hcl
  have HO := Lib.hid (fun W => refOf_any ic W)
  rw [show (ofL allL ic).cls = cl from hcl] at HO
  obtain ⟨oc, hoc⟩ : ∃ x, x = (ofL allL ic).code := ⟨_, rfl⟩
  obtain ⟨on, hon⟩ : ∃ x, x = (ofL allL ic).name := ⟨_, rfl⟩
  rw [← hoc, ← hon] at HO
  have hb := World.block_lt_of_cell? w _ q0
  have hfd := one_field2
  have kn : (k : Int) < n := by omega
  have n4 : (n : Int) ≤ 4096 := by omega
  have n5 : decide ((4096 : Int) < n) = false := decide_eq_false (by omega)
  have n6 : decide ((n : Int) ≤ k) = false := decide_eq_false (by omega)
  clear hi hz0 hz1 hz2 hoc hon hcl hk hn
  subst h4
  obtain rfl : ic = 5 := h5
  obtain ⟨kn, rfl⟩ := Int.eq_ofNat_of_zero_le k0
  have hw1 : IntKind.i64.wrap (kn : Int) = kn := by rw [IntKind.wrap_i64]; omega
  have hw2 : IntKind.i64.wrap ((k : Int) + 1 + kn) = k + 1 + kn := by rw [IntKind.wrap_i64]; omega
  simp only [Int.toNat_natCast] at hx ⊢
  have x1 : (k : Int) + 1 + kn < n := by omega
  clear hx k1
  go_enter Tryd.func14, Tryd.ntmps14
  go_wp2_with (first
    | (go_at_call 26; ((with_reducible refine (HO.out _).mono ?_); rintro e w1 ⟨rfl, b1⟩); have r0 := (b1.cell hb).trans q0; have r1 := (b1.cell (p := ⟨b, o + k * 4 + 1, none⟩) hb).trans q1; have r2 := (b1.cell (p := ⟨b, o + k * 4 + 2, none⟩) hb).trans q2; have r3 := (b1.cell (p := ⟨b, o + k * 4 + 3, none⟩) hb).trans q3))
  go_region
  go_wp2
  go_region
  have BW : Below w.heap.size w w1.drew.drew := b1.drew.drew
  go_wp2_with (first
    | ((with_reducible show wpList _ _ _ (⟨some 91, _, _, _, _, _⟩ :: _) _ _)
       refine wpList_append_own _ rfl (.tmp 88) (.tmp 90) 27 rfl w.heap.size 3 i0 _ 1 8 Tryd.underlying27 HI.out H0.out H1.out H2.out rfl Nat.one_pos (.slice none 0 0) 0 [] rfl (World.ownsRow_nil _ _ _ _) _ 1 1 [.int .i64 ((k : Int) + 1 + kn)] rfl rfl (news_lit _ _ _ _ rfl) (by intro v hv; rw [List.mem_singleton.1 hv]; rfl) (by unfold maxLen; omega) (by omega) (by have := b1.size; simp; omega) ?_
       intro v4 w4 o4 hg4 _
       have b4 : Below w.heap.size w w4 := (BW.alloc BW.size _).grown hg4 (by have := b1.size; simp; omega) (fun g hg => by cases hg)
       have HO4 := Lib.hid o4
       obtain ⟨q4, c4, rfl⟩ := own_form HO4.out
       clear o4 hg4))
  go_ret
  exact ⟨q4, c4, rfl, by rw [show plV [k + 1 + kn] = [.int .i64 ((k : Int) + 1 + kn)] by simp [plV]]; exact HO4.out, b4⟩
set_option maxRecDepth 100000 in
set_option maxHeartbeats 8000000 in
theorem rn_ja0 (b o n cap k : Nat) (i : Ins) (hok : i.Ok) (cl : Int) (w : World) (hk : k < n) (hn : n ≤ 4096) (hat : InsAt w b (o + k * 4) i) (hcl : clsI i.c = cl) (h4 : cl = 4) (h5 : i.c = 5) (hx : ¬ k + 1 + i.k.toNat < n) :
    NextOf (some ⟨b, o, none⟩) n cap k [] w := by
  obtain ⟨i0, hi, hz0, hz1, hz2⟩ := info_parts int_info
  have HI := Lib.hid hi
  have H0 := Lib.hid hz0
  have H1 := Lib.hid hz1
  have H2 := Lib.hid hz2
  obtain ⟨ic, jt, jf, kk⟩ := i
  obtain ⟨q0, q1, q2, q3⟩ := hat
  obtain ⟨c0, c1, t0, t1, f0, f1, k0, k1⟩ := hok
  simp only at q0 q1 q2 q3 c0 c1 t0 t1 f0 f1 k0 k1 hcl
  have HO := Lib.hid (fun W => refOf_any ic W)
  rw [show (ofL allL ic).cls = cl from hcl] at HO
  obtain ⟨oc, hoc⟩ : ∃ x, x = (ofL allL ic).code := ⟨_, rfl⟩
  obtain ⟨on, hon⟩ : ∃ x, x = (ofL allL ic).name := ⟨_, rfl⟩
  rw [← hoc, ← hon] at HO
  have hb := World.block_lt_of_cell? w _ q0
  have hfd := one_field2
  have kn : (k : Int) < n := by omega
  have n4 : (n : Int) ≤ 4096 := by omega
  have n5 : decide ((4096 : Int) < n) = false := decide_eq_false (by omega)
  have n6 : decide ((n : Int) ≤ k) = false := decide_eq_false (by omega)
  clear hi hz0 hz1 hz2 hoc hon hcl hk hn
  subst h4
  obtain rfl : ic = 5 := h5
  obtain ⟨kn, rfl⟩ := Int.eq_ofNat_of_zero_le k0
  have hw1 : IntKind.i64.wrap (kn : Int) = kn := by rw [IntKind.wrap_i64]; omega
  have hw2 : IntKind.i64.wrap ((k : Int) + 1 + kn) = k + 1 + kn := by rw [IntKind.wrap_i64]; omega
  simp only [Int.toNat_natCast] at hx ⊢
  have x1 : ¬ (k : Int) + 1 + kn < n := by omega
  clear hx k1
  go_enter Tryd.func14, Tryd.ntmps14
  go_wp2_with (first
    | (go_at_call 26; ((with_reducible refine (HO.out _).mono ?_); rintro e w1 ⟨rfl, b1⟩); have r0 := (b1.cell hb).trans q0; have r1 := (b1.cell (p := ⟨b, o + k * 4 + 1, none⟩) hb).trans q1; have r2 := (b1.cell (p := ⟨b, o + k * 4 + 2, none⟩) hb).trans q2; have r3 := (b1.cell (p := ⟨b, o + k * 4 + 3, none⟩) hb).trans q3))
  go_region
  go_wp2
  go_region
  have BW : Below w.heap.size w w1.drew.drew := b1.drew.drew
  go_wp2
  go_ret
  exact next_nil BW
set_option maxRecDepth 100000 in
set_option maxHeartbeats 8000000 in
theorem rn_jmp_eq1 (b o n cap k : Nat) (i : Ins) (hok : i.Ok) (cl : Int) (w : World) (hk : k < n) (hn : n ≤ 4096) (hat : InsAt w b (o + k * 4) i) (hcl : clsI i.c = cl) (h4 : cl = 4) (h5 : i.c ≠ 5) (hx : i.jt.toNat = i.jf.toNat ∧ k + 1 + i.jt.toNat < n ∧ True) :
    NextOf (some ⟨b, o, none⟩) n cap k [k + 1 + i.jt.toNat] w := by
  obtain ⟨i0, hi, hz0, hz1, hz2⟩ := info_parts int_info
  have HI := Lib.hid hi
  have H0 := Lib.hid hz0
  have H1 := Lib.hid hz1
  have H2 := Lib.hid hz2
  obtain ⟨ic, jt, jf, kk⟩ := i
  obtain ⟨q0, q1, q2, q3⟩ := hat
  obtain ⟨c0, c1, t0, t1, f0, f1, k0, k1⟩ := hok
  simp only at q0 q1 q2 q3 c0 c1 t0 t1 f0 f1 k0 k1 hcl
  have HO := Lib.hid (fun W => refOf_any ic W)
  rw [show (ofL allL ic).cls = cl from hcl] at HO
  obtain ⟨oc, hoc⟩ : ∃ x, x = (ofL allL ic).code := ⟨_, rfl⟩
  obtain ⟨on, hon⟩ : ∃ x, x = (ofL allL ic).name := ⟨_, rfl⟩
  rw [← hoc, ← hon] at HO
  have hb := World.block_lt_of_cell? w _ q0
  have hfd := one_field2
  have kn : (k : Int) < n := by omega
  have n4 : (n : Int) ≤ 4096 := by omega
  have n5 : decide ((4096 : Int) < n) = false := decide_eq_false (by omega)
  have n6 : decide ((n : Int) ≤ k) = false := decide_eq_false (by omega)
  clear hi hz0 hz1 hz2 hoc hon hcl hk hn
  subst h4
  obtain ⟨tn, rfl⟩ := Int.eq_ofNat_of_zero_le t0
  obtain ⟨fn, rfl⟩ := Int.eq_ofNat_of_zero_le f0
  have e5 : (ic == 5) = false := beq_eq_false_iff_ne.2 h5
  simp only [Int.toNat_natCast] at hx ⊢
  obtain ⟨x1, x2, x3⟩ := hx
  subst x1
  have y1 : (k : Int) + 1 + tn < n := by omega
  clear x2 x3 h5
  go_enter Tryd.func14, Tryd.ntmps14
  go_wp2_with (first
    | (go_at_call 26; ((with_reducible refine (HO.out _).mono ?_); rintro e w1 ⟨rfl, b1⟩); have r0 := (b1.cell hb).trans q0; have r1 := (b1.cell (p := ⟨b, o + k * 4 + 1, none⟩) hb).trans q1; have r2 := (b1.cell (p := ⟨b, o + k * 4 + 2, none⟩) hb).trans q2; have r3 := (b1.cell (p := ⟨b, o + k * 4 + 3, none⟩) hb).trans q3))
  go_region
  have BW : Below w.heap.size w w1.drew := b1.drew
  go_wp2_with (first
    | ((with_reducible show wpList _ _ _ (⟨some 91, _, _, _, _, _⟩ :: _) _ _)
       refine wpList_append_own _ rfl (.tmp 88) (.tmp 90) 27 rfl w.heap.size 3 i0 _ 1 8 Tryd.underlying27 HI.out H0.out H1.out H2.out rfl Nat.one_pos (.slice none 0 0) 0 [] rfl (World.ownsRow_nil _ _ _ _) _ 1 1 [.int .i64 ((k : Int) + 1 + tn)] rfl rfl (news_lit _ _ _ _ rfl) (by intro v hv; rw [List.mem_singleton.1 hv]; rfl) (by unfold maxLen; omega) (by omega) (by have := b1.size; simp; omega) ?_
       intro v4 w4 o4 hg4 _
       have b4 : Below w.heap.size w w4 := (BW.alloc BW.size _).grown hg4 (by have := b1.size; simp; omega) (fun g hg => by cases hg)
       have HO4 := Lib.hid o4
       obtain ⟨q4, c4, rfl⟩ := own_form HO4.out
       clear o4 hg4))
  go_ret
  exact ⟨q4, c4, rfl, by rw [show plV [k + 1 + tn] = [.int .i64 ((k : Int) + 1 + tn)] by simp [plV]]; exact HO4.out, b4⟩
set_option maxRecDepth 100000 in
set_option maxHeartbeats 8000000 in
theorem rn_jmp_eq0 (b o n cap k : Nat) (i : Ins) (hok : i.Ok) (cl : Int) (w : World) (hk : k < n) (hn : n ≤ 4096) (hat : InsAt w b (o + k * 4) i) (hcl : clsI i.c = cl) (h4 : cl = 4) (h5 : i.c ≠ 5) (hx : i.jt.toNat = i.jf.toNat ∧ ¬ k + 1 + i.jt.toNat < n ∧ True) :
    NextOf (some ⟨b, o, none⟩) n cap k [] w := by
  obtain ⟨i0, hi, hz0, hz1, hz2⟩ := info_parts int_info
  have HI := Lib.hid hi
  have H0 := Lib.hid hz0
  have H1 := Lib.hid hz1
  have H2 := Lib.hid hz2
  obtain ⟨ic, jt, jf, kk⟩ := i
  obtain ⟨q0, q1, q2, q3⟩ := hat
  obtain ⟨c0, c1, t0, t1, f0, f1, k0, k1⟩ := hok
  simp only at q0 q1 q2 q3 c0 c1 t0 t1 f0 f1 k0 k1 hcl
  have HO := Lib.hid (fun W => refOf_any ic W)
  rw [show (ofL allL ic).cls = cl from hcl] at HO
  obtain ⟨oc, hoc⟩ : ∃ x, x = (ofL allL ic).code := ⟨_, rfl⟩
  obtain ⟨on, hon⟩ : ∃ x, x = (ofL allL ic).name := ⟨_, rfl⟩
  rw [← hoc, ← hon] at HO
  have hb := World.block_lt_of_cell? w _ q0
  have hfd := one_field2
  have kn : (k : Int) < n := by omega
  have n4 : (n : Int) ≤ 4096 := by omega
  have n5 : decide ((4096 : Int) < n) = false := decide_eq_false (by omega)
  have n6 : decide ((n : Int) ≤ k) = false := decide_eq_false (by omega)
  clear hi hz0 hz1 hz2 hoc hon hcl hk hn
  subst h4
  obtain ⟨tn, rfl⟩ := Int.eq_ofNat_of_zero_le t0
  obtain ⟨fn, rfl⟩ := Int.eq_ofNat_of_zero_le f0
  have e5 : (ic == 5) = false := beq_eq_false_iff_ne.2 h5
  simp only [Int.toNat_natCast] at hx ⊢
  obtain ⟨x1, x2, x3⟩ := hx
  subst x1
  have y1 : ¬ (k : Int) + 1 + tn < n := by omega
  clear x2 x3 h5
  go_enter Tryd.func14, Tryd.ntmps14
  go_wp2_with (first
    | (go_at_call 26; ((with_reducible refine (HO.out _).mono ?_); rintro e w1 ⟨rfl, b1⟩); have r0 := (b1.cell hb).trans q0; have r1 := (b1.cell (p := ⟨b, o + k * 4 + 1, none⟩) hb).trans q1; have r2 := (b1.cell (p := ⟨b, o + k * 4 + 2, none⟩) hb).trans q2; have r3 := (b1.cell (p := ⟨b, o + k * 4 + 3, none⟩) hb).trans q3))
  go_region
  have BW : Below w.heap.size w w1.drew := b1.drew
  go_wp2
  go_ret
  exact next_nil BW
set_option maxRecDepth 100000 in
set_option maxHeartbeats 8000000 in
theorem rn_jmp_lt2 (b o n cap k : Nat) (i : Ins) (hok : i.Ok) (cl : Int) (w : World) (hk : k < n) (hn : n ≤ 4096) (hat : InsAt w b (o + k * 4) i) (hcl : clsI i.c = cl) (h4 : cl = 4) (h5 : i.c ≠ 5) (hx : i.jt.toNat < i.jf.toNat ∧ k + 1 + i.jt.toNat < n ∧ k + 1 + i.jf.toNat < n) :
    NextOf (some ⟨b, o, none⟩) n cap k [k + 1 + i.jt.toNat, k + 1 + i.jf.toNat] w := by
  obtain ⟨i0, hi, hz0, hz1, hz2⟩ := info_parts int_info
  have HI := Lib.hid hi
  have H0 := Lib.hid hz0
  have H1 := Lib.hid hz1
  have H2 := Lib.hid hz2
  obtain ⟨ic, jt, jf, kk⟩ := i
  obtain ⟨q0, q1, q2, q3⟩ := hat
  obtain ⟨c0, c1, t0, t1, f0, f1, k0, k1⟩ := hok
  simp only at q0 q1 q2 q3 c0 c1 t0 t1 f0 f1 k0 k1 hcl
  have HO := Lib.hid (fun W => refOf_any ic W)
  rw [show (ofL allL ic).cls = cl from hcl] at HO
  obtain ⟨oc, hoc⟩ : ∃ x, x = (ofL allL ic).code := ⟨_, rfl⟩
  obtain ⟨on, hon⟩ : ∃ x, x = (ofL allL ic).name := ⟨_, rfl⟩
  rw [← hoc, ← hon] at HO
  have hb := World.block_lt_of_cell? w _ q0
  have hfd := one_field2
  have kn : (k : Int) < n := by omega
  have n4 : (n : Int) ≤ 4096 := by omega
  have n5 : decide ((4096 : Int) < n) = false := decide_eq_false (by omega)
  have n6 : decide ((n : Int) ≤ k) = false := decide_eq_false (by omega)
  clear hi hz0 hz1 hz2 hoc hon hcl hk hn
  subst h4
  obtain ⟨tn, rfl⟩ := Int.eq_ofNat_of_zero_le t0
  obtain ⟨fn, rfl⟩ := Int.eq_ofNat_of_zero_le f0
  have e5 : (ic == 5) = false := beq_eq_false_iff_ne.2 h5
  simp only [Int.toNat_natCast] at hx ⊢
  obtain ⟨x1, x2, x3⟩ := hx
  have y0 : ¬ (k : Int) + 1 + fn < (k : Int) + 1 + tn := by omega
  have y1 : (k : Int) + 1 + tn < n := by omega
  have y2 : (k : Int) + 1 + fn < n := by omega
  have y3 : ((k : Int) + 1 + fn != (k : Int) + 1 + tn) = true := by simp; omega
  clear x1 x2 x3 h5
  go_enter Tryd.func14, Tryd.ntmps14
  go_wp2_with (first
    | (go_at_call 26; ((with_reducible refine (HO.out _).mono ?_); rintro e w1 ⟨rfl, b1⟩); have r0 := (b1.cell hb).trans q0; have r1 := (b1.cell (p := ⟨b, o + k * 4 + 1, none⟩) hb).trans q1; have r2 := (b1.cell (p := ⟨b, o + k * 4 + 2, none⟩) hb).trans q2; have r3 := (b1.cell (p := ⟨b, o + k * 4 + 3, none⟩) hb).trans q3))
  go_region
  have BW : Below w.heap.size w w1.drew := b1.drew
  go_wp2_with (first
    | ((with_reducible show wpList _ _ _ (⟨some 91, _, _, _, _, _⟩ :: _) _ _)
       refine wpList_append_own _ rfl (.tmp 88) (.tmp 90) 27 rfl w.heap.size 3 i0 _ 1 8 Tryd.underlying27 HI.out H0.out H1.out H2.out rfl Nat.one_pos (.slice none 0 0) 0 [] rfl (World.ownsRow_nil _ _ _ _) _ 1 1 [.int .i64 ((k : Int) + 1 + tn)] rfl rfl (news_lit _ _ _ _ rfl) (by intro v hv; rw [List.mem_singleton.1 hv]; rfl) (by unfold maxLen; omega) (by omega) (by have := b1.size; simp; omega) ?_
       intro v4 w4 o4 hg4 _
       have b4 : Below w.heap.size w w4 := (BW.alloc BW.size _).grown hg4 (by have := b1.size; simp; omega) (fun g hg => by cases hg)
       have HO4 := Lib.hid o4
       obtain ⟨q4, c4, rfl⟩ := own_form HO4.out
       clear o4 hg4)
    | ((with_reducible show wpList _ _ _ (⟨some 104, _, _, _, _, _⟩ :: _) _ _)
       refine wpList_append_own _ rfl (.tmp 101) (.tmp 103) 27 rfl w.heap.size 3 i0 _ 1 8 Tryd.underlying27 HI.out H0.out H1.out H2.out rfl Nat.one_pos (.slice q4 1 c4) 1 [.int .i64 ((k : Int) + 1 + tn)] rfl (HO4.out.alloc _) _ 1 1 [.int .i64 ((k : Int) + 1 + fn)] rfl rfl (news_lit _ _ _ _ rfl) (by intro v hv; rw [List.mem_singleton.1 hv]; rfl) (by unfold maxLen; omega) (by omega) (by have := b4.size; simp; omega) ?_
       intro v5 w5 o5 hg5 _
       have b5 : Below w.heap.size w w5 := (b4.alloc b4.size _).grown hg5 (by have := b4.size; simp; omega) (fun g hg => (HO4.out.lt g hg).1)
       have HO5 := Lib.hid o5
       obtain ⟨q5, c5, rfl⟩ := own_form HO5.out
       clear o5 hg5))
  go_ret
  exact ⟨q5, c5, rfl, by rw [show plV [k + 1 + tn, k + 1 + fn] = [.int .i64 ((k : Int) + 1 + tn)] ++ [.int .i64 ((k : Int) + 1 + fn)] by simp [plV]]; exact HO5.out, b5⟩
set_option maxRecDepth 100000 in
set_option maxHeartbeats 8000000 in
theorem rn_jmp_lt1 (b o n cap k : Nat) (i : Ins) (hok : i.Ok) (cl : Int) (w : World) (hk : k < n) (hn : n ≤ 4096) (hat : InsAt w b (o + k * 4) i) (hcl : clsI i.c = cl) (h4 : cl = 4) (h5 : i.c ≠ 5) (hx : i.jt.toNat < i.jf.toNat ∧ k + 1 + i.jt.toNat < n ∧ ¬ k + 1 + i.jf.toNat < n) :
    NextOf (some ⟨b, o, none⟩) n cap k [k + 1 + i.jt.toNat] w := by
  obtain ⟨i0, hi, hz0, hz1, hz2⟩ := info_parts int_info
  have HI := Lib.hid hi
  have H0 := Lib.hid hz0
  have H1 := Lib.hid hz1
  have H2 := Lib.hid hz2
  obtain ⟨ic, jt, jf, kk⟩ := i
  obtain ⟨q0, q1, q2, q3⟩ := hat
  obtain ⟨c0, c1, t0, t1, f0, f1, k0, k1⟩ := hok
  simp only at q0 q1 q2 q3 c0 c1 t0 t1 f0 f1 k0 k1 hcl
  have HO := Lib.hid (fun W => refOf_any ic W)
  rw [show (ofL allL ic).cls = cl from hcl] at HO
  obtain ⟨oc, hoc⟩ : ∃ x, x = (ofL allL ic).code := ⟨_, rfl⟩
  obtain ⟨on, hon⟩ : ∃ x, x = (ofL allL ic).name := ⟨_, rfl⟩
  rw [← hoc, ← hon] at HO
  have hb := World.block_lt_of_cell? w _ q0
  have hfd := one_field2
  have kn : (k : Int) < n := by omega
  have n4 : (n : Int) ≤ 4096 := by omega
  have n5 : decide ((4096 : Int) < n) = false := decide_eq_false (by omega)
  have n6 : decide ((n : Int) ≤ k) = false := decide_eq_false (by omega)
  clear hi hz0 hz1 hz2 hoc hon hcl hk hn
  subst h4
  obtain ⟨tn, rfl⟩ := Int.eq_ofNat_of_zero_le t0
  obtain ⟨fn, rfl⟩ := Int.eq_ofNat_of_zero_le f0
  have e5 : (ic == 5) = false := beq_eq_false_iff_ne.2 h5
  simp only [Int.toNat_natCast] at hx ⊢
  obtain ⟨x1, x2, x3⟩ := hx
  have y0 : ¬ (k : Int) + 1 + fn < (k : Int) + 1 + tn := by omega
  have y1 : (k : Int) + 1 + tn < n := by omega
  have y2 : ¬ (k : Int) + 1 + fn < n := by omega
  clear x1 x2 x3 h5
  go_enter Tryd.func14, Tryd.ntmps14
  go_wp2_with (first
    | (go_at_call 26; ((with_reducible refine (HO.out _).mono ?_); rintro e w1 ⟨rfl, b1⟩); have r0 := (b1.cell hb).trans q0; have r1 := (b1.cell (p := ⟨b, o + k * 4 + 1, none⟩) hb).trans q1; have r2 := (b1.cell (p := ⟨b, o + k * 4 + 2, none⟩) hb).trans q2; have r3 := (b1.cell (p := ⟨b, o + k * 4 + 3, none⟩) hb).trans q3))
  go_region
  have BW : Below w.heap.size w w1.drew := b1.drew
  go_wp2_with (first
    | ((with_reducible show wpList _ _ _ (⟨some 91, _, _, _, _, _⟩ :: _) _ _)
       refine wpList_append_own _ rfl (.tmp 88) (.tmp 90) 27 rfl w.heap.size 3 i0 _ 1 8 Tryd.underlying27 HI.out H0.out H1.out H2.out rfl Nat.one_pos (.slice none 0 0) 0 [] rfl (World.ownsRow_nil _ _ _ _) _ 1 1 [.int .i64 ((k : Int) + 1 + tn)] rfl rfl (news_lit _ _ _ _ rfl) (by intro v hv; rw [List.mem_singleton.1 hv]; rfl) (by unfold maxLen; omega) (by omega) (by have := b1.size; simp; omega) ?_
       intro v4 w4 o4 hg4 _
       have b4 : Below w.heap.size w w4 := (BW.alloc BW.size _).grown hg4 (by have := b1.size; simp; omega) (fun g hg => by cases hg)
       have HO4 := Lib.hid o4
       obtain ⟨q4, c4, rfl⟩ := own_form HO4.out
       clear o4 hg4))
  go_ret
  exact ⟨q4, c4, rfl, by rw [show plV [k + 1 + tn] = [.int .i64 ((k : Int) + 1 + tn)] by simp [plV]]; exact HO4.out, b4⟩
set_option maxRecDepth 100000 in
set_option maxHeartbeats 8000000 in
theorem rn_jmp_lt0 (b o n cap k : Nat) (i : Ins) (hok : i.Ok) (cl : Int) (w : World) (hk : k < n) (hn : n ≤ 4096) (hat : InsAt w b (o + k * 4) i) (hcl : clsI i.c = cl) (h4 : cl = 4) (h5 : i.c ≠ 5) (hx : i.jt.toNat < i.jf.toNat ∧ ¬ k + 1 + i.jt.toNat < n ∧ ¬ k + 1 + i.jf.toNat < n) :
    NextOf (some ⟨b, o, none⟩) n cap k [] w := by
  obtain ⟨i0, hi, hz0, hz1, hz2⟩ := info_parts int_info
  have HI := Lib.hid hi
  have H0 := Lib.hid hz0
  have H1 := Lib.hid hz1
  have H2 := Lib.hid hz2
  obtain ⟨ic, jt, jf, kk⟩ := i
  obtain ⟨q0, q1, q2, q3⟩ := hat
  obtain ⟨c0, c1, t0, t1, f0, f1, k0, k1⟩ := hok
  simp only at q0 q1 q2 q3 c0 c1 t0 t1 f0 f1 k0 k1 hcl
  have HO := Lib.hid (fun W => refOf_any ic W)
  rw [show (ofL allL ic).cls = cl from hcl] at HO
  obtain ⟨oc, hoc⟩ : ∃ x, x = (ofL allL ic).code := ⟨_, rfl⟩
  obtain ⟨on, hon⟩ : ∃ x, x = (ofL allL ic).name := ⟨_, rfl⟩
  rw [← hoc, ← hon] at HO
  have hb := World.block_lt_of_cell? w _ q0
  have hfd := one_field2
  have kn : (k : Int) < n := by omega
  have n4 : (n : Int) ≤ 4096 := by omega
  have n5 : decide ((4096 : Int) < n) = false := decide_eq_false (by omega)
  have n6 : decide ((n : Int) ≤ k) = false := decide_eq_false (by omega)
  clear hi hz0 hz1 hz2 hoc hon hcl hk hn
  subst h4
  obtain ⟨tn, rfl⟩ := Int.eq_ofNat_of_zero_le t0
  obtain ⟨fn, rfl⟩ := Int.eq_ofNat_of_zero_le f0
  have e5 : (ic == 5) = false := beq_eq_false_iff_ne.2 h5
  simp only [Int.toNat_natCast] at hx ⊢
  obtain ⟨x1, x2, x3⟩ := hx
  have y0 : ¬ (k : Int) + 1 + fn < (k : Int) + 1 + tn := by omega
  have y1 : ¬ (k : Int) + 1 + tn < n := by omega
  have y2 : ¬ (k : Int) + 1 + fn < n := by omega
  clear x1 x2 x3 h5
  go_enter Tryd.func14, Tryd.ntmps14
  go_wp2_with (first
    | (go_at_call 26; ((with_reducible refine (HO.out _).mono ?_); rintro e w1 ⟨rfl, b1⟩); have r0 := (b1.cell hb).trans q0; have r1 := (b1.cell (p := ⟨b, o + k * 4 + 1, none⟩) hb).trans q1; have r2 := (b1.cell (p := ⟨b, o + k * 4 + 2, none⟩) hb).trans q2; have r3 := (b1.cell (p := ⟨b, o + k * 4 + 3, none⟩) hb).trans q3))
  go_region
  have BW : Below w.heap.size w w1.drew := b1.drew
  go_wp2
  go_ret
  exact next_nil BW
set_option maxRecDepth 100000 in
set_option maxHeartbeats 8000000 in
theorem rn_jmp_gt2 (b o n cap k : Nat) (i : Ins) (hok : i.Ok) (cl : Int) (w : World) (hk : k < n) (hn : n ≤ 4096) (hat : InsAt w b (o + k * 4) i) (hcl : clsI i.c = cl) (h4 : cl = 4) (h5 : i.c ≠ 5) (hx : i.jf.toNat < i.jt.toNat ∧ k + 1 + i.jf.toNat < n ∧ k + 1 + i.jt.toNat < n) :
    NextOf (some ⟨b, o, none⟩) n cap k [k + 1 + i.jf.toNat, k + 1 + i.jt.toNat] w := by
  obtain ⟨i0, hi, hz0, hz1, hz2⟩ := info_parts int_info
  have HI := Lib.hid hi
  have H0 := Lib.hid hz0
  have H1 := Lib.hid hz1
  have H2 := Lib.hid hz2
  obtain ⟨ic, jt, jf, kk⟩ := i
  obtain ⟨q0, q1, q2, q3⟩ := hat
  obtain ⟨c0, c1, t0, t1, f0, f1, k0, k1⟩ := hok
  simp only at q0 q1 q2 q3 c0 c1 t0 t1 f0 f1 k0 k1 hcl
  have HO := Lib.hid (fun W => refOf_any ic W)
  rw [show (ofL allL ic).cls = cl from hcl] at HO
  obtain ⟨oc, hoc⟩ : ∃ x, x = (ofL allL ic).code := ⟨_, rfl⟩
  obtain ⟨on, hon⟩ : ∃ x, x = (ofL allL ic).name := ⟨_, rfl⟩
  rw [← hoc, ← hon] at HO
  have hb := World.block_lt_of_cell? w _ q0
  have hfd := one_field2
  have kn : (k : Int) < n := by omega
  have n4 : (n : Int) ≤ 4096 := by omega
  have n5 : decide ((4096 : Int) < n) = false := decide_eq_false (by omega)
  have n6 : decide ((n : Int) ≤ k) = false := decide_eq_false (by omega)
  clear hi hz0 hz1 hz2 hoc hon hcl hk hn
  subst h4
  obtain ⟨tn, rfl⟩ := Int.eq_ofNat_of_zero_le t0
  obtain ⟨fn, rfl⟩ := Int.eq_ofNat_of_zero_le f0
  have e5 : (ic == 5) = false := beq_eq_false_iff_ne.2 h5
  simp only [Int.toNat_natCast] at hx ⊢
  obtain ⟨x1, x2, x3⟩ := hx
  have y0 : (k : Int) + 1 + fn < (k : Int) + 1 + tn := by omega
  have y1 : (k : Int) + 1 + fn < n := by omega
  have y2 : (k : Int) + 1 + tn < n := by omega
  have y3 : ((k : Int) + 1 + tn != (k : Int) + 1 + fn) = true := by simp; omega
  clear x1 x2 x3 h5
  go_enter Tryd.func14, Tryd.ntmps14
  go_wp2_with (first
    | (go_at_call 26; ((with_reducible refine (HO.out _).mono ?_); rintro e w1 ⟨rfl, b1⟩); have r0 := (b1.cell hb).trans q0; have r1 := (b1.cell (p := ⟨b, o + k * 4 + 1, none⟩) hb).trans q1; have r2 := (b1.cell (p := ⟨b, o + k * 4 + 2, none⟩) hb).trans q2; have r3 := (b1.cell (p := ⟨b, o + k * 4 + 3, none⟩) hb).trans q3))
  go_region
  have BW : Below w.heap.size w w1.drew := b1.drew
  go_wp2_with (first
    | ((with_reducible show wpList _ _ _ (⟨some 91, _, _, _, _, _⟩ :: _) _ _)
       refine wpList_append_own _ rfl (.tmp 88) (.tmp 90) 27 rfl w.heap.size 3 i0 _ 1 8 Tryd.underlying27 HI.out H0.out H1.out H2.out rfl Nat.one_pos (.slice none 0 0) 0 [] rfl (World.ownsRow_nil _ _ _ _) _ 1 1 [.int .i64 ((k : Int) + 1 + fn)] rfl rfl (news_lit _ _ _ _ rfl) (by intro v hv; rw [List.mem_singleton.1 hv]; rfl) (by unfold maxLen; omega) (by omega) (by have := b1.size; simp; omega) ?_
       intro v4 w4 o4 hg4 _
       have b4 : Below w.heap.size w w4 := (BW.alloc BW.size _).grown hg4 (by have := b1.size; simp; omega) (fun g hg => by cases hg)
       have HO4 := Lib.hid o4
       obtain ⟨q4, c4, rfl⟩ := own_form HO4.out
       clear o4 hg4)
    | ((with_reducible show wpList _ _ _ (⟨some 104, _, _, _, _, _⟩ :: _) _ _)
       refine wpList_append_own _ rfl (.tmp 101) (.tmp 103) 27 rfl w.heap.size 3 i0 _ 1 8 Tryd.underlying27 HI.out H0.out H1.out H2.out rfl Nat.one_pos (.slice q4 1 c4) 1 [.int .i64 ((k : Int) + 1 + fn)] rfl (HO4.out.alloc _) _ 1 1 [.int .i64 ((k : Int) + 1 + tn)] rfl rfl (news_lit _ _ _ _ rfl) (by intro v hv; rw [List.mem_singleton.1 hv]; rfl) (by unfold maxLen; omega) (by omega) (by have := b4.size; simp; omega) ?_
       intro v5 w5 o5 hg5 _
       have b5 : Below w.heap.size w w5 := (b4.alloc b4.size _).grown hg5 (by have := b4.size; simp; omega) (fun g hg => (HO4.out.lt g hg).1)
       have HO5 := Lib.hid o5
       obtain ⟨q5, c5, rfl⟩ := own_form HO5.out
       clear o5 hg5))
  go_ret
  exact ⟨q5, c5, rfl, by rw [show plV [k + 1 + fn, k + 1 + tn] = [.int .i64 ((k : Int) + 1 + fn)] ++ [.int .i64 ((k : Int) + 1 + tn)] by simp [plV]]; exact HO5.out, b5⟩
set_option maxRecDepth 100000 in
set_option maxHeartbeats 8000000 in
theorem rn_jmp_gt1 (b o n cap k : Nat) (i : Ins) (hok : i.Ok) (cl : Int) (w : World) (hk : k < n) (hn : n ≤ 4096) (hat : InsAt w b (o + k * 4) i) (hcl : clsI i.c = cl) (h4 : cl = 4) (h5 : i.c ≠ 5) (hx : i.jf.toNat < i.jt.toNat ∧ k + 1 + i.jf.toNat < n ∧ ¬ k + 1 + i.jt.toNat < n) :
    NextOf (some ⟨b, o, none⟩) n cap k [k + 1 + i.jf.toNat] w := by
  obtain ⟨i0, hi, hz0, hz1, hz2⟩ := info_parts int_info
  have HI := Lib.hid hi
  have H0 := Lib.hid hz0
  have H1 := Lib.hid hz1
  have H2 := Lib.hid hz2
  obtain ⟨ic, jt, jf, kk⟩ := i
  obtain ⟨q0, q1, q2, q3⟩ := hat
  obtain ⟨c0, c1, t0, t1, f0, f1, k0, k1⟩ := hok
  simp only at q0 q1 q2 q3 c0 c1 t0 t1 f0 f1 k0 k1 hcl
  have HO := Lib.hid (fun W => refOf_any ic W)
  rw [show (ofL allL ic).cls = cl from hcl] at HO
  obtain ⟨oc, hoc⟩ : ∃ x, x = (ofL allL ic).code := ⟨_, rfl⟩
  obtain ⟨on, hon⟩ : ∃ x, x = (ofL allL ic).name := ⟨_, rfl⟩
  rw [← hoc, ← hon] at HO
  have hb := World.block_lt_of_cell? w _ q0
  have hfd := one_field2
  have kn : (k : Int) < n := by omega
  have n4 : (n : Int) ≤ 4096 := by omega
  have n5 : decide ((4096 : Int) < n) = false := decide_eq_false (by omega)
  have n6 : decide ((n : Int) ≤ k) = false := decide_eq_false (by omega)
  clear hi hz0 hz1 hz2 hoc hon hcl hk hn
  subst h4
  obtain ⟨tn, rfl⟩ := Int.eq_ofNat_of_zero_le t0
  obtain ⟨fn, rfl⟩ := Int.eq_ofNat_of_zero_le f0
  have e5 : (ic == 5) = false := beq_eq_false_iff_ne.2 h5
  simp only [Int.toNat_natCast] at hx ⊢
  obtain ⟨x1, x2, x3⟩ := hx
  have y0 : (k : Int) + 1 + fn < (k : Int) + 1 + tn := by omega
  have y1 : (k : Int) + 1 + fn < n := by omega
  have y2 : ¬ (k : Int) + 1 + tn < n := by omega
  clear x1 x2 x3 h5
  go_enter Tryd.func14, Tryd.ntmps14
  go_wp2_with (first
    | (go_at_call 26; ((with_reducible refine (HO.out _).mono ?_); rintro e w1 ⟨rfl, b1⟩); have r0 := (b1.cell hb).trans q0; have r1 := (b1.cell (p := ⟨b, o + k * 4 + 1, none⟩) hb).trans q1; have r2 := (b1.cell (p := ⟨b, o + k * 4 + 2, none⟩) hb).trans q2; have r3 := (b1.cell (p := ⟨b, o + k * 4 + 3, none⟩) hb).trans q3))
  go_region
  have BW : Below w.heap.size w w1.drew := b1.drew
  go_wp2_with (first
    | ((with_reducible show wpList _ _ _ (⟨some 91, _, _, _, _, _⟩ :: _) _ _)
       refine wpList_append_own _ rfl (.tmp 88) (.tmp 90) 27 rfl w.heap.size 3 i0 _ 1 8 Tryd.underlying27 HI.out H0.out H1.out H2.out rfl Nat.one_pos (.slice none 0 0) 0 [] rfl (World.ownsRow_nil _ _ _ _) _ 1 1 [.int .i64 ((k : Int) + 1 + fn)] rfl rfl (news_lit _ _ _ _ rfl) (by intro v hv; rw [List.mem_singleton.1 hv]; rfl) (by unfold maxLen; omega) (by omega) (by have := b1.size; simp; omega) ?_
       intro v4 w4 o4 hg4 _
       have b4 : Below w.heap.size w w4 := (BW.alloc BW.size _).grown hg4 (by have := b1.size; simp; omega) (fun g hg => by cases hg)
       have HO4 := Lib.hid o4
       obtain ⟨q4, c4, rfl⟩ := own_form HO4.out
       clear o4 hg4))
  go_ret
  exact ⟨q4, c4, rfl, by rw [show plV [k + 1 + fn] = [.int .i64 ((k : Int) + 1 + fn)] by simp [plV]]; exact HO4.out, b4⟩
set_option maxRecDepth 100000 in
set_option maxHeartbeats 8000000 in
theorem rn_jmp_gt0 (b o n cap k : Nat) (i : Ins) (hok : i.Ok) (cl : Int) (w : World) (hk : k < n) (hn : n ≤ 4096) (hat : InsAt w b (o + k * 4) i) (hcl : clsI i.c = cl) (h4 : cl = 4) (h5 : i.c ≠ 5) (hx : i.jf.toNat < i.jt.toNat ∧ ¬ k + 1 + i.jf.toNat < n ∧ ¬ k + 1 + i.jt.toNat < n) :
    NextOf (some ⟨b, o, none⟩) n cap k [] w := by
  obtain ⟨i0, hi, hz0, hz1, hz2⟩ := info_parts int_info
  have HI := Lib.hid hi
  have H0 := Lib.hid hz0
  have H1 := Lib.hid hz1
  have H2 := Lib.hid hz2
  obtain ⟨ic, jt, jf, kk⟩ := i
  obtain ⟨q0, q1, q2, q3⟩ := hat
  obtain ⟨c0, c1, t0, t1, f0, f1, k0, k1⟩ := hok
  simp only at q0 q1 q2 q3 c0 c1 t0 t1 f0 f1 k0 k1 hcl
  have HO := Lib.hid (fun W => refOf_any ic W)
  rw [show (ofL allL ic).cls = cl from hcl] at HO
  obtain ⟨oc, hoc⟩ : ∃ x, x = (ofL allL ic).code := ⟨_, rfl⟩
  obtain ⟨on, hon⟩ : ∃ x, x = (ofL allL ic).name := ⟨_, rfl⟩
  rw [← hoc, ← hon] at HO
  have hb := World.block_lt_of_cell? w _ q0
  have hfd := one_field2
  have kn : (k : Int) < n := by omega
  have n4 : (n : Int) ≤ 4096 := by omega
  have n5 : decide ((4096 : Int) < n) = false := decide_eq_false (by omega)
  have n6 : decide ((n : Int) ≤ k) = false := decide_eq_false (by omega)
  clear hi hz0 hz1 hz2 hoc hon hcl hk hn
  subst h4
  obtain ⟨tn, rfl⟩ := Int.eq_ofNat_of_zero_le t0
  obtain ⟨fn, rfl⟩ := Int.eq_ofNat_of_zero_le f0
  have e5 : (ic == 5) = false := beq_eq_false_iff_ne.2 h5
  simp only [Int.toNat_natCast] at hx ⊢
  obtain ⟨x1, x2, x3⟩ := hx
  have y0 : (k : Int) + 1 + fn < (k : Int) + 1 + tn := by omega
  have y1 : ¬ (k : Int) + 1 + fn < n := by omega
  have y2 : ¬ (k : Int) + 1 + tn < n := by omega
  clear x1 x2 x3 h5
  go_enter Tryd.func14, Tryd.ntmps14
  go_wp2_with (first
    | (go_at_call 26; ((with_reducible refine (HO.out _).mono ?_); rintro e w1 ⟨rfl, b1⟩); have r0 := (b1.cell hb).trans q0; have r1 := (b1.cell (p := ⟨b, o + k * 4 + 1, none⟩) hb).trans q1; have r2 := (b1.cell (p := ⟨b, o + k * 4 + 2, none⟩) hb).trans q2; have r3 := (b1.cell (p := ⟨b, o + k * 4 + 3, none⟩) hb).trans q3))
  go_region
  have BW : Below w.heap.size w w1.drew := b1.drew
  go_wp2
  go_ret
  exact next_nil BW
theorem rn_none (b o n cap k : Nat) (i : Ins) (w : World) (hk : k < n) (hn : n ≤ 4096) (hat : InsAt w b (o + k * 4) i) (hcl : clsI i.c = 0 ∨ clsI i.c = 5) :
    NextOf (some ⟨b, o, none⟩) n cap k [] w := by
  obtain ⟨q0, q1, q2, q3⟩ := hat
  have HO := Lib.hid (fun W => refOf_any i.c W)
  obtain ⟨cl, hc⟩ : ∃ x, x = (ofL allL i.c).cls := ⟨_, rfl⟩
  obtain ⟨oc, hoc⟩ : ∃ x, x = (ofL allL i.c).code := ⟨_, rfl⟩
  obtain ⟨on, hon⟩ : ∃ x, x = (ofL allL i.c).name := ⟨_, rfl⟩
  rw [← hoc, ← hon, ← hc] at HO
  unfold clsI at hcl
  rw [← hc] at hcl
  have hfd := one_field2
  have kn : (k : Int) < n := by omega
  have n5 : decide ((4096 : Int) < n) = false := decide_eq_false (by omega)
  have n6 : decide ((n : Int) ≤ k) = false := decide_eq_false (by omega)
  clear hc hoc hon hk hn
  rcases hcl with rfl | rfl
  all_goals
    go_enter Tryd.func14, Tryd.ntmps14
    go_wp2_with (go_at_call 26; ((with_reducible refine (HO.out _).mono ?_); rintro e w1 ⟨rfl, b1⟩))
    go_ret
    exact next_nil b1
/-- What the document's Next returns. -/
theorem refNext (a0 : Option Addr) (n cap : Nat) (p : List Ins) (at_ : Int) (w : World) (hl : p.length = n) (hn : n ≤ 4096) (hp : OkL p) (hr : RdI w w.heap.size a0 p) : NextOf a0 n cap at_ (nextA p at_) w := by
  unfold nextA
  by_cases h0 : 0 ≤ at_
  · rw [if_pos h0]
    obtain ⟨k, rfl⟩ := Int.eq_ofNat_of_zero_le h0
    rw [Int.toNat_natCast]
    by_cases hk : k < n
    · have hkl : k < p.length := by omega
      obtain ⟨b, o, rfl, _, hc⟩ := hr (by omega)
      have hat := hc k hkl
      have hok := hp.get hkl
      unfold nextL
      rw [List.getElem?_eq_getElem hkl]
      simp only
      generalize p[k] = i at hat hok
      rw [hl]
      unfold nextI
      by_cases hcl : clsI i.c = 0 ∨ clsI i.c = 5
      · rw [if_pos hcl]; exact rn_none b o n cap k i w hk hn hat hcl
      · rw [if_neg hcl]
        have n0 : clsI i.c ≠ 0 := fun e => hcl (Or.inl e)
        have n5 : clsI i.c ≠ 5 := fun e => hcl (Or.inr e)
        by_cases h4 : clsI i.c = 4
        · by_cases h5 : i.c = 5
          · have e : leads i k = (k + 1 + i.k.toNat, k + 1 + i.k.toNat) := by unfold leads; rw [if_pos h4, if_pos h5]
            rw [e, two_same]
            by_cases hx : k + 1 + i.k.toNat < n
            · rw [if_pos hx]; exact rn_ja1 b o n cap k i hok 4 w hk hn hat h4 rfl h5 hx
            · rw [if_neg hx]; exact rn_ja0 b o n cap k i hok 4 w hk hn hat h4 rfl h5 hx
          · have e : leads i k = (k + 1 + i.jt.toNat, k + 1 + i.jf.toNat) := by unfold leads; rw [if_pos h4, if_neg h5]
            rw [e]
            rcases Nat.lt_trichotomy i.jt.toNat i.jf.toNat with h | h | h
            · simp only
              rw [two_lt (by omega)]
              by_cases h1 : k + 1 + i.jf.toNat < n
              · rw [if_pos (by omega), if_pos h1]; exact rn_jmp_lt2 b o n cap k i hok 4 w hk hn hat h4 rfl h5 ⟨h, by omega, h1⟩
              · rw [if_neg h1]
                by_cases h2 : k + 1 + i.jt.toNat < n
                · rw [if_pos h2]; exact rn_jmp_lt1 b o n cap k i hok 4 w hk hn hat h4 rfl h5 ⟨h, h2, h1⟩
                · rw [if_neg h2]; exact rn_jmp_lt0 b o n cap k i hok 4 w hk hn hat h4 rfl h5 ⟨h, h2, h1⟩
            · simp only
              rw [← h, two_same]
              by_cases h1 : k + 1 + i.jt.toNat < n
              · rw [if_pos h1]; exact rn_jmp_eq1 b o n cap k i hok 4 w hk hn hat h4 rfl h5 ⟨h, h1, trivial⟩
              · rw [if_neg h1]; exact rn_jmp_eq0 b o n cap k i hok 4 w hk hn hat h4 rfl h5 ⟨h, h1, trivial⟩
            · simp only
              rw [two_comm, two_lt (by omega)]
              by_cases h1 : k + 1 + i.jt.toNat < n
              · rw [if_pos (by omega), if_pos h1]; exact rn_jmp_gt2 b o n cap k i hok 4 w hk hn hat h4 rfl h5 ⟨h, by omega, h1⟩
              · rw [if_neg h1]
                by_cases h2 : k + 1 + i.jf.toNat < n
                · rw [if_pos h2]; exact rn_jmp_gt1 b o n cap k i hok 4 w hk hn hat h4 rfl h5 ⟨h, h2, h1⟩
                · rw [if_neg h2]; exact rn_jmp_gt0 b o n cap k i hok 4 w hk hn hat h4 rfl h5 ⟨h, h2, h1⟩
        · have e : leads i k = (k + 1, k + 1) := by unfold leads; rw [if_neg h4]
          rw [e, two_same]
          by_cases hx : k + 1 < n
          · rw [if_pos hx]; exact rn_plain1 b o n cap k i hok _ w hk hn hat rfl n0 h4 n5 hx
          · rw [if_neg hx]; exact rn_plain0 b o n cap k i hok _ w hk hn hat rfl n0 h4 n5 hx
    · have e : nextL p k = [] := by unfold nextL; rw [List.getElem?_eq_none (by omega)]
      rw [e]
      exact rn_high a0 n cap k w (by omega) (by omega)
  · rw [if_neg h0]
    exact rn_low a0 n cap at_ w (by omega)
end Go.Proofs.YthhfpehngdohhaaDoor
