/- What the small calls of the landed asm return: a builder's; which fields a code uses; whether an instruction is clean; to where it leads; a number's digits, a label. Conditions: the table of codes, the table of powers of ten lie in their variables. -/
import Derived.Test.YtlneiiljdghmjaaDoorHd
import Derived.Lib.FrozenHead2
import Derived.Lib.OthersKept
import Derived.Laws.Externs
import Derived.Laws.Concat
import Derived.Shelf.Strings.BuilderK
namespace Go.Proofs.YtlneiiljdghmjaaDoor
open Go.RowKit Go.Shelf
set_option linter.unusedVariables false
set_option linter.unusedSimpArgs false
attribute [local go_sem ↓] Go.wp_at_zero Go.wp_at_succ

/-- A builder of one's own that holds these bytes. -/
abbrev Bld (B b : Nat) (l : List UInt8) (w : World) : Prop := Lib.IsBuilderF 47 5 B b (Lib.byteCells l) w
abbrev OthK (b : Nat) (w w' : World) : Prop := Lib.OthersKept 5 (some b) w w'
theorem bld_info : (Tryd.prog.info? 47).map (·.size) = some 2 := by kernel_rfl
theorem byte_info : (Tryd.prog.info? 5).map (fun i => (i.zero, i.size, i.bytes)) = some (some (.int .u8 0), 1, 1) := by kernel_rfl
set_option maxHeartbeats 1000000 in
set_option maxRecDepth 100000 in
theorem check_used (b : Nat) (w : World) (h0 : w.cell? ⟨b, 0, none⟩ = some (.pointer (some ⟨b, 0, none⟩))) :
    Calls Tryd.prog 40 #[.pointer (some ⟨b, 0, none⟩)] w fun e w' => e = .returned (.tuple #[]) ∧ w' = w := by
  obtain ⟨j, hj, _⟩ := Option.map_eq_some_iff.1 bld_info
  go_enter Tryd.func40, Tryd.ntmps40
  go_wp2
  rw [Lib.run_neq_ptr_same w _ Tryd.underlying45 hj]
  go_wp2
  go_end0
  exact ⟨rfl, rfl⟩
set_option maxHeartbeats 1000000 in
set_option maxRecDepth 100000 in
theorem check_fresh (b : Nat) (w : World) (h0 : w.cell? ⟨b, 0, none⟩ = some (.pointer none)) (hsh : w.shape? b = some (47, 2)) (hfz : w.frozen? ⟨b, 0, none⟩ = false) :
    Calls Tryd.prog 40 #[.pointer (some ⟨b, 0, none⟩)] w fun e w' => e = .returned (.tuple #[]) ∧ w' = w.setCell ⟨b, 0, none⟩ (.pointer (some ⟨b, 0, none⟩)) := by
  obtain ⟨j, hj, hjs⟩ := Option.map_eq_some_iff.1 bld_info
  go_enter Tryd.func40, Tryd.ntmps40
  go_wp2
  rw [Lib.run_to_unsafe w ⟨b, 0, none⟩ Tryd.underlying45 Tryd.underlying89 hj (by rw [hjs]; decide) hsh (Nat.zero_lt_succ 1)]
  simp only [Result.andThen]
  rw [Oper.upon_value]
  go_wp2
  rw [run_callFunc_extern Tryd.func52 (by kernel_rfl) (by kernel_rfl) (by kernel_rfl) (e := Extern.AbiNoEscape.same) (by kernel_rfl)]
  rw [Lib.run_noEscape]
  simp only [Result.andThen]
  rw [Oper.upon_value]
  go_wp2
  rw [Lib.run_from_unsafe w ⟨b, 0, none⟩ Tryd.underlying89 Tryd.underlying45 hj hsh (by kernel_rfl)]
  simp only [Result.andThen]
  rw [Oper.upon_value]
  go_wp2
  go_end0
  exact ⟨rfl, rfl⟩
theorem check_call (B b : Nat) (l : List Value) (w : World) (h : Lib.IsBuilderF 47 5 B b l w) :
    Calls Tryd.prog 40 #[.pointer (some ⟨b, 0, none⟩)] w fun e w' => e = .returned (.tuple #[]) ∧ (Lib.BuilderAtF 47 5 B b (.pointer (some ⟨b, 0, none⟩)) l w' ∧ Below B w w' ∧ OthK b w w') := by
  rcases h with h | h
  · refine (check_fresh b w h.cell0 h.shape h.frozen0).mono ?_
    rintro e w' ⟨rfl, rfl⟩
    exact ⟨rfl, h.used _, (Below.refl B w).setCell (p := ⟨b, 0, none⟩) h.1 _, (Lib.OthersKept.refl _ _ w).setCell ⟨b, 0, none⟩ rfl _⟩
  · refine (check_used b w h.cell0).mono ?_
    rintro e w' ⟨rfl, rfl⟩
    exact ⟨rfl, h, Below.refl B _, Lib.OthersKept.refl _ _ _⟩
set_option maxHeartbeats 2000000 in
set_option maxRecDepth 100000 in
theorem write_in (B b : Nat) (l : List Value) (s : ByteArray) (w : World) (h : Lib.IsBuilderF 47 5 B b l w) (hlen : l.length + s.size ≤ 140737488355328) (hBw : B ≤ w.heap.size) :
    Calls Tryd.prog 22 #[.pointer (some ⟨b, 0, none⟩), .string s] w fun e w' => e = .returned (.tuple #[.int .i64 s.size, .nilIface]) ∧ (Lib.BuilderAtF 47 5 B b (.pointer (some ⟨b, 0, none⟩)) (l ++ Lib.strCells s) w' ∧ Below B w w' ∧ OthK b w w') := by
  obtain ⟨i0, hi, hz0, hz1, hz2⟩ := info_parts byte_info
  go_enter Tryd.func22, Tryd.ntmps22
  go_wp2_with (go_at_call 40; refine (check_call B b l _ h).mono ?_)
  rintro e w1 ⟨rfl, h1, hb1, hk1⟩
  obtain ⟨hB, v, hbk, hown, hne⟩ := h1
  have c0 : w1.cell? ⟨b, 0, none⟩ = some (.pointer (some ⟨b, 0, none⟩)) := by rw [Lib.cell_of_heap hbk]; rfl
  have c1 : w1.cell? ⟨b, 1, none⟩ = some v := by rw [Lib.cell_of_heap hbk]; rfl
  go_wp2_with (at_builtin; refine Lib.wpList_append_own_stringF _ rfl _ _ 36 9 rfl B 5 i0 Tryd.underlying36 Tryd.underlying9 hi hz0 hz1 hz2 _ _ _ rfl hown s rfl ?c3 ?c4 ?c5 ?_)
  case c3 => unfold maxLen; omega
  case c4 => omega
  case c5 => have := hb1.size; omega
  intro v' w2 hown' hgrow _
  have hlt : b < w1.heap.size := by
    rcases Nat.lt_or_ge b w1.heap.size with h' | h'
    · exact h'
    · simp [Array.getElem?_eq_none h'] at hbk
  have hb2 : w2.heap[b]? = some (.cells #[.pointer (some ⟨b, 0, none⟩), v] 47 (0, 0)) := by
    rw [hgrow.block b hlt (fun e => hne e.symm)]
    exact hbk
  have d0 : w2.cell? ⟨b, 0, none⟩ = some (.pointer (some ⟨b, 0, none⟩)) := by rw [Lib.cell_of_heap hb2]; rfl
  have d1 : w2.cell? ⟨b, 1, none⟩ = some v := by rw [Lib.cell_of_heap hb2]; rfl
  have f1 : w2.frozen? ⟨b, 1, none⟩ = false := Lib.frozen_of_heap hb2 1
  obtain ⟨ao, n', cap, rfl⟩ : ∃ ao n' cap, v' = .slice ao n' cap := by
    rcases hown'.2 with ⟨hv, _⟩ | ⟨g, cap, cur, fz, hv, _⟩
    · exact ⟨_, _, _, hv⟩
    · exact ⟨_, _, _, hv⟩
  go_wp2
  go_ret2
  refine ⟨rfl, ?_, ?_, (hk1.grown hgrow (Lib.ownsRowF_kind hown)).setCell ⟨b, 1, none⟩ rfl _⟩
  · exact Lib.BuilderAtF.put (T := 47) (e := 5) hB hb2 (bs' := l ++ Lib.strCells s) (by simpa [Lib.strCells_length] using hown') (by decide)
  · exact (hb1.grown hgrow (by have := hb1.size; omega) (fun k hk => (hown.lt k hk).1)).setCell (p := ⟨b, 1, none⟩) hB _
theorem strCells_bs (l : List UInt8) : Lib.strCells (bs l) = Lib.byteCells l := rfl
theorem byteCells_app (a b : List UInt8) : Lib.byteCells (a ++ b) = Lib.byteCells a ++ Lib.byteCells b := by
  unfold Lib.byteCells; rw [List.map_append]
theorem write_call (B b : Nat) (l t : List UInt8) (w : World) (h : Bld B b l w) (hlen : l.length + t.length ≤ 140737488355328) (hBw : B ≤ w.heap.size) :
    Calls Tryd.prog 22 #[.pointer (some ⟨b, 0, none⟩), .string (bs t)] w fun e w' => (∃ v, e = .returned v) ∧ Bld B b (l ++ t) w' ∧ Below B w w' ∧ OthK b w w' :=
  (write_in B b (Lib.byteCells l) (bs t) w h (by rw [Lib.byteCells_length, bs_size]; exact hlen) hBw).mono fun e w' ⟨h1, h2, h3, h4⟩ => ⟨⟨_, h1⟩, Or.inr (by rw [byteCells_app, ← strCells_bs t]; exact h2), h3, h4⟩
theorem string_call (B b : Nat) (l : List UInt8) (w : World) (h : Bld B b l w) (hBw : B ≤ w.heap.size) :
    Calls Tryd.prog 23 #[.pointer (some ⟨b, 0, none⟩)] w fun e w' => e = .returned (.string (bs l)) ∧ Below B w w' :=
  (Tryd.Builder_String_any_k B b l w h hBw).mono fun e w' ⟨h1, _, h2, _⟩ => ⟨h1, h2⟩
theorem bld_fresh (w : World) : Bld w.heap.size w.heap.size [] (w.alloc (.cells #[.pointer none, .slice none 0 0] 47)) := Lib.IsBuilderF.of (Lib.fresh_isBuilder _ _ w)
theorem bld_alloc {B b : Nat} {l : List UInt8} {w : World} (h : Bld B b l w) (o : Obj) : Bld B b l (w.alloc o) := h.elim (fun h => Or.inl (h.alloc o)) (fun h => Or.inr (h.alloc o))
/-- A struct's box keeps its cells. -/
theorem kp4 {v w' : World} {p0 p1 p2 p3 : Addr} {u0 u1 u2 u3 : Value} (hb : Below v.heap.size v w') (h : v.cell? p0 = some u0 ∧ v.cell? p1 = some u1 ∧ v.cell? p2 = some u2 ∧ v.cell? p3 = some u3) : w'.cell? p0 = some u0 ∧ w'.cell? p1 = some u1 ∧ w'.cell? p2 = some u2 ∧ w'.cell? p3 = some u3 :=
  ⟨(hb.cell (World.block_lt_of_cell? v p0 h.1)).trans h.1, (hb.cell (World.block_lt_of_cell? v p1 h.2.1)).trans h.2.1, (hb.cell (World.block_lt_of_cell? v p2 h.2.2.1)).trans h.2.2.1, (hb.cell (World.block_lt_of_cell? v p3 h.2.2.2)).trans h.2.2.2⟩
theorem bx4 (w : World) (c0 c1 c2 c3 : Value) (t : TypeId) :
    (w.alloc (.cells #[c0, c1, c2, c3] t)).cell? ⟨w.heap.size, 0, none⟩ = some c0 ∧ (w.alloc (.cells #[c0, c1, c2, c3] t)).cell? ⟨w.heap.size, 1, none⟩ = some c1 ∧ (w.alloc (.cells #[c0, c1, c2, c3] t)).cell? ⟨w.heap.size, 2, none⟩ = some c2 ∧ (w.alloc (.cells #[c0, c1, c2, c3] t)).cell? ⟨w.heap.size, 3, none⟩ = some c3 := by
  refine ⟨?_, ?_, ?_, ?_⟩
  iterate 4
    · show (w.alloc (.cells #[c0, c1, c2, c3] t)).cell? _ = _
      rw [cell_of_row _ _ _ _ _ (0, 0) (heap_alloc_new w _)]; rfl
theorem th2 {A B C : World} (h : Below A.heap.size A B) (k : Below B.heap.size B C) : Below A.heap.size A C := h.trans (k.mono h.size)
theorem ball (w : World) (o : Obj) : Below w.heap.size w (w.alloc o) := (Below.refl _ _).alloc (Nat.le_refl _) o
theorem uses_128 (w : World) : Calls Tryd.prog 42 #[.int .u16 128] w fun e w' => e = .returned (.bool false) ∧ Below w.heap.size w w' := by
  go_enter Tryd.func42, Tryd.ntmps42
  go_wp2
  go_ret
  exact ⟨rfl, Below.refl _ _⟩
theorem uses_129 (w : World) : Calls Tryd.prog 42 #[.int .u16 129] w fun e w' => e = .returned (.bool false) ∧ Below w.heap.size w w' := by
  go_enter Tryd.func42, Tryd.ntmps42
  go_wp2
  go_ret
  exact ⟨rfl, Below.refl _ _⟩
theorem uses_132 (w : World) : Calls Tryd.prog 42 #[.int .u16 132] w fun e w' => e = .returned (.bool false) ∧ Below w.heap.size w w' := by
  go_enter Tryd.func42, Tryd.ntmps42
  go_wp2
  go_ret
  exact ⟨rfl, Below.refl _ _⟩
theorem uses_22 (w : World) : Calls Tryd.prog 42 #[.int .u16 22] w fun e w' => e = .returned (.bool false) ∧ Below w.heap.size w w' := by
  go_enter Tryd.func42, Tryd.ntmps42
  go_wp2
  go_ret
  exact ⟨rfl, Below.refl _ _⟩
theorem uses_7 (w : World) : Calls Tryd.prog 42 #[.int .u16 7] w fun e w' => e = .returned (.bool false) ∧ Below w.heap.size w w' := by
  go_enter Tryd.func42, Tryd.ntmps42
  go_wp2
  go_ret
  exact ⟨rfl, Below.refl _ _⟩
theorem uses_135 (w : World) : Calls Tryd.prog 42 #[.int .u16 135] w fun e w' => e = .returned (.bool false) ∧ Below w.heap.size w w' := by
  go_enter Tryd.func42, Tryd.ntmps42
  go_wp2
  go_ret
  exact ⟨rfl, Below.refl _ _⟩
theorem uses_no (c : Int) (h128 : c ≠ 128) (h129 : c ≠ 129) (h132 : c ≠ 132) (h22 : c ≠ 22) (h7 : c ≠ 7) (h135 : c ≠ 135) (c0 : 0 ≤ c) (c1 : c < 65536) (w : World) (hG : GW w) : Calls Tryd.prog 42 #[.int .u16 c] w fun e w' => e = .returned (.bool (!withXB c)) ∧ Below w.heap.size w w' := by
  have e128 : (c == 128) = false := beq_eq_false_iff_ne.2 h128
  have e129 : (c == 129) = false := beq_eq_false_iff_ne.2 h129
  have e132 : (c == 132) = false := beq_eq_false_iff_ne.2 h132
  have e22 : (c == 22) = false := beq_eq_false_iff_ne.2 h22
  have e7 : (c == 7) = false := beq_eq_false_iff_ne.2 h7
  have e135 : (c == 135) = false := beq_eq_false_iff_ne.2 h135
  have HX := Lib.hid (withXC c w hG c0 c1)
  clear h128 h129 h132 h22 h7 h135 c0 c1 hG
  go_enter Tryd.func42, Tryd.ntmps42
  go_wp2_with (go_at_call 53; ((with_reducible refine (HX.out).mono ?_); rintro e w1 ⟨rfl, b1⟩))
  go_ret
  exact ⟨rfl, b1⟩
theorem uses_call (c : Int) (c0 : 0 ≤ c) (c1 : c < 65536) (w : World) (hG : GW w) : Calls Tryd.prog 42 #[.int .u16 c] w fun e w' => e = .returned (.bool (usesKB c)) ∧ Below w.heap.size w w' := by
  unfold usesKB
  by_cases h128 : c = 128
  · subst h128; exact uses_128 w
  by_cases h129 : c = 129
  · subst h129; exact uses_129 w
  by_cases h132 : c = 132
  · subst h132; exact uses_132 w
  by_cases h22 : c = 22
  · subst h22; exact uses_22 w
  by_cases h7 : c = 7
  · subst h7; exact uses_7 w
  by_cases h135 : c = 135
  · subst h135; exact uses_135 w
  rw [show (c == 128 || c == 129 || c == 132 || c == 22 || c == 7 || c == 135) = false from by rw [beq_eq_false_iff_ne.2 h128, beq_eq_false_iff_ne.2 h129, beq_eq_false_iff_ne.2 h132, beq_eq_false_iff_ne.2 h22, beq_eq_false_iff_ne.2 h7, beq_eq_false_iff_ne.2 h135]; rfl, Bool.not_false, Bool.true_and]
  exact uses_no c h128 h129 h132 h22 h7 h135 c0 c1 w hG
theorem forks_call (c : Int) (c0 : 0 ≤ c) (c1 : c < 65536) (w : World) (hG : GW w) : Calls Tryd.prog 43 #[.int .u16 c] w fun e w' => e = .returned (.bool (forksB c)) ∧ Below w.heap.size w w' := by
  have HO := Lib.hid (ofC c w hG c0 c1)
  rw [show (ofL allL c).cls = clsA c from rfl] at HO
  unfold forksB
  obtain ⟨y, hy⟩ : ∃ y, y = clsA c := ⟨_, rfl⟩
  rw [← hy] at HO ⊢
  clear hy c0 c1 hG
  by_cases h : y = 4
  · subst h
    go_enter Tryd.func43, Tryd.ntmps43
    go_wp2_with (go_at_call 20; ((with_reducible refine (HO.out).mono ?_); rintro e w1 ⟨rfl, b1⟩))
    go_ret
    exact ⟨rfl, b1⟩
  · have e4 : (y == 4) = false := beq_eq_false_iff_ne.2 h
    rw [e4]
    clear h
    go_enter Tryd.func43, Tryd.ntmps43
    go_wp2_with (go_at_call 20; ((with_reducible refine (HO.out).mono ?_); rintro e w1 ⟨rfl, b1⟩))
    go_ret
    exact ⟨rfl, b1⟩
set_option maxRecDepth 100000 in
set_option maxHeartbeats 4000000 in
theorem clean_call (i : Ins) (hi : i.Ok) (w : World) (hG : GW w) : Calls Tryd.prog 24 #[.agg #[.int .u16 i.c, .int .u8 i.jt, .int .u8 i.jf, .int .u32 i.k]] w fun e w' => e = .returned (.bool (cleanB i)) ∧ Below w.heap.size w w' := by
  obtain ⟨c, jt, jf, k⟩ := i
  obtain ⟨c0, c1, t0, t1, f0, f1, k0, k1⟩ := hi
  simp only at c0 c1
  have HK := Lib.hid (fun W (g : GW W) => knownC c W g c0 c1)
  have HU := Lib.hid (fun W (g : GW W) => uses_call c c0 c1 W g)
  have HF := Lib.hid (fun W (g : GW W) => forks_call c c0 c1 W g)
  have HG := Lib.hid (hG.alloc (.cells #[.int .u16 c, .int .u8 jt, .int .u8 jf, .int .u32 k] 33))
  have HB := Lib.hid (bx4 w (.int .u16 c) (.int .u8 jt) (.int .u8 jf) (.int .u32 k) 33)
  have HA := Lib.hid (ball w (.cells #[.int .u16 c, .int .u8 jt, .int .u8 jf, .int .u32 k] 33))
  unfold cleanB
  simp only
  obtain ⟨a, ha⟩ : ∃ a, a = knownB c := ⟨_, rfl⟩
  obtain ⟨b, hb⟩ : ∃ a, a = usesKB c := ⟨_, rfl⟩
  obtain ⟨d, hd⟩ : ∃ a, a = forksB c := ⟨_, rfl⟩
  rw [← ha, ← hb, ← hd]
  rw [← ha] at HK
  rw [← hb] at HU
  rw [← hd] at HF
  clear ha hb hd hG c0 c1 t0 t1 f0 f1 k0 k1
  have AR : True := trivial
  by_cases hj : jt = 0
  · have ej : (jt == 0) = true := beq_iff_eq.2 hj
    rw [ej]
    have HJ := Lib.hid hj
    clear hj
    cases a <;> cases b <;> cases d
    all_goals
      cases hk : (k == 0)
    all_goals
      go_enter Tryd.func24, Tryd.ntmps24
      go_wp2_with (first
        | (go_at_call 41; ((with_reducible refine (HK.out _ HG.out).mono ?_); rintro e w1 ⟨rfl, b1⟩); have S1 := Lib.hid (kp4 b1 HB.out); obtain ⟨s0, s1, s2, s3⟩ := S1.out)
        | (go_at_call 42; ((with_reducible refine (HU.out _ (HG.out.on b1)).mono ?_); rintro e w2 ⟨rfl, b2⟩); have S2 := Lib.hid (kp4 b2 S1.out); clear s0 s1 s2 s3; obtain ⟨s0, s1, s2, s3⟩ := S2.out)
        | (go_at_call 43; ((with_reducible refine (HF.out _ ((HG.out.on b1).on b2)).mono ?_); rintro e w3 ⟨rfl, b3⟩); clear s0 s1 s2 s3; obtain ⟨s0, s1, s2, s3⟩ := kp4 b3 S2.out))
      go_ret
      first
      | exact ⟨rfl, th2 HA.out (th2 (th2 b1 b2) b3)⟩
      | exact ⟨rfl, th2 HA.out (th2 b1 b2)⟩
      | exact ⟨rfl, th2 HA.out b1⟩
  · have ej : (jt == 0) = false := beq_eq_false_iff_ne.2 hj
    rw [ej]
    clear hj
    cases a <;> cases b <;> cases d
    all_goals
      cases hk : (k == 0)
    all_goals
      go_enter Tryd.func24, Tryd.ntmps24
      go_wp2_with (first
        | (go_at_call 41; ((with_reducible refine (HK.out _ HG.out).mono ?_); rintro e w1 ⟨rfl, b1⟩); have S1 := Lib.hid (kp4 b1 HB.out); obtain ⟨s0, s1, s2, s3⟩ := S1.out)
        | (go_at_call 42; ((with_reducible refine (HU.out _ (HG.out.on b1)).mono ?_); rintro e w2 ⟨rfl, b2⟩); have S2 := Lib.hid (kp4 b2 S1.out); clear s0 s1 s2 s3; obtain ⟨s0, s1, s2, s3⟩ := S2.out)
        | (go_at_call 43; ((with_reducible refine (HF.out _ ((HG.out.on b1).on b2)).mono ?_); rintro e w3 ⟨rfl, b3⟩); clear s0 s1 s2 s3; obtain ⟨s0, s1, s2, s3⟩ := kp4 b3 S2.out))
      go_ret
      first
      | exact ⟨rfl, th2 HA.out (th2 (th2 b1 b2) b3)⟩
      | exact ⟨rfl, th2 HA.out (th2 b1 b2)⟩
      | exact ⟨rfl, th2 HA.out b1⟩
end Go.Proofs.YtlneiiljdghmjaaDoor
