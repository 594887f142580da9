/- What the call Parse of the package insn returns of whole eights of bytes that are not too many, as the chapter says. Condition: a slice is as long as its capacity allows. -/
import Derived.Test.YtekmbhjdacaphaaDoorEd
namespace Go.Proofs.YtekmbhjdacaphaaDoor
open Go.RowKit Go.Shelf
set_option linter.unusedVariables false
attribute [local go_sem] Oper.semAt_some

theorem news_lit' (w : World) (cs : Array Value) (e : TypeId) (l : List Value) {s : Nat} (hs : s = w.heap.size) (h : cs.toList = l) : ∀ j u, l[j]? = some u → (w.alloc (.cells cs e)).cell? ((⟨s, 0, none⟩ : Addr).add j) = some u := by
  subst hs; exact news_lit w cs e l h
/-- Between two rounds: the variable's box, the row of the instructions; the iterator's two boxes. -/
def ParseI (xs : List Int) (n₀ B Bs Bn : Nat) (sv : Value) (k : Nat) (W : World) : Prop :=
  ∃ v, Boxed W B 33 v ∧ W.ownsRow n₀ 47 4 v k (progC (progI k xs)) ∧ Boxed W Bs 34 sv ∧ Boxed W Bn 3 (.int .i64 8)
theorem parseI_own (xs : List Int) (n₀ B Bs Bn B' : Nat) (sv : Value) : OwnFrom B' (ParseI xs n₀ B Bs Bn sv) := by
  rintro k W W' row ⟨v, hb, ho, hs, hn⟩ hg hr
  exact ⟨v, hb.kept hg fun e => no_cells hr e.symm (show W.heap[B]? = _ from hb), own_kept ho hg fun r cs e => no_cells hr e, hs.kept hg fun e => no_cells hr e.symm (show W.heap[Bs]? = _ from hs), hn.kept hg fun e => no_cells hr e.symm (show W.heap[Bn]? = _ from hn)⟩
theorem keep2_of {n₀ a b : Nat} {V V' : World} {t u : TypeId} {x y : Value} (h : Below n₀ V V') (hs : V.heap.size ≤ V'.heap.size) (h1 : Boxed V a t x) (h1' : Boxed V' a t x) (h2 : Boxed V b u y) (h2' : Boxed V' b u y) : Keep2 n₀ a b V V' :=
  ⟨h, hs, (show V'.heap[a]? = _ from h1').trans (show V.heap[a]? = _ from h1).symm, (show V'.heap[b]? = _ from h2').trans (show V.heap[b]? = _ from h2).symm⟩
set_option maxRecDepth 100000 in
set_option maxHeartbeats 4000000 in
theorem parseC : ParseC := by
  intro p n c N xs w hx hB hN hNm hnc hc hp hR
  obtain ⟨i0, hi, hz0, hz1, hz2⟩ := info_parts insn_info
  have HI := Lib.hid hi
  have H0 := Lib.hid hz0
  have H1 := Lib.hid hz1
  have H2 := Lib.hid hz2
  have HX := Lib.hid hx
  have HBy := Lib.hid hB
  have HN := Lib.hid hN
  have HR := Lib.hid hR
  have HP := Lib.hid (show 0 < n → ∃ b o, p = some ⟨b, o, none⟩ from fun h => by obtain ⟨b, o, e, _⟩ := hR (by omega); exact ⟨b, o, e⟩)
  have hm0 : i0.bytes * N ≤ 281474976710656 := by rw [hz2]; omega
  have hm1 : N ≤ maxLen := by unfold maxLen; omega
  have h1 : (((n : Int) % 8) != 0) = false := by simp; omega
  have h2 : ¬ (4096 : Int) < (n : Int) / 8 := by omega
  have h3 : (n : Int) / 8 = (N : Int) := by omega
  have hnm : n ≤ 32768 := by omega
  clear hi hz0 hz1 hz2 hx hB hR hN hp
  refine (callsIn_wide (n := 4)).1 ?_
  refine callsIn_of_wp_marks Tryd.func18 rfl trivial ?_ rfl
  simp only [Tryd.ntmps18, List.size_toArray, List.length_cons, List.length_nil, Nat.reduceAdd, Nat.reduceSub, Array.replicate_succ, Array.replicate_zero, List.push_toArray, List.append_toArray, List.nil_append, List.cons_append]
  gi_wp2_with (first
    | (gi_at_make
       refine wpListIn_make_own _ rfl _ _ 33 rfl w.heap.size 47 i0 _ 4 Tryd.underlying33 HI.out H0.out H1.out .i64 .i64 N N rfl rfl rfl hm0 hm1 (Nat.le_refl _) ?_
       intro w1 o1 g1)
    | (refine ⟨trivial, ?_⟩
       gi_at_call 27
       refine (callsIn_wide.2 (chunk_call _ _ _ _)).mono ?_
       rintro e w2 ⟨rfl, rfl⟩))
  have b1 : Below w.heap.size w w1 := (Below.refl _ _).grown g1 (Nat.le_refl _) (by intro k hk; cases hk)
  have hz1 : w.heap.size ≤ w1.heap.size := g1.size
  obtain ⟨W0, hW0⟩ : ∃ W0, W0 = ((w1.alloc (.cells #[.slice (some ⟨w.heap.size, 0, none⟩) 0 N] 33)).alloc (.cells #[.slice p n c] 34)).alloc (.cells #[.int .i64 8] 3) := ⟨_, rfl⟩
  have B1 : Below w1.heap.size w1 W0 := by rw [hW0]; exact (((Below.refl _ _).alloc (Nat.le_refl _) _).alloc (by simp) _).alloc (by simp; omega) _
  have B0 : Below w.heap.size w W0 := b1.trans (B1.mono hz1)
  have z0 : W0.heap.size = w1.heap.size + 3 := by rw [hW0]; simp
  have bx : Boxed W0 w1.heap.size 33 (.slice (some ⟨w.heap.size, 0, none⟩) 0 N) := by rw [hW0]; exact ((Boxed.new w1 _ _).alloc _).alloc _
  have bs : Boxed W0 (w1.heap.size + 1) 34 (.slice p n c) := by
    have h := Boxed.new (w1.alloc (.cells #[.slice (some ⟨w.heap.size, 0, none⟩) 0 N] 33)) 34 (.slice p n c)
    rw [World.size_alloc] at h
    rw [hW0]; exact h.alloc _
  have bn : Boxed W0 (w1.heap.size + 1 + 1) 3 (.int .i64 8) := by
    have h := Boxed.new ((w1.alloc (.cells #[.slice (some ⟨w.heap.size, 0, none⟩) 0 N] 33)).alloc (.cells #[.slice p n c] 34)) 3 (.int .i64 8)
    rw [World.size_alloc, World.size_alloc] at h
    rw [hW0]; exact h
  have o0 : W0.ownsRow w.heap.size 47 4 (.slice (some ⟨w.heap.size, 0, none⟩) 0 N) 0 [] := by rw [hW0]; exact ((o1.alloc _).alloc _).alloc _
  have hn0 : w.heap.size ≤ W0.heap.size := by omega
  rw [← hW0]
  refine wp_counts (Kp := Keep2 w.heap.size (w1.heap.size + 1) (w1.heap.size + 1 + 1)) (N := N) (w0 := W0) (Has := ChunkAt p) (gf := 35) (lb := #[.pointer (some ⟨w1.heap.size + 1, 0, none⟩), .pointer (some ⟨w1.heap.size + 1 + 1, 0, none⟩)]) rfl (enters_of Tryd.func35 (by kernel_rfl) rfl)
    (chunk_counts (w1.heap.size + 1) (w1.heap.size + 1 + 1) w.heap.size n c N p W0 HN.out hNm hnc hc HP.out (by omega) (by omega) bs.cell bn.cell) (Below.refl _ _) Keep2.trans (keep2_b hn0 (by omega) (by omega)) (chunkAt_own _ _)
    (fun k W => ParseI xs w.heap.size w1.heap.size (w1.heap.size + 1) (w1.heap.size + 1 + 1) (.slice p n c) k W ∧ Below w.heap.size w W) (OwnFrom.and (parseI_own _ _ _ _ _ _ _) (ownFrom_below (Nat.le_refl _) hn0))
    ⟨⟨_, bx, o0, bs, bn⟩, B0⟩
    (fun x => { tmps := #[.slice p n c, undef, .slice none 0 0, .int .i64 0, .pointer (some ⟨w1.heap.size, 0, none⟩), x, undef, undef, .slice p n c, .int .i64 n, .int .i64 ((n : Int) % 8), .bool false, .slice p n c, .int .i64 n, .int .i64 N, .bool (decide ((4096 : Int) < N)), .slice p n c, .int .i64 n, .int .i64 N, .slice (some ⟨w.heap.size, 0, none⟩) 0 N, .slice p n c, .func (.func 35) #[] #[.pointer (some ⟨w1.heap.size + 1, 0, none⟩), .pointer (some ⟨w1.heap.size + 1 + 1, 0, none⟩)], x, undef, undef, undef, undef, undef, undef, undef, undef, undef, undef], defers := [] }) ?assign ?body ?done
  case assign =>
    intro lp x V K hK
    gi_wp2
    exact hK
  case body =>
    rintro lp k x V hk ⟨⟨v, hv, hrow, hs, hm⟩, hB⟩ ⟨b, o, rfl, e⟩
    obtain rfl : x = .slice (some ⟨b, o + 8 * k, none⟩) 8 8 := e
    have hc8 := Lib.hid (show ((xs.drop (8 * k)).take 8).length = 8 by rw [List.length_take, List.length_drop, HX.out]; have := HN.out; omega)
    have hb8 := Lib.hid ((HBy.out.drop (8 * k)).take 8)
    have hrd := Lib.hid (((HR.out.below hB (Nat.le_refl _)).cut (8 * k) 8).more hB.size)
    have hst := Lib.hid (show progC (progI (k + 1) xs) = progC (progI k xs) ++ insC (decL ((xs.drop (8 * k)).take 8)) by rw [progI_snoc, progC_app]; simp [progC])
    have HD := Lib.hid (decodeC (some ⟨b, o + 8 * k, none⟩) 8 ((xs.drop (8 * k)).take 8) V hc8.out hb8.out (Nat.le_refl _) (by unfold maxLen; omega) hrd.out)
    obtain ⟨i, hi⟩ : ∃ i, i = decL ((xs.drop (8 * k)).take 8) := ⟨_, rfl⟩
    rw [← hi] at HD hst
    obtain ⟨ci, jt, jf, ki⟩ := i
    clear hi hc8 hb8 hrd bx bs bn o0 o1 g1 B0 B1 b1 hW0 HR HP HX HBy HN h1 h2 h3
    gi_wp2_with (first
      | (refine ⟨trivial, ?_⟩
         gi_at_call 28
         refine (CallsIn.inRound lp (callsIn_wide.2 HD.out)).mono ?_
         rintro e v1 ⟨rfl, b1⟩
         have g1 := grown_of_below b1
         have hv1 := (hv.kept g1 (by simp)).alloc (.cells #[.int .u16 ci, .int .u8 jt, .int .u8 jf, .int .u32 ki] 47)
         have hr1 := (own_on hrow b1).alloc (.cells #[.int .u16 ci, .int .u8 jt, .int .u8 jf, .int .u32 ki] 47)
         have hc1 := hv1.cell)
      | (gi_at_builtin
         refine wpListIn_append_own _ rfl _ _ 33 rfl w.heap.size 47 i0 _ 4 8 Tryd.underlying33 HI.out H0.out H1.out H2.out rfl (by decide) v k (progC (progI k xs)) rfl (hr1.alloc _) ⟨v1.heap.size + 1, 0, none⟩ 1 1 (insC ⟨ci, jt, jf, ki⟩) rfl rfl (news_lit' _ _ _ _ (by simp) rfl) (insC_one _) (by unfold maxLen; omega) (by omega) (by have := hB.size; have := b1.size; simp; omega) ?_
         intro v' v2 hown' hgrow _
         obtain ⟨g', cap', rfl⟩ := ownsRow_succ hown'
         obtain ⟨hv2, hv3, hr3, hk3, hb3⟩ := hv1.appended (by decide) hr1 (by have := hB.size; have := b1.size; simp; omega) hz1 hown' hgrow
         have hc2 := hv2.cell
         have hf2 := hv2.frozen))
    have s2 := (((hs.kept g1 (by simp)).alloc (.cells #[.int .u16 ci, .int .u8 jt, .int .u8 jf, .int .u32 ki] 47)).alloc (.cells #[.int .u16 ci, .int .u8 jt, .int .u8 jf, .int .u32 ki] 47)).kept hgrow (Boxed.not_row ((hs.kept g1 (by simp)).alloc _) (by decide) hr1)
    have m2 := (((hm.kept g1 (by simp)).alloc (.cells #[.int .u16 ci, .int .u8 jt, .int .u8 jf, .int .u32 ki] 47)).alloc (.cells #[.int .u16 ci, .int .u8 jt, .int .u8 jf, .int .u32 ki] 47)).kept hgrow (Boxed.not_row ((hm.kept g1 (by simp)).alloc _) (by decide) hr1)
    have s3 := s2.kept (grownBy_setCell' v2 w1.heap.size (.slice (some ⟨g', 0, none⟩) (k + 1) cap')) (fun e => by injection e with e; omega)
    have m3 := m2.kept (grownBy_setCell' v2 w1.heap.size (.slice (some ⟨g', 0, none⟩) (k + 1) cap')) (fun e => by injection e with e; omega)
    have ka : KeepsOthers V (v1.alloc (.cells #[.int .u16 ci, .int .u8 jt, .int .u8 jf, .int .u32 ki] 47)) := (KeepsOthers.of_grownBy g1 (by intro j o e; cases e)).trans (KeepsOthers.alloc _ _)
    have ba : Below w.heap.size V (v1.alloc (.cells #[.int .u16 ci, .int .u8 jt, .int .u8 jf, .int .u32 ki] 47)) := (b1.mono hB.size).alloc (Nat.le_trans hB.size b1.size) _
    have bb := ba.trans hb3
    exact ⟨(ka.trans hk3).from _, keep2_of bb bb.size hs s3 hm m3, ⟨_, hv3, by rw [hst.out]; exact hr3, s3, m3⟩, hB.trans bb⟩
  case done =>
    rintro D V hD ⟨⟨v, hv, hrow, hs, hm⟩, hB⟩ hK
    have hc := hv.cell
    obtain ⟨q, d, rfl, _⟩ := own_shapeI hrow
    clear bx bs bn o0 o1 g1 B0 B1 b1 hW0
    gi_wp2
    refine ⟨by simp, .inl ⟨_, _, rfl, run_takeDeferred hK, ?_⟩⟩
    refine ⟨_, results_tmp2 rfl _ _ _, ?_⟩
    exact ⟨_, d, rfl, ownsRow_putObj hrow _ hK rfl, hB.trans (belowK_b (w := w) (Nat.le_refl _) V D _ _ (by omega) hK rfl rfl)⟩
end Go.Proofs.YtekmbhjdacaphaaDoor
