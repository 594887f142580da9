/- What the call Print of the package insn returns of a program that is not too long, as the chapter says. Condition: a slice is as long as its capacity allows. -/
import Derived.Test.YtekmbhjdacaphaaDoorEb
import Derived.Shelf.Abstract
namespace Go.Proofs.YtekmbhjdacaphaaDoor
open Go.RowKit Go.Shelf
set_option linter.unusedVariables false
attribute [local go_sem] Oper.semAt_some

/-- The pieces that have come, as values: each is the bytes of its instruction. -/
def Held (l : List Ins) (n₀ : Nat) (W : World) (xs : List Value) : Prop := ∀ j, j < xs.length → ∃ q d i, xs[j]? = some (.slice q 8 d) ∧ l[j]? = some i ∧ W.ownsRow n₀ 5 1 (.slice q 8 d) 8 (bv (encL i))
theorem Held.kept {l : List Ins} {n₀ : Nat} {W W' : World} {xs : List Value} {row : Option Nat} (h : Held l n₀ W xs) (hg : W.grownBy W' row) (hr : ∀ r cs, row = some r → W.heap[r]? ≠ some (.cells cs 5 (0, 0))) : Held l n₀ W' xs := fun j hj => by
  obtain ⟨q, d, i, a, b, o⟩ := h j hj
  exact ⟨q, d, i, a, b, own_kept o hg hr⟩
theorem Held.snoc {l : List Ins} {n₀ : Nat} {W : World} {xs : List Value} {q : Option Addr} {d : Nat} {i : Ins} (h : Held l n₀ W xs) (hi : l[xs.length]? = some i) (ho : W.ownsRow n₀ 5 1 (.slice q 8 d) 8 (bv (encL i))) : Held l n₀ W (xs ++ [.slice q 8 d]) := fun j hj => by
  rw [List.length_append] at hj
  by_cases hlt : j < xs.length
  · rw [List.getElem?_append_left hlt]
    exact h j hlt
  · obtain rfl : j = xs.length := by simp at hj; omega
    exact ⟨q, d, i, by simp, hi, ho⟩
theorem row_ne {W : World} {B n s : Nat} {e t : TypeId} {v : Value} {xs : List Value} (h : W.ownsRow B e s v n xs) (hne : e ≠ t) : ∀ r cs, v.ownBlock = some r → W.heap[r]? ≠ some (.cells cs t (0, 0)) := by
  intro r cs he hh
  rcases h.2 with ⟨rfl, _⟩ | ⟨g, cap, cur, rfl, _, hg, _⟩
  · cases he
  · injection he with he
    have he : g = r := he
    subst he
    rw [hg] at hh
    injection hh with hh
    injection hh with _ hh
    exact hne hh
theorem box_ne {W : World} {B : Nat} {e t : TypeId} {v : Value} (h : Boxed W B e v) (hne : e ≠ t) : ∀ r cs, some B = some r → W.heap[r]? ≠ some (.cells cs t (0, 0)) := by
  intro r cs he hh
  injection he with he
  subst he
  rw [show W.heap[B]? = _ from h] at hh
  injection hh with hh
  injection hh with _ hh
  exact hne hh
/-- Between two rounds: the variable's box, the row of the pieces, the pieces. -/
def PrintI (l : List Ins) (n₀ B k : Nat) (W : World) : Prop := ∃ v xs, xs.length = k ∧ Boxed W B 59 v ∧ W.ownsRow n₀ 34 1 v k xs ∧ Held l n₀ W xs
theorem printI_own (l : List Ins) (n₀ B B' : Nat) : OwnFrom B' (PrintI l n₀ B) := by
  rintro k W W' row ⟨v, xs, hl, hb, ho, hh⟩ hg hr
  refine ⟨v, xs, hl, hb.kept hg fun e => ?_, own_kept ho hg fun r cs e => no_cells hr e, hh.kept hg fun r cs e => no_cells hr e⟩
  exact no_cells hr e.symm (show W.heap[B]? = _ from hb)
theorem flat_prog (l : List Ins) : (l.map encL).flatten = progB l := by unfold progB; rw [List.flatMap_def]
theorem rows_read {l : List Ins} {n₀ n : Nat} {W : World} {v : Value} {xs : List Value} (ho : W.ownsRow n₀ 34 1 v n xs) (hh : Held l n₀ W xs) (hx : xs.length = n) (hl : l.length = n) :
    ∃ p c, v = .slice p n c ∧ RdL W W.heap.size p (l.map encL) := by
  rcases ho.2 with ⟨rfl, rfl⟩ | ⟨g, cap, cur, rfl, _, hg, hc, _⟩
  · exact ⟨none, 0, rfl, fun h => by rw [List.length_map] at h; omega⟩
  · refine ⟨_, cap, rfl, fun _ => ⟨g, 0, rfl, (ho.lt g rfl).2, fun j hj => ?_⟩⟩
    rw [List.length_map] at hj
    obtain ⟨q, d, i, a, b, o⟩ := hh j (by omega)
    have hc := ho.cells (g := g) rfl j _ a
    rw [Addr.add_lit] at hc
    have he : (l.map encL).getD j [] = encL i := by rw [List.getD_eq_getElem?_getD, List.getElem?_map, b]; rfl
    obtain ⟨r, h0, _⟩ := own_shape' o
    exact ⟨q, d, by rw [he, encL_length]; exact hc, by rw [he]; exact r, h0⟩
theorem Cat_prog {l : List Ins} {n d : Nat} {q : Option Addr} {V : World} (hl : l.length = n) (hn : n ≤ 4096) (h : RdL V V.heap.size q (l.map encL)) : Calls Tryd.prog 21 #[.slice q n d] V fun e w' =>
    ∃ g, e = .returned (.slice (some ⟨g, 0, none⟩) (8 * n) (8 * n)) ∧ w'.ownsRow V.heap.size 5 1 (.slice (some ⟨g, 0, none⟩) (8 * n) (8 * n)) (8 * n) (bv (progB l)) ∧ Below V.heap.size V w' := by
  have H := Cat_any q n d (l.map encL) V (by rw [List.length_map, hl]) (by omega) (by rw [flat_prog, progB_length]; omega) h
  rw [flat_prog, progB_length, hl] at H
  exact H
theorem bytes_info : (Tryd.prog.info? 34).map (fun i => (i.zero, i.size, i.bytes)) = some (some (.slice none 0 0), 1, 24) := by kernel_rfl
set_option maxRecDepth 100000 in
set_option maxHeartbeats 4000000 in
theorem printC : PrintC := by
  intro p n c l w hl hok hn hnc hc hp hR
  obtain ⟨i0, hi, hz0, hz1, hz2⟩ := info_parts bytes_info
  have HI := Lib.hid hi
  have H0 := Lib.hid hz0
  have H1 := Lib.hid hz1
  have H2 := Lib.hid hz2
  have HL := Lib.hid hl
  have HO := Lib.hid hok
  have HR := Lib.hid hR
  have hm0 : i0.bytes * n ≤ 281474976710656 := by rw [hz2]; omega
  have hm1 : n ≤ maxLen := by unfold maxLen; omega
  clear hi hz0 hz1 hz2 hl hok hR hp hc hnc
  refine (callsIn_wide (n := 4)).1 ?_
  refine callsIn_of_wp_marks Tryd.func17 rfl trivial ?_ rfl
  simp only [Tryd.ntmps17, List.size_toArray, List.length_cons, List.length_nil, Nat.reduceAdd, Nat.reduceSub, Array.replicate_succ, Array.replicate_zero, List.push_toArray, List.append_toArray, List.nil_append, List.cons_append]
  gi_wp2_with (first
    | (gi_at_make
       refine wpListIn_make_own _ rfl _ _ 59 rfl w.heap.size 34 i0 _ 1 Tryd.underlying59 HI.out H0.out H1.out .i64 .i64 n n rfl rfl rfl hm0 hm1 (Nat.le_refl _) ?_
       intro w1 o1 g1)
    | (refine ⟨trivial, ?_⟩
       gi_at_call 26
       refine (callsIn_wide.2 (pieces_call _ _ _ _)).mono ?_
       rintro e w2 ⟨rfl, rfl⟩))
  have b1 : Below w.heap.size w w1 := (Below.refl _ _).grown g1 (Nat.le_refl _) (by intro k hk; cases hk)
  have hz1 : w.heap.size ≤ w1.heap.size := g1.size
  obtain ⟨W0, hW0⟩ : ∃ W0, W0 = (w1.alloc (.cells #[.slice (some ⟨w.heap.size, 0, none⟩) 0 n] 59)).alloc (.cells #[.slice p n c] 33) := ⟨_, rfl⟩
  have B1 : Below w1.heap.size w1 W0 := by rw [hW0]; exact ((Below.refl _ _).alloc (Nat.le_refl _) _).alloc (by simp) _
  have B0 : Below w.heap.size w W0 := b1.trans (B1.mono hz1)
  have z0 : W0.heap.size = w1.heap.size + 2 := by rw [hW0]; simp
  have bx : Boxed W0 w1.heap.size 59 (.slice (some ⟨w.heap.size, 0, none⟩) 0 n) := by rw [hW0]; exact (Boxed.new w1 _ _).alloc _
  have bp : W0.cell? ⟨w1.heap.size + 1, 0, none⟩ = some (.slice p n c) := by
    have h := (Boxed.new (w1.alloc (.cells #[.slice (some ⟨w.heap.size, 0, none⟩) 0 n] 59)) 33 (.slice p n c)).cell
    rw [World.size_alloc] at h
    rw [hW0]; exact h
  have o0 : W0.ownsRow w.heap.size 34 1 (.slice (some ⟨w.heap.size, 0, none⟩) 0 n) 0 [] := by rw [hW0]; exact (o1.alloc _).alloc _
  have hn0 : w.heap.size ≤ W0.heap.size := by omega
  rw [← hW0]
  refine wp_counts (Kp := Below w.heap.size) (N := n) (w0 := W0) (Has := PieceAt l w.heap.size) (gf := 34) (lb := #[.pointer (some ⟨w1.heap.size + 1, 0, none⟩)]) rfl (enters_of Tryd.func34 (by kernel_rfl) rfl)
    (pieces_counts (w1.heap.size + 1) w.heap.size n c p l W0 HL.out HO.out hn (by omega) hn0 bp (HR.out.below B0 (Nat.le_refl _))) (Below.refl _ _) belowK_t (belowK_b hn0) (pieceAt_own _ _ _)
    (fun k W => PrintI l w.heap.size w1.heap.size k W ∧ Below w.heap.size w W) (OwnFrom.and (printI_own _ _ _ _) (ownFrom_below (Nat.le_refl _) hn0))
    ⟨⟨_, [], rfl, bx, o0, fun j hj => absurd hj (by simp)⟩, B0⟩
    (fun x => { tmps := #[.slice p n c, undef, .slice none 0 0, .int .i64 0, .pointer (some ⟨w1.heap.size, 0, none⟩), x, .slice p n c, .int .i64 n, .bool (decide ((4096 : Int) < n)), .slice p n c, .int .i64 n, .slice (some ⟨w.heap.size, 0, none⟩) 0 n, .slice p n c, .func (.func 34) #[] #[.pointer (some ⟨w1.heap.size + 1, 0, none⟩)], x, undef, undef, undef, undef, undef, undef], defers := [] }) ?assign ?body ?done
  case assign =>
    intro lp x V K hK
    gi_wp2
    exact hK
  case body =>
    rintro lp k x V hk ⟨⟨v, xs, hx, hv, hrow, hheld⟩, hB⟩ ⟨q, d, i, e, hli, ho⟩
    obtain rfl : x = .slice q 8 d := e
    have hli' : l[k]? = some i := hli
    have hc := hv.cell
    have HH := Lib.hid (Held.snoc hheld (by rw [hx]; exact hli') ho)
    clear hli hli' ho hheld bx bp o0 o1 g1 B0 B1 b1 hW0
    gi_wp2_with (gi_at_builtin
                 refine wpListIn_append_own _ rfl _ _ 59 rfl w.heap.size 34 i0 _ 1 24 Tryd.underlying59 HI.out H0.out H1.out H2.out rfl (by decide) v k xs rfl (hrow.alloc _) ⟨V.heap.size, 0, none⟩ 1 1 [.slice q 8 d] rfl rfl (cell_one_new _ _ _) (by simp [Value.oneCell']) (by unfold maxLen; omega) (by omega) (by have := hB.size; simp; omega) ?_
                 intro v' v1 hown' hgrow _
                 obtain ⟨g', cap', rfl⟩ := ownsRow_succ hown'
                 obtain ⟨hv1, hv2, hr2, hk2, hb2⟩ := hv.appended (by decide) hrow hB.size hz1 hown' hgrow
                 have hc1 := hv1.cell
                 have hf1 := hv1.frozen)
    refine ⟨hk2.from _, hb2, ⟨_, xs ++ [.slice q 8 d], by simp [hx], hv2, hr2, ?_⟩, hB.trans hb2⟩
    exact ((HH.out.kept (World.grownBy_alloc V _ none) (fun r cs e => by cases e)).kept hgrow (row_ne (hrow.alloc _) (by decide))).kept (grownBy_setCell' _ _ _) (box_ne hv1 (by decide))
  case done =>
    rintro D V hD ⟨⟨v, xs, hx, hv, hrow, hheld⟩, hB⟩ hK
    have hc := hv.cell
    obtain ⟨q, d, rfl, hrl⟩ := rows_read hrow hheld hx HL.out
    clear bx bp o0 o1 g1 B0 B1 b1 hW0 hx hrow hheld
    gi_wp2_with (refine ⟨trivial, ?_⟩
                 gi_at_call 21
                 refine (callsIn_wide.2 (Cat_prog HL.out hn hrl)).mono ?_
                 rintro e v2 ⟨g2, rfl, o2, b2⟩)
    have hK2 : v2.heap[D]? = some (.deferred (some [])) := (b2.block D (Array.getElem?_eq_some_iff.1 hK).1).trans hK
    refine ⟨by simp, .inl ⟨_, _, rfl, run_takeDeferred hK2, ?_⟩⟩
    refine ⟨_, results_tmp2 rfl _ _ _, ?_⟩
    exact ⟨_, 8 * n, rfl, ownsRow_putObj (own_mono o2 hB.size) _ hK2 rfl, (hB.trans (b2.mono hB.size)).trans (belowK_b (w := w) (Nat.le_refl _) v2 D _ _ (by omega) hK2 rfl rfl)⟩
theorem printLongC : PrintLongC := by
  intro p n c w hn hm
  have h1 : (4096 : Int) < n := by omega
  clear hn
  go_enter Tryd.func17, Tryd.ntmps17
  go_wp2
  go_ret2
  exact ⟨rfl, Below.refl _ _⟩
end Go.Proofs.YtekmbhjdacaphaaDoor
