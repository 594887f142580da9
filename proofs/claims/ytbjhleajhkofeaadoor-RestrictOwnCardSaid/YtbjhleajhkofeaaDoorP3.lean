/- What the document's own Set returns: a policy after an assignment, and notes with its file and line. Conditions: lists of at most 1,000,000 calls, a value of at most 1,000 bytes. -/
import Derived.Test.YtbjhleajhkofeaaDoorP1
import Derived.Deep.MidRow
import Derived.Deep.RegionHeld3
namespace Go.Proofs.YtbjhleajhkofeaaDoor
open Go.RowKit
set_option linter.unusedVariables false
set_option linter.unusedSimpArgs false
attribute [local go_sem ↓] Go.wp_at_zero Go.wp_at_succ

section
variable {ops : Array Oper} {o : Oper} {a : Act} {w : World} {K : Act → World → Prop} {Q : Exit → Act → World → Prop} {E : Prop}
theorem step_store17 (hgd : o.guard = none) (ty : TypeId) (x y : Operand) (ho : o.op = .store ty x y) (b i : Nat) (cells : Array Value) (hx : a.eval x = .pointer (some ⟨b, i, none⟩)) (hy : a.eval y = .agg cells)
    (ht : w.there b i cells.size) (hi : (Tryd.prog.info? ty).map (·.size) = some cells.size) (h1 : cells.all (·.oneCell') = true) (h : K (a.put o.dst undef) (w.setCells b i cells.toList)) : if Region.wanted o (yielded ops a.tmps) = true then Oper.wp Tryd.prog o a w K Q else E := by
  rw [if_pos (by unfold Region.wanted; rw [hgd])]
  exact wp_store_mid ty x y ho b i cells hx hy ht hi h1 h
end
theorem there_row17 {W : World} {b i n : Nat} {cs : List Value} {t : TypeId} (h : W.heap[b]? = some (.cells cs.toArray t (0, 0))) (hn : i + n ≤ cs.length) : W.there b i n := fun j hj => by
  refine ⟨?_, frozen_of_row _ _ _ _ _ h⟩
  rw [cell_of_row W b (i + j) _ _ (0, 0) h]
  simp
  omega
theorem set_row17 {W : World} {b : Nat} {t : TypeId} {fz : Nat × Nat} : ∀ (vs : List Value) (i : Nat) (cs : List Value) (W : World), W.heap[b]? = some (.cells cs.toArray t fz) → i + vs.length ≤ cs.length → (W.setCells b i vs).heap[b]? = some (.cells (cs.take i ++ vs ++ cs.drop (i + vs.length)).toArray t fz)
  | [], i, cs, W, h, _ => by
    show W.heap[b]? = _
    rw [h, List.append_nil, List.length_nil, Nat.add_zero, List.take_append_drop]
  | v :: r, i, cs, W, h, hl => by
    have h1 : (W.setCell ⟨b, i, none⟩ v).heap[b]? = some (.cells (cs.set i v).toArray t fz) := by simp [World.setCell, Array.getElem?_modify, h]
    have ih := set_row17 (W := W) (b := b) r (i + 1) (cs.set i v) _ h1 (by simp at hl ⊢; omega)
    show ((W.setCell ⟨b, i, none⟩ v).setCells b (i + 1) r).heap[b]? = _
    rw [ih]
    congr 3
    have hi : i < cs.length := by simp at hl; omega
    rw [List.length_cons, show i + (r.length + 1) = i + 1 + r.length by omega, List.drop_set_of_lt (by omega)]
    congr 1
    rw [show cs.take i ++ v :: r = (cs.take i ++ [v]) ++ r by simp]
    congr 1
    rw [List.take_add_one, List.take_set_of_le (Nat.le_refl _)]
    simp [hi]
/-- The state of Set in memory: the policy's box, the assignment's, the result's cells. -/
structure S17 (w : World) (p : Pls) (P : Pol) (a : As) (V : World) : Prop where
  bel : Below w.heap.size w V
  pol : V.heap[w.heap.size]? = some (.cells (plC p P).toArray 32 (0, 0))
  asg : V.heap[w.heap.size + 1]? = some (.cells (asC a).toArray 34 (0, 0))
  res : V.heap[w.heap.size + 2]? = some (.cells ([.slice none 0 0, .int .u8 0, .slice none 0 0, .int .u32 0, .int .u8 0, .slice none 0 0, .slice none 0 0, .int .u8 0, .int .u64 0, .bool false, .bool false, .bool false, .bool false] : List Value).toArray 32 (0, 0))
theorem S17.on {w : World} {p : Pls} {P : Pol} {a : As} {V V' : World} (h : S17 w p P a V) (b : Below V.heap.size V V') : S17 w p P a V' :=
  ⟨thn16 h.bel b, (b.block _ (Array.getElem?_eq_some_iff.1 h.pol).1).trans h.pol, (b.block _ (Array.getElem?_eq_some_iff.1 h.asg).1).trans h.asg, (b.block _ (Array.getElem?_eq_some_iff.1 h.res).1).trans h.res⟩
theorem S17.start (w : World) (p : Pls) (P : Pol) (a : As) : S17 w p P a (((w.alloc (.cells (plC p P).toArray 32)).alloc (.cells (asC a).toArray 34)).alloc (.cells ([.slice none 0 0, .int .u8 0, .slice none 0 0, .int .u32 0, .int .u8 0, .slice none 0 0, .slice none 0 0, .int .u8 0, .int .u64 0, .bool false, .bool false, .bool false, .bool false] : List Value).toArray 32)) := by
  obtain ⟨X, hX⟩ : ∃ X, X = w.alloc (.cells (plC p P).toArray 32) := ⟨_, rfl⟩
  obtain ⟨Y, hY⟩ : ∃ Y, Y = X.alloc (.cells (asC a).toArray 34) := ⟨_, rfl⟩
  obtain ⟨Z, hZ⟩ : ∃ Z, Z = Y.alloc (.cells ([.slice none 0 0, .int .u8 0, .slice none 0 0, .int .u32 0, .int .u8 0, .slice none 0 0, .slice none 0 0, .int .u8 0, .int .u64 0, .bool false, .bool false, .bool false, .bool false] : List Value).toArray 32) := ⟨_, rfl⟩
  rw [← hX, ← hY, ← hZ]
  have sX : X.heap.size = w.heap.size + 1 := by rw [hX, World.size_alloc]
  have sY : Y.heap.size = w.heap.size + 2 := by rw [hY, World.size_alloc, sX]
  have b1 : Below w.heap.size w X := hX ▸ below16 w _
  have b2 : Below X.heap.size X Y := hY ▸ below16 X _
  have b3 : Below Y.heap.size Y Z := hZ ▸ below16 Y _
  have r1 : X.heap[w.heap.size]? = some (.cells (plC p P).toArray 32 (0, 0)) := by rw [hX]; exact heap_alloc_new w _
  have r2 : Y.heap[w.heap.size + 1]? = some (.cells (asC a).toArray 34 (0, 0)) := by rw [hY, ← sX]; exact heap_alloc_new X _
  have r3 : Z.heap[w.heap.size + 2]? = some (.cells ([.slice none 0 0, .int .u8 0, .slice none 0 0, .int .u32 0, .int .u8 0, .slice none 0 0, .slice none 0 0, .int .u8 0, .int .u64 0, .bool false, .bool false, .bool false, .bool false] : List Value).toArray 32 (0, 0)) := by rw [hZ, ← sY]; exact heap_alloc_new Y _
  exact ⟨thn16 b1 (thn16 b2 b3), (b3.block _ (by omega)).trans ((b2.block _ (by omega)).trans r1), (b3.block _ (by omega)).trans r2, r3⟩
theorem S17.store {w : World} {p p' : Pls} {P P' : Pol} {a : As} {V : World} (h : S17 w p P a V) (i : Nat) (vs : List Value) (hi : i + vs.length ≤ 13) (he : (plC p P).take i ++ vs ++ (plC p P).drop (i + vs.length) = plC p' P') : S17 w p' P' a (V.setCells w.heap.size i vs) :=
  ⟨below_setCells16 (Nat.le_refl _) _ _ _ h.bel, by rw [set_row17 (W := V) vs i _ V h.pol (by rw [plC_len]; exact hi), he], (heap_setCells16 V _ _ (by omega) _ _).trans h.asg, (heap_setCells16 V _ _ (by omega) _ _).trans h.res⟩
theorem rows_box17 {W : World} {b : Nat} {cs : Array Value} {fz : Nat × Nat} (hb : W.heap[b]? = some (.cells cs 32 fz)) {B s k i : Nat} {t : TypeId} (ht : t ≠ 32) {u : Value} {xs : List Value} (ho : W.ownsRow B t s u k xs) (l : List Value) : (W.setCells b i l).ownsRow B t s u k xs := owns_same16 ho fun g cs fz _ hk => (heap_setCells16 W _ _ (ne_type16 hk hb ht) _ _).trans hk
theorem cells17 {V : World} {p : Pls} {P : Pol} {a : As} {g g' : Nat} (h : V.heap[g]? = some (.cells (plC p P).toArray 32 (0, 0))) (k : V.heap[g']? = some (.cells (asC a).toArray 34 (0, 0))) : V.cell? ⟨g, 0, none⟩ = some (.slice p.aq p.an p.ac) ∧ V.cell? ⟨g, 1, none⟩ = some (.int .u8 (P.fl.1 : Nat)) ∧ V.cell? ⟨g, 2, none⟩ = some (.slice p.fq p.fn p.fc) ∧ V.cell? ⟨g, 3, none⟩ = some (.int .u32 (P.dn : Nat)) ∧ V.cell? ⟨g, 4, none⟩ = some (.int .u8 (P.lg.1 : Nat)) ∧ V.cell? ⟨g, 5, none⟩ = some (.slice p.lq p.ln p.lc) ∧ V.cell? ⟨g, 6, none⟩ = some (.slice p.mq p.mn p.mc) ∧ V.cell? ⟨g, 7, none⟩ = some (.int .u8 (P.fm : Nat)) ∧ V.cell? ⟨g, 8, none⟩ = some (.int .u64 (P.sp : Nat)) ∧ V.cell? ⟨g, 9, none⟩ = some (.bool P.b1) ∧ V.cell? ⟨g, 10, none⟩ = some (.bool P.b2) ∧ V.cell? ⟨g, 11, none⟩ = some (.bool P.b3) ∧ V.cell? ⟨g, 12, none⟩ = some (.bool P.b4) ∧ V.cell? ⟨g', 0, none⟩ = some (.string a.file) ∧ V.cell? ⟨g', 1, none⟩ = some (.int .i64 a.line) ∧ V.cell? ⟨g', 2, none⟩ = some (.string a.sec) ∧ V.cell? ⟨g', 3, none⟩ = some (.string a.key) ∧ V.cell? ⟨g', 4, none⟩ = some (.string a.val) :=
  ⟨(cell_of_row V g 0 _ _ (0, 0) h).trans rfl, (cell_of_row V g 1 _ _ (0, 0) h).trans rfl, (cell_of_row V g 2 _ _ (0, 0) h).trans rfl, (cell_of_row V g 3 _ _ (0, 0) h).trans rfl, (cell_of_row V g 4 _ _ (0, 0) h).trans rfl, (cell_of_row V g 5 _ _ (0, 0) h).trans rfl, (cell_of_row V g 6 _ _ (0, 0) h).trans rfl, (cell_of_row V g 7 _ _ (0, 0) h).trans rfl, (cell_of_row V g 8 _ _ (0, 0) h).trans rfl, (cell_of_row V g 9 _ _ (0, 0) h).trans rfl, (cell_of_row V g 10 _ _ (0, 0) h).trans rfl, (cell_of_row V g 11 _ _ (0, 0) h).trans rfl, (cell_of_row V g 12 _ _ (0, 0) h).trans rfl, (cell_of_row V g' 0 _ _ (0, 0) k).trans rfl, (cell_of_row V g' 1 _ _ (0, 0) k).trans rfl, (cell_of_row V g' 2 _ _ (0, 0) k).trans rfl, (cell_of_row V g' 3 _ _ (0, 0) k).trans rfl, (cell_of_row V g' 4 _ _ (0, 0) k).trans rfl⟩
theorem resC17 {V : World} {g : Nat} (h : V.heap[g]? = some (.cells ([.slice none 0 0, .int .u8 0, .slice none 0 0, .int .u32 0, .int .u8 0, .slice none 0 0, .slice none 0 0, .int .u8 0, .int .u64 0, .bool false, .bool false, .bool false, .bool false] : List Value).toArray 32 (0, 0))) : (∀ i, V.frozen? ⟨g, i, none⟩ = false) ∧ V.cell? ⟨g, 0, none⟩ = some (.slice none 0 0) ∧ V.cell? ⟨g, 1, none⟩ = some (.int .u8 0) ∧ V.cell? ⟨g, 2, none⟩ = some (.slice none 0 0) ∧ V.cell? ⟨g, 3, none⟩ = some (.int .u32 0) ∧ V.cell? ⟨g, 4, none⟩ = some (.int .u8 0) ∧ V.cell? ⟨g, 5, none⟩ = some (.slice none 0 0) ∧ V.cell? ⟨g, 6, none⟩ = some (.slice none 0 0) ∧ V.cell? ⟨g, 7, none⟩ = some (.int .u8 0) ∧ V.cell? ⟨g, 8, none⟩ = some (.int .u64 0) ∧ V.cell? ⟨g, 9, none⟩ = some (.bool false) ∧ V.cell? ⟨g, 10, none⟩ = some (.bool false) ∧ V.cell? ⟨g, 11, none⟩ = some (.bool false) ∧ V.cell? ⟨g, 12, none⟩ = some (.bool false) :=
  ⟨fun i => frozen_of_row _ _ _ _ _ h, (cell_of_row V g 0 _ _ (0, 0) h).trans rfl, (cell_of_row V g 1 _ _ (0, 0) h).trans rfl, (cell_of_row V g 2 _ _ (0, 0) h).trans rfl, (cell_of_row V g 3 _ _ (0, 0) h).trans rfl, (cell_of_row V g 4 _ _ (0, 0) h).trans rfl, (cell_of_row V g 5 _ _ (0, 0) h).trans rfl, (cell_of_row V g 6 _ _ (0, 0) h).trans rfl, (cell_of_row V g 7 _ _ (0, 0) h).trans rfl, (cell_of_row V g 8 _ _ (0, 0) h).trans rfl, (cell_of_row V g 9 _ _ (0, 0) h).trans rfl, (cell_of_row V g 10 _ _ (0, 0) h).trans rfl, (cell_of_row V g 11 _ _ (0, 0) h).trans rfl, (cell_of_row V g 12 _ _ (0, 0) h).trans rfl⟩
end Go.Proofs.YtbjhleajhkofeaaDoor
