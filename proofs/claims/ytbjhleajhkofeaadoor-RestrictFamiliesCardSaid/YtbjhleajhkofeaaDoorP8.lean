/- What the calls of the package filter have to return, as the chapter says it. -/
import Derived.Test.YtbjhleajhkofeaaDoorP3
import Derived.Test.YtbjhleajhkofeaaDoorTs
namespace Go.Proofs.YtbjhleajhkofeaaDoor
open Go.RowKit
set_option linter.unusedVariables false
set_option linter.unusedSimpArgs false
attribute [local go_sem ↓] Go.wp_at_zero Go.wp_at_succ

theorem pcells17 {V : World} {p : Pls} {P : Pol} {g : Nat} (h : V.heap[g]? = some (.cells (plC p P).toArray 32 (0, 0))) : V.cell? ⟨g, 0, none⟩ = some (.slice p.aq p.an p.ac) ∧ V.cell? ⟨g, 1, none⟩ = some (.int .u8 (P.fl.1 : Nat)) ∧ V.cell? ⟨g, 2, none⟩ = some (.slice p.fq p.fn p.fc) ∧ V.cell? ⟨g, 3, none⟩ = some (.int .u32 (P.dn : Nat)) ∧ V.cell? ⟨g, 4, none⟩ = some (.int .u8 (P.lg.1 : Nat)) ∧ V.cell? ⟨g, 5, none⟩ = some (.slice p.lq p.ln p.lc) ∧ V.cell? ⟨g, 6, none⟩ = some (.slice p.mq p.mn p.mc) ∧ V.cell? ⟨g, 7, none⟩ = some (.int .u8 (P.fm : Nat)) ∧ V.cell? ⟨g, 8, none⟩ = some (.int .u64 (P.sp : Nat)) ∧ V.cell? ⟨g, 9, none⟩ = some (.bool P.b1) ∧ V.cell? ⟨g, 10, none⟩ = some (.bool P.b2) ∧ V.cell? ⟨g, 11, none⟩ = some (.bool P.b3) ∧ V.cell? ⟨g, 12, none⟩ = some (.bool P.b4) :=
  ⟨(cell_of_row V g 0 _ _ (0, 0) h).trans rfl, (cell_of_row V g 1 _ _ (0, 0) h).trans rfl, (cell_of_row V g 2 _ _ (0, 0) h).trans rfl, (cell_of_row V g 3 _ _ (0, 0) h).trans rfl, (cell_of_row V g 4 _ _ (0, 0) h).trans rfl, (cell_of_row V g 5 _ _ (0, 0) h).trans rfl, (cell_of_row V g 6 _ _ (0, 0) h).trans rfl, (cell_of_row V g 7 _ _ (0, 0) h).trans rfl, (cell_of_row V g 8 _ _ (0, 0) h).trans rfl, (cell_of_row V g 9 _ _ (0, 0) h).trans rfl, (cell_of_row V g 10 _ _ (0, 0) h).trans rfl, (cell_of_row V g 11 _ _ (0, 0) h).trans rfl, (cell_of_row V g 12 _ _ (0, 0) h).trans rfl⟩
end Go.Proofs.YtbjhleajhkofeaaDoor
namespace Go.Proofs.YtbjhleajhkofeaaDoor
open Go.RowKit
set_option linter.unusedVariables false
set_option linter.unusedSimpArgs false
attribute [local go_sem ↓] Go.wp_at_zero Go.wp_at_succ

end Go.Proofs.YtbjhleajhkofeaaDoor
namespace Go.Proofs.YtbjhleajhkofeaaDoor
open Go.RowKit
set_option linter.unusedVariables false
set_option linter.unusedSimpArgs false
attribute [local go_sem ↓] Go.wp_at_zero Go.wp_at_succ

section
variable {P : Program}
theorem run_storeVar_cell17 (w : World) (b o : Nat) (ty : TypeId) (v : Value) (h1 : v.oneCell' = true) (ht : w.there b o 1) (hi : (P.info? ty).map (·.size) = some 1) :
    (storeVar ty ⟨b, o, none⟩ v).run P w = .ok () (w.setCells b o [v]) := by
  have := run_storeCells_cells (P := P) b o [v] 0 w (fun j hj => by simpa using (ht j (by simpa using hj)).1) (fun j hj => by simpa using (ht j (by simpa using hj)).2) (fun x hx => by simp at hx; subst hx; exact h1)
  have hc : v.cells = #[v] := by cases v <;> first | rfl | cases h1
  cases hq : P.info? ty with
  | none => simp [hq] at hi
  | some i =>
    have hs : i.size = 1 := by simpa [hq] using hi
    simp only [Nat.add_zero] at this
    simp [storeVar, sizeOf, typeInfo, hq, hc, hs, this]
theorem wpList_store_cell17 {ops : Array Oper} {rest : List Oper} {op : Oper} {a : Act} {w : World} {Q : Exit → Act → World → Prop} (hgd : op.guard = none) (ty : TypeId) (x y : Operand) (ho : op.op = .store ty x y)
    (b o : Nat) (v : Value) (hx : a.eval x = .pointer (some ⟨b, o, none⟩)) (hy : a.eval y = v) (h1 : v.oneCell' = true) (ht : w.there b o 1) (hi : (P.info? ty).map (·.size) = some 1)
    (h : wpList P ops Q rest (a.put op.dst undef) (w.setCells b o [v])) : wpList P ops Q (op :: rest) a w :=
  wpList_plain hgd fun _ hK => by
    unfold Oper.wp execOp
    simp only [ho, hx, hy, Instr.storeAt, Instr.sureAddr, Sem.run_bind, Sem.run_pure, Result.andThen_ok, run_storeVar_cell17 w b o ty v h1 ht hi]
    exact hK _ _ h
end
theorem nums_one17 (k : IntKind) (l : List Int) : ∀ u ∈ l.map (Value.int k), u.oneCell' = true := fun u hu => by
  obtain ⟨x, _, rfl⟩ := List.mem_map.1 hu
  rfl
theorem nums_flat17 {k : IntKind} {w : World} {q : Option Addr} {l : List Int} (h : NumsAt k w q l) (h0 : 0 < l.length) : ∃ ad, q = some ad ∧ ∀ j u, (l.map (Value.int k))[j]? = some u → w.cell? (ad.add j) = some u := by
  obtain ⟨g, o, e, _⟩ := h 0 l[0] (List.getElem?_eq_getElem h0)
  refine ⟨_, e, fun j u hu => ?_⟩
  rw [List.getElem?_map] at hu
  obtain ⟨x, hx, rfl⟩ := Option.map_eq_some_iff.1 hu
  obtain ⟨g', o', e', hc⟩ := h j x hx
  rw [e] at e'
  injection e' with e'
  injection e' with e1 e2
  subst e1 e2
  rw [Addr.add_lit]
  exact hc
theorem nums_own17 {k : IntKind} {w : World} {B n c : Nat} {t : TypeId} {q : Option Addr} {l : List Int} (h : w.ownsRow B t 1 (.slice q n c) n (l.map (Value.int k))) (hn : n = l.length) : NumsAt k w q l := fun i x hx => by
  have hi := (List.getElem?_eq_some_iff.1 hx).1
  obtain ⟨g, cap, hv, hB, hl⟩ := h.form (by omega)
  injection hv with h1 h2 h3
  subst h1 h3
  refine ⟨g, 0, rfl, ?_⟩
  rw [Nat.zero_add]
  exact (h.cellAt i (by omega)).trans (by rw [List.getElem?_map, hx]; rfl)
/-- The state of Copied in memory: the policy's box, the result's cells. -/
structure C17 (w : World) (p : Pls) (P : Pol) (V : World) : Prop where
  bel : Below w.heap.size w V
  pol : V.heap[w.heap.size]? = some (.cells (plC p P).toArray 32 (0, 0))
  res : V.heap[w.heap.size + 1]? = some (.cells ([.slice none 0 0, .int .u8 0, .slice none 0 0, .int .u32 0, .int .u8 0, .slice none 0 0, .slice none 0 0, .int .u8 0, .int .u64 0, .bool false, .bool false, .bool false, .bool false] : List Value).toArray 32 (0, 0))
theorem C17.on {w : World} {p : Pls} {P : Pol} {V V' : World} (h : C17 w p P V) (b : Below V.heap.size V V') : C17 w p P V' :=
  ⟨thn16 h.bel b, (b.block _ (Array.getElem?_eq_some_iff.1 h.pol).1).trans h.pol, (b.block _ (Array.getElem?_eq_some_iff.1 h.res).1).trans h.res⟩
theorem C17.store {w : World} {p p' : Pls} {P P' : Pol} {V : World} (h : C17 w p P V) (i : Nat) (vs : List Value) (hi : i + vs.length ≤ 13) (he : (plC p P).take i ++ vs ++ (plC p P).drop (i + vs.length) = plC p' P') : C17 w p' P' (V.setCells w.heap.size i vs) :=
  ⟨below_setCells16 (Nat.le_refl _) _ _ _ h.bel, by rw [set_row17 (W := V) vs i _ V h.pol (by rw [plC_len]; exact hi), he], (heap_setCells16 V _ _ (by omega) _ _).trans h.res⟩
end Go.Proofs.YtbjhleajhkofeaaDoor
namespace Go.Proofs.YtbjhleajhkofeaaDoor
open Go.RowKit
set_option linter.unusedVariables false
set_option linter.unusedSimpArgs false
attribute [local go_sem ↓] Go.wp_at_zero Go.wp_at_succ

/-- A row whose cells may be any. -/
def RowW (B : Nat) (t : TypeId) (s : Nat) (v : Value) (n : Nat) (w : World) : Prop := ∃ xs, w.ownsRow B t s v n xs
theorem RowW.set {B : Nat} {t : TypeId} {s : Nat} {v : Value} {n : Nat} {w : World} (h : RowW B t s v n w) (g i : Nat) (x : Value) : RowW B t s v n (w.setCell ⟨g, i, none⟩ x) := by
  obtain ⟨xs, h0, h⟩ := h
  rcases h with h | ⟨g2, cap, cur, hv, hB, hg, h1, h2, h3, h4⟩
  · exact ⟨xs, h0, Or.inl h⟩
  · by_cases e : g2 = g
    · subst e
      refine ⟨(cur.setIfInBounds i x).toList.take (n * s), ?_, Or.inr ⟨g2, cap, cur.setIfInBounds i x, hv, hB, ?_, h1, h2, ?_, ?_⟩⟩
      · rw [List.length_take, Array.length_toList, Array.size_setIfInBounds, h3]
        exact Nat.min_eq_left (Nat.mul_le_mul_right _ h1)
      · simp [World.setCell, Array.getElem?_modify, hg]
      · rw [Array.size_setIfInBounds]; exact h3
      · rfl
    · exact ⟨xs, h0, Or.inr ⟨g2, cap, cur, hv, hB, (heap_setCell_other w ⟨g, i, none⟩ g2 x e).trans hg, h1, h2, h3, h4⟩⟩
end Go.Proofs.YtbjhleajhkofeaaDoor
namespace Go.Proofs.YtbjhleajhkofeaaDoor
open Go.RowKit
set_option linter.unusedVariables false
set_option linter.unusedSimpArgs false
attribute [local go_sem ↓] Go.wp_at_zero Go.wp_at_succ

/-- A policy in rows of its own, from B on. -/
structure OwnP (B : Nat) (w : World) (p : Pls) (P : Pol) : Prop where
  al : p.an = P.ar.length
  fl : p.fn = P.fl.2.length
  ll : p.ln = P.lg.2.length
  ml : p.mn = P.fa.length
  ar : w.ownsRow B 3 1 (.slice p.aq p.an p.ac) p.an (P.ar.map (Value.int .i64))
  fi : w.ownsRow B 82 2 (.slice p.fq p.fn p.fc) p.fn (rowC encC P.fl.2)
  lo : w.ownsRow B 82 2 (.slice p.lq p.ln p.lc) p.ln (rowC encC P.lg.2)
  fa : w.ownsRow B 28 1 (.slice p.mq p.mn p.mc) p.mn ((P.fa.map fun (x : Nat) => (x : Int)).map (Value.int .u32))
theorem OwnP.pol {B : Nat} {w : World} {p : Pls} {P : Pol} (h : OwnP B w p P) : PolAt w p P := ⟨h.al, h.fl, h.ll, h.ml, nums_own17 h.ar h.al, LsAt.of_own h.fi h.fl, LsAt.of_own h.lo h.ll, nums_own17 h.fa (by rw [List.length_map]; exact h.ml)⟩
theorem OwnP.on {B : Nat} {w w' : World} {p : Pls} {P : Pol} (h : OwnP B w p P) (b : Below w.heap.size w w') : OwnP B w' p P := ⟨h.al, h.fl, h.ll, h.ml, owns_on16 h.ar b, owns_on16 h.fi b, owns_on16 h.lo b, owns_on16 h.fa b⟩
end Go.Proofs.YtbjhleajhkofeaaDoor
