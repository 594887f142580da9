/- A loop over a function that hands over an explicit list of pairs, one behind the other, and that keeps boxes of its own; else as the law for single values. -/
import Derived.Test.YtifjnioichfodaaDoorZb
namespace Go.Proofs.YtifjnioichfodaaDoor
open Go.RowKit
set_option linter.unusedVariables false

/-- What a round keeps of the function that it is handed its pair by: each block from B on that is of a type of Ty. -/
def KeepY (Ty : TypeId → Prop) (B : Nat) (V V' : World) : Prop := V.heap.size ≤ V'.heap.size ∧ ∀ z c t fz, B ≤ z → V.heap[z]? = some (.cells c t fz) → Ty t → V'.heap[z]? = some (.cells c t fz)
theorem keepY_mono {Ty : TypeId → Prop} {B C : Nat} {V V' : World} (h : B ≤ C) (k : KeepY Ty B V V') : KeepY Ty C V V' := ⟨k.1, fun z c t fz hz hc ht => k.2 z c t fz (Nat.le_trans h hz) hc ht⟩
theorem keepY_rel (Ty : TypeId → Prop) (B C : Nat) : RelK C (KeepY Ty B) where
  refl := fun V => ⟨Nat.le_refl _, fun _ _ _ _ _ h _ => h⟩
  trans := fun h k => ⟨Nat.le_trans h.1 k.1, fun z c t fz hz hc ht => k.2 z c t fz hz (h.2 z c t fz hz hc ht) ht⟩
  put := fun V l o o' hB hl ho => ⟨by simp, fun z c t fz hz hc ht => by
    rw [World.putObj_heap_other (fun e => by subst e; rw [hl] at hc; cases hc; cases ho)]; exact hc⟩
theorem keepY_below {Ty : TypeId → Prop} {B : Nat} {V V' : World} (h : Below V.heap.size V V') : KeepY Ty B V V' := ⟨h.size, fun z c t fz _ hc _ => (h.block z (Array.getElem?_eq_some_iff.1 hc).1).trans hc⟩
theorem keepY_box {Ty : TypeId → Prop} {B z : Nat} {V V' : World} {t : TypeId} {v : Value} (k : KeepY Ty B V V') (hz : B ≤ z) (ht : Ty t) (h : Boxed V z t v) : Boxed V' z t v := k.2 z _ t _ hz h ht
/-- The iterator's promise: the pairs xs, one behind the other, or as many of them as are wanted. It writes no cells but those of blocks of its own, of the types of Ty. -/
def GivesP (P : Program) (gf : Nat) (lb : Array Value) (Ty : TypeId → Prop) (xs : List (Value × Value)) (w0 : World) : Prop :=
  ∀ (l : Nat) (J Jx : Nat → World → Prop) (W : World), Below w0.heap.size w0 W → OwnFrom W.heap.size J → OwnFrom W.heap.size Jx →
    (∀ (k z : Nat) (V : World) (v : Value) (c : Array Value) (t : TypeId) (fz : Nat × Nat), W.heap.size ≤ z → V.heap[z]? = some (.cells c t fz) → Ty t → J k V → J k (V.setCell ⟨z, 0, none⟩ v)) →
    (∀ (k : Nat) (x : Value × Value) (V : World), xs[k]? = some x → J k V → W.heap.size ≤ V.heap.size → YieldAt Fence.wide 3 P l #[x.1, x.2] V fun e V' =>
      KeepsFrom W.heap.size V V' ∧ ((e = .returned (.bool true) ∧ J (k + 1) V' ∧ KeepY Ty W.heap.size V V') ∨ (e = .returned (.bool false) ∧ Jx (k + 1) V'))) →
    J 0 W → Calls P gf (#[.func (.yield l) #[] #[]] ++ lb) W fun e W' => (∃ v, e = .returned v) ∧ (J xs.length W' ∨ ∃ k, Jx k W')
theorem wp_givesP {P : Program} {g : Operand} {p q : Tmp} {assign body : Code} {Q : Exit → Act → World → Prop} {a : Act} {w w0 : World} {gf : Nat} {Ty : TypeId → Prop} {lb : Array Value} {xs : List (Value × Value)}
    (hg : a.eval g = .func (.func gf) #[] lb) (eg : ∀ args W, (callFunc gf args).run P W = .ok (.enter gf args) W) (hseq : GivesP P gf lb Ty xs w0) (hb0 : Below w0.heap.size w0 w)
    (I Ix : Nat → World → Prop) (hI : OwnFrom w.heap.size I) (hIx : OwnFrom w.heap.size Ix) (hIZ : ∀ (k z : Nat) (V : World) (v : Value) (c : Array Value) (t : TypeId) (fz : Nat × Nat), w.heap.size + 2 ≤ z → V.heap[z]? = some (.cells c t fz) → Ty t → I k V → I k (V.setCell ⟨z, 0, none⟩ v)) (h0 : I 0 w) (after : Value × Value → Act)
    (hassign : ∀ (l : Nat) (x : Value × Value) (V : World) (K : Act → World → Prop), K (after x) V → assign.wpIn (Fence.wide.inRound l) 3 P (Exit.then K (fun _ _ _ => False)) { tmps := (a.tmps.setIfInBounds p x.1).setIfInBounds q x.2, defers := [] } V)
    (hbody : ∀ (l k : Nat) (x : Value × Value) (V : World), xs[k]? = some x → I k V → w.heap.size + 2 ≤ V.heap.size → body.wpIn (Fence.wide.inRound l) 3 P (goesK w.heap.size (KeepY Ty w.heap.size) I Ix (k + 1) V) (after x) V)
    (hdone : ∀ (V : World), I xs.length V → V.heap[w.heap.size]? = some (.deferred (some [])) → Q .normal { a with defers := { target := .collected w.heap.size, args := #[] } :: a.defers } V)
    (hstop : ∀ (k : Nat) (V : World), Ix k V → V.heap[w.heap.size]? = some (.deferred (some [])) → Code.ret.wpIn Fence.wide 4 P Q { a with defers := { target := .collected w.heap.size, args := #[] } :: a.defers } V) :
    (Code.rangeFunc g #[p, q] assign body).wpIn Fence.wide 4 P Q a w := by
  refine wpIn_rangeFunc fun fn _ => ?_
  obtain ⟨rec, hrec⟩ : ∃ rec : LoopState → Option Code → Loop, rec = fun s j => { state := s, pending := j, fn, tmps := a.tmps, params := #[p, q], assign, body, defers := w.heap.size } := ⟨_, rfl⟩
  obtain ⟨v0, hv0⟩ : ∃ v0, v0 = w.alloc (.deferred (some [])) := ⟨_, rfl⟩
  obtain ⟨v1, hv1⟩ : ∃ v1, v1 = v0.alloc (.loop (rec .ready none)) := ⟨_, rfl⟩
  have hz0 : v0.heap.size = w.heap.size + 1 := by rw [hv0, World.size_alloc]
  have hz1 : v1.heap.size = w.heap.size + 2 := by rw [hv1, World.size_alloc, hz0]
  have q1 : v1.heap[w.heap.size + 1]? = some (.loop (rec .ready none)) := by rw [← hz0, hv1]; exact World.alloc_heap_new v0 _
  have q0 : v1.heap[w.heap.size]? = some (.deferred (some [])) := by rw [hv1, Below.heap_alloc v0 _ _ (by omega), hv0]; exact World.alloc_heap_new w _
  have hb1 : Below w0.heap.size w0 v1 := by
    rw [hv1, hv0]; exact (hb0.alloc hb0.size _).alloc (by have := hb0.size; simp; omega) _
  have i1 : I 0 v1 := by rw [hv1, hv0]; exact hI.alloc _ (hI.alloc _ h0)
  have henter : (Instr.enterLoop fn a.tmps #[p, q] assign body Fence.wide.round).run P w = .ok (w.heap.size + 1, [{ target := .collected w.heap.size, args := #[] }]) v1 := by
    rw [hv1, hv0, hrec]; exact run_enterLoop_outer fn a.tmps #[p, q] assign body
  have hK := keepY_rel Ty v1.heap.size w.heap.size
  clear hv0 hv1
  refine ⟨w.heap.size + 1, [{ target := .collected w.heap.size, args := #[] }], v1, { target := .fn (.func gf) lb, args := #[.func (.yield (w.heap.size + 1)) #[] #[]] }, v1, gf, #[.func (.yield (w.heap.size + 1)) #[] #[]] ++ lb, v1, ?_, ?_, ?_, ?_, fun _ => by omega, ?_⟩
  · exact henter
  · simp only [resolve, hg]
    simp [go_sem]
  · intro f' _; trivial
  · simp [invoke, go_sem, eg]
  have kept : ∀ {A B : World} {row : Option Nat} {k : Nat} {o : Obj}, A.grownBy B row → (∀ r, row = some r → v1.heap.size ≤ r ∧ ∃ o : Obj, A.heap[r]? = some o ∧ o.isCells = false) → A.heap[k]? = some o → k < v1.heap.size → B.heap[k]? = some o :=
    fun hgr hr hk hlt => (hgr.block _ (Array.getElem?_eq_some_iff.1 hk).1 (fun e => by have := (hr _ e.symm).1; omega)).trans hk
  have up : ∀ {A : World} {row : Option Nat}, (∀ r, row = some r → v1.heap.size ≤ r ∧ ∃ o : Obj, A.heap[r]? = some o ∧ o.isCells = false) → (∀ r, row = some r → w.heap.size ≤ r ∧ ∃ o : Obj, A.heap[r]? = some o ∧ o.isCells = false) :=
    fun hr r e => ⟨by have := (hr r e).1; omega, (hr r e).2⟩
  have ownJ : OwnFrom v1.heap.size (fun (k : Nat) V => I k V ∧ V.heap[w.heap.size + 1]? = some (.loop (rec .ready none)) ∧ V.heap[w.heap.size]? = some (.deferred (some []))) :=
    fun k A B row h hgr hr => ⟨hI k A B row h.1 hgr (up hr), kept hgr hr h.2.1 (by omega), kept hgr hr h.2.2 (by omega)⟩
  have ownX : OwnFrom v1.heap.size (fun (k : Nat) V => Ix k V ∧ V.heap[w.heap.size + 1]? = some (.loop (rec .done (some .ret))) ∧ V.heap[w.heap.size]? = some (.deferred (some []))) :=
    fun k A B row h hgr hr => ⟨hIx k A B row h.1 hgr (up hr), kept hgr hr h.2.1 (by omega), kept hgr hr h.2.2 (by omega)⟩
  refine (callsIn_wide.2 (hseq (w.heap.size + 1) _ _ v1 hb1 ownJ ownX ?_ ?_ ⟨i1, q1, q0⟩)).mono ?_
  · -- what the iterator writes
    rintro k z V v c t fz hz hc ht ⟨hi, hl, hd⟩
    exact ⟨hIZ k z V v c t fz (by omega) hc ht hi, (heap_setCell_other V _ _ _ (show w.heap.size + 1 ≠ z by omega)).trans hl, (heap_setCell_other V _ _ _ (show w.heap.size ≠ z by omega)).trans hd⟩
  · -- one round
    rintro k x V hk ⟨hi, hl, hd⟩ hz
    have hlt : w.heap.size + 1 < V.heap.size := (Array.getElem?_eq_some_iff.1 hl).1
    have hy : (Instr.yield (w.heap.size + 1) #[x.1, x.2]).run P V = .ok (.round (w.heap.size + 1) fn ((a.tmps.setIfInBounds p x.1).setIfInBounds q x.2) assign body) V := by
      rw [run_yield (P := P) (args := #[x.1, x.2]) hl (by rw [hrec]; rfl), hrec]; simp
    have hbr : (Instr.beginRound (w.heap.size + 1)).run P V = .ok () (V.putObj (w.heap.size + 1) (.loop (rec .busy none))) := by
      rw [run_beginRound (P := P) hl (by rw [hrec]), hrec]
    refine ⟨fn, _, assign, body, hy, roundIn_of_wpIn trivial ?_⟩
    refine hassign _ x V _ ?_
    refine ⟨_, hbr, ?_⟩
    obtain ⟨U, hU⟩ : ∃ U, U = V.putObj (w.heap.size + 1) (.loop (rec .busy none)) := ⟨_, rfl⟩
    have e1 : U.heap[w.heap.size + 1]? = some (.loop (rec .busy none)) := by rw [hU, World.putObj_heap_same hlt]
    have e0 : U.heap[w.heap.size]? = some (.deferred (some [])) := by rw [hU, World.putObj_heap_other (by omega)]; exact hd
    have iU : I k U := by rw [hU]; exact hI.putObj _ hi (by omega) hl rfl
    have zU : w.heap.size + 2 ≤ U.heap.size := by rw [hU]; simp; omega
    have bU : KeepY Ty v1.heap.size V U := by rw [hU]; exact hK.put V _ _ _ (by omega) hl rfl
    have kU : KeepsFrom v1.heap.size V U := by rw [hU]; exact KeepsFrom.of_grownBy (grownBy_putObj' _ _ _) (fun j e => by cases e; omega)
    rw [← hU]
    refine wpIn_mono (hbody _ k x U hk iU zU) ?_
    rintro e b U' h
    cases e with
    | normal =>
      obtain ⟨hkf, hbl, hi'⟩ := h
      have r1 := hkf.same _ _ (by omega) e1 rfl
      have r0 := hkf.same _ _ (Nat.le_refl _) e0 rfl
      have hend := run_endRound (P := P) none r1
      refine ⟨_, _, hend, (kU.trans (keepsUp hkf (by omega))).trans (KeepsFrom.of_grownBy (grownBy_putObj' _ _ _) (fun j e => by cases e; omega)), .inl ⟨rfl, ⟨hI.putObj _ hi' (by omega) r1 rfl, ?_, ?_⟩, hK.trans (hK.trans bU (keepY_mono (by omega) hbl)) (hK.put U' _ _ _ (by omega) r1 rfl)⟩⟩
      · rw [World.putObj_heap_same (Array.getElem?_eq_some_iff.1 r1).1, hrec]; rfl
      · rw [World.putObj_heap_other (by omega)]; exact r0
    | ret =>
      obtain ⟨hkf, hi'⟩ := h
      have r1 := hkf.same _ _ (by omega) e1 rfl
      have r0 := hkf.same _ _ (Nat.le_refl _) e0 rfl
      have hend := run_endRound (P := P) (some .ret) r1
      refine ⟨_, _, hend, (kU.trans (keepsUp hkf (by omega))).trans (KeepsFrom.of_grownBy (grownBy_putObj' _ _ _) (fun j e => by cases e; omega)), .inr ⟨rfl, hIx.putObj _ hi' (by omega) r1 rfl, ?_, ?_⟩⟩
      · rw [World.putObj_heap_same (Array.getElem?_eq_some_iff.1 r1).1, hrec]; rfl
      · rw [World.putObj_heap_other (by omega)]; exact r0
    | exit id => exact h.elim
    | goto t => exact h.elim
    | panic c => exact h.elim
    | outgrown => exact h.elim
  · -- behind the iterator
    rintro e V ⟨⟨v, rfl⟩, (⟨hi, hl, hd⟩ | ⟨k, hi, hl, hd⟩)⟩
    · have hend := run_endLoop (P := P) hl (by rw [hrec]; simp)
      refine ⟨none, _, by rw [hend, hrec], hdone _ (hI.putObj _ hi (by omega) hl rfl) ?_⟩
      rw [World.putObj_heap_other (by omega)]; exact hd
    · have hend := run_endLoop (P := P) hl (by rw [hrec]; simp)
      refine ⟨some .ret, _, by rw [hend, hrec], hstop k _ (hIx.putObj _ hi (by omega) hl rfl) ?_⟩
      rw [World.putObj_heap_other (by omega)]; exact hd
end Go.Proofs.YtifjnioichfodaaDoor
