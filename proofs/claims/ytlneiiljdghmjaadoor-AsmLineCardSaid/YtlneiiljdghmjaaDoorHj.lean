/- A loop over a function that hands over an explicit list of values, one behind the other; between two rounds the function may write blocks of its own, a round keeps whatever a relation says that it keeps. No condition but that the body is left by its end or by a return. -/
import Derived.RangeFuncBox
import Derived.RangeFuncLeaves
import Derived.RangeFuncCalls
import Derived.WalkKit
import Derived.OwnWalkIn
import Derived.TacticsInMore
import Derived.LoopNIn
import Derived.LoopIn
import Derived.Maps.AppendAt
import Derived.Lib.OthersKept
namespace Go.Proofs.YtlneiiljdghmjaaDoor
open Go.RowKit
set_option linter.unusedVariables false

/-- What a loop's own marks may turn: blocks that are no cells, from B on. -/
structure RelK (B : Nat) (Kp : World → World → Prop) : Prop where
  refl : ∀ V, Kp V V
  trans : ∀ {A B C}, Kp A B → Kp B C → Kp A C
  put : ∀ (V : World) (l : Nat) (o o' : Obj), B ≤ l → V.heap[l]? = some o → o.isCells = false → Kp V (V.putObj l o')
theorem keepsUp {B C : Nat} {V V' : World} (h : KeepsFrom B V V') (hn : B ≤ C) : KeepsFrom C V V' := ⟨h.size, fun k o hB hk ho => h.same k o (by omega) hk ho⟩
/-- The iterator's promise: the values xs, one behind the other, or as many of them as are wanted. It writes no cells but those of the blocks of Z. -/
def GivesK (P : Program) (gf : Nat) (lb : Array Value) (Kp : World → World → Prop) (Z : Nat → Prop) (xs : List Value) (w0 : World) : Prop :=
  ∀ (l : Nat) (J Jx : Nat → World → Prop) (W : World), Below w0.heap.size w0 W → OwnFrom W.heap.size J → OwnFrom W.heap.size Jx →
    (∀ (k z : Nat) (V : World) (v : Value), Z z → J k V → J k (V.setCell ⟨z, 0, none⟩ v)) →
    (∀ (k : Nat) (x : Value) (V : World), xs[k]? = some x → J k V → W.heap.size ≤ V.heap.size → YieldAt Fence.wide 3 P l #[x] V fun e V' =>
      KeepsFrom W.heap.size V V' ∧ ((e = .returned (.bool true) ∧ J (k + 1) V' ∧ Kp V V') ∨ (e = .returned (.bool false) ∧ Jx (k + 1) V'))) →
    J 0 W → Calls P gf (#[.func (.yield l) #[] #[]] ++ lb) W fun e W' => (∃ v, e = .returned v) ∧ (J xs.length W' ∨ ∃ k, Jx k W')
/-- The ways in which a round's body may be left. -/
def goesK (B : Nat) (Kp : World → World → Prop) (I Ix : Nat → World → Prop) (k : Nat) (V : World) : Exit → Act → World → Prop
  | .normal, _, V' => KeepsFrom B V V' ∧ Kp V V' ∧ I k V'
  | .ret, _, V' => KeepsFrom B V V' ∧ Ix k V'
  | _, _, _ => False
theorem wp_givesK {P : Program} {g : Operand} {p : Tmp} {assign body : Code} {Q : Exit → Act → World → Prop} {a : Act} {w w0 : World} {gf : Nat} {Kp : World → World → Prop} {Z : Nat → Prop} {lb : Array Value} {xs : List Value}
    (hg : a.eval g = .func (.func gf) #[] lb) (eg : ∀ args W, (callFunc gf args).run P W = .ok (.enter gf args) W) (hseq : GivesK P gf lb Kp Z xs w0) (hb0 : Below w0.heap.size w0 w) (hK : RelK w.heap.size Kp)
    (I Ix : Nat → World → Prop) (hI : OwnFrom w.heap.size I) (hIx : OwnFrom w.heap.size Ix) (hZ : ∀ z, Z z → z < w.heap.size) (hIZ : ∀ (k z : Nat) (V : World) (v : Value), Z z → I k V → I k (V.setCell ⟨z, 0, none⟩ v)) (h0 : I 0 w) (after : Value → Act)
    (hassign : ∀ (l : Nat) (x : Value) (V : World) (K : Act → World → Prop), K (after x) V → assign.wpIn (Fence.wide.inRound l) 3 P (Exit.then K (fun _ _ _ => False)) { tmps := a.tmps.setIfInBounds p x, defers := [] } V)
    (hbody : ∀ (l k : Nat) (x : Value) (V : World), xs[k]? = some x → I k V → w.heap.size + 2 ≤ V.heap.size → body.wpIn (Fence.wide.inRound l) 3 P (goesK w.heap.size Kp I Ix (k + 1) V) (after x) V)
    (hdone : ∀ (V : World), I xs.length V → V.heap[w.heap.size]? = some (.deferred (some [])) → Q .normal { a with defers := { target := .collected w.heap.size, args := #[] } :: a.defers } V)
    (hstop : ∀ (k : Nat) (V : World), Ix k V → V.heap[w.heap.size]? = some (.deferred (some [])) → Code.ret.wpIn Fence.wide 4 P Q { a with defers := { target := .collected w.heap.size, args := #[] } :: a.defers } V) :
    (Code.rangeFunc g #[p] assign body).wpIn Fence.wide 4 P Q a w := by
  refine wpIn_rangeFunc fun fn _ => ?_
  obtain ⟨rec, hrec⟩ : ∃ rec : LoopState → Option Code → Loop, rec = fun s j => { state := s, pending := j, fn, tmps := a.tmps, params := #[p], assign, body, defers := w.heap.size } := ⟨_, rfl⟩
  obtain ⟨v0, hv0⟩ : ∃ v0, v0 = w.alloc (.deferred (some [])) := ⟨_, rfl⟩
  obtain ⟨v1, hv1⟩ : ∃ v1, v1 = v0.alloc (.loop (rec .ready none)) := ⟨_, rfl⟩
  have hz0 : v0.heap.size = w.heap.size + 1 := by rw [hv0, World.size_alloc]
  have hz1 : v1.heap.size = w.heap.size + 2 := by rw [hv1, World.size_alloc, hz0]
  have q1 : v1.heap[w.heap.size + 1]? = some (.loop (rec .ready none)) := by rw [← hz0, hv1]; exact World.alloc_heap_new v0 _
  have q0 : v1.heap[w.heap.size]? = some (.deferred (some [])) := by rw [hv1, Below.heap_alloc v0 _ _ (by omega), hv0]; exact World.alloc_heap_new w _
  have hb1 : Below w0.heap.size w0 v1 := by
    rw [hv1, hv0]; exact (hb0.alloc hb0.size _).alloc (by have := hb0.size; simp; omega) _
  have i1 : I 0 v1 := by rw [hv1, hv0]; exact hI.alloc _ (hI.alloc _ h0)
  have henter : (Instr.enterLoop fn a.tmps #[p] assign body Fence.wide.round).run P w = .ok (w.heap.size + 1, [{ target := .collected w.heap.size, args := #[] }]) v1 := by
    rw [hv1, hv0, hrec]; exact run_enterLoop_outer fn a.tmps #[p] assign body
  clear hv0 hv1
  refine ⟨w.heap.size + 1, [{ target := .collected w.heap.size, args := #[] }], v1, { target := .fn (.func gf) lb, args := #[.func (.yield (w.heap.size + 1)) #[] #[]] }, v1, gf, #[.func (.yield (w.heap.size + 1)) #[] #[]] ++ lb, v1, ?_, ?_, ?_, ?_, fun _ => by omega, ?_⟩
  · exact henter
  · simp only [resolve, hg]
    simp [go_sem]
  · intro f' _; trivial
  · simp [invoke, go_sem, eg]
  have kept : ∀ {A B : World} {row : Option Nat} {k : Nat} {o : Obj}, A.grownBy B row → (∀ r, row = some r → v1.heap.size ≤ r ∧ ∃ o : Obj, A.heap[r]? = some o ∧ o.isCells = false) → A.heap[k]? = some o → k < v1.heap.size → B.heap[k]? = some o :=
    fun hgr hr hk hlt => (hgr.block _ (Array.getElem?_eq_some_iff.1 hk).1 (fun e => by have := (hr _ e.symm).1; omega)).trans hk
  have up : ∀ {A : World} {row : Option Nat}, (∀ r, row = some r → v1.heap.size ≤ r ∧ ∃ o : Obj, A.heap[r]? = some o ∧ o.isCells = false) → (∀ r, row = some r → w.heap.size ≤ r ∧ ∃ o : Obj, A.heap[r]? = some o ∧ o.isCells = false) :=
    fun hr r e => ⟨by have := (hr r e).1; omega, (hr r e).2⟩
  have ownJ : OwnFrom v1.heap.size (fun (k : Nat) V => I k V ∧ V.heap[w.heap.size + 1]? = some (.loop (rec .ready none)) ∧ V.heap[w.heap.size]? = some (.deferred (some []))) :=
    fun k A B row h hgr hr => ⟨hI k A B row h.1 hgr (up hr), kept hgr hr h.2.1 (by omega), kept hgr hr h.2.2 (by omega)⟩
  have ownX : OwnFrom v1.heap.size (fun (k : Nat) V => Ix k V ∧ V.heap[w.heap.size + 1]? = some (.loop (rec .done (some .ret))) ∧ V.heap[w.heap.size]? = some (.deferred (some []))) :=
    fun k A B row h hgr hr => ⟨hIx k A B row h.1 hgr (up hr), kept hgr hr h.2.1 (by omega), kept hgr hr h.2.2 (by omega)⟩
  refine (callsIn_wide.2 (hseq (w.heap.size + 1) _ _ v1 hb1 ownJ ownX ?_ ?_ ⟨i1, q1, q0⟩)).mono ?_
  · -- what the iterator writes
    rintro k z V v hz ⟨hi, hl, hd⟩
    have := hZ z hz
    exact ⟨hIZ k z V v hz hi, (heap_setCell_other V _ _ _ (show w.heap.size + 1 ≠ z by omega)).trans hl, (heap_setCell_other V _ _ _ (show w.heap.size ≠ z by omega)).trans hd⟩
  · -- one round
    rintro k x V hk ⟨hi, hl, hd⟩ hz
    have hlt : w.heap.size + 1 < V.heap.size := (Array.getElem?_eq_some_iff.1 hl).1
    have hy : (Instr.yield (w.heap.size + 1) #[x]).run P V = .ok (.round (w.heap.size + 1) fn (a.tmps.setIfInBounds p x) assign body) V := by
      rw [run_yield (P := P) (args := #[x]) hl (by rw [hrec]; rfl), hrec]; simp
    have hbr : (Instr.beginRound (w.heap.size + 1)).run P V = .ok () (V.putObj (w.heap.size + 1) (.loop (rec .busy none))) := by
      rw [run_beginRound (P := P) hl (by rw [hrec]), hrec]
    refine ⟨fn, _, assign, body, hy, roundIn_of_wpIn trivial ?_⟩
    refine hassign _ x V _ ?_
    refine ⟨_, hbr, ?_⟩
    obtain ⟨U, hU⟩ : ∃ U, U = V.putObj (w.heap.size + 1) (.loop (rec .busy none)) := ⟨_, rfl⟩
    have e1 : U.heap[w.heap.size + 1]? = some (.loop (rec .busy none)) := by rw [hU, World.putObj_heap_same hlt]
    have e0 : U.heap[w.heap.size]? = some (.deferred (some [])) := by rw [hU, World.putObj_heap_other (by omega)]; exact hd
    have iU : I k U := by rw [hU]; exact hI.putObj _ hi (by omega) hl rfl
    have zU : w.heap.size + 2 ≤ U.heap.size := by rw [hU]; simp; omega
    have bU : Kp V U := by rw [hU]; exact hK.put V _ _ _ (by omega) hl rfl
    have kU : KeepsFrom v1.heap.size V U := by rw [hU]; exact KeepsFrom.of_grownBy (grownBy_putObj' _ _ _) (fun j e => by cases e; omega)
    rw [← hU]
    refine wpIn_mono (hbody _ k x U hk iU zU) ?_
    rintro e b U' h
    cases e with
    | normal =>
      obtain ⟨hkf, hbl, hi'⟩ := h
      have r1 := hkf.same _ _ (by omega) e1 rfl
      have r0 := hkf.same _ _ (Nat.le_refl _) e0 rfl
      have hend := run_endRound (P := P) none r1
      refine ⟨_, _, hend, (kU.trans (keepsUp hkf (by omega))).trans (KeepsFrom.of_grownBy (grownBy_putObj' _ _ _) (fun j e => by cases e; omega)), .inl ⟨rfl, ⟨hI.putObj _ hi' (by omega) r1 rfl, ?_, ?_⟩, hK.trans (hK.trans bU hbl) (hK.put U' _ _ _ (by omega) r1 rfl)⟩⟩
      · rw [World.putObj_heap_same (Array.getElem?_eq_some_iff.1 r1).1, hrec]; rfl
      · rw [World.putObj_heap_other (by omega)]; exact r0
    | ret =>
      obtain ⟨hkf, hi'⟩ := h
      have r1 := hkf.same _ _ (by omega) e1 rfl
      have r0 := hkf.same _ _ (Nat.le_refl _) e0 rfl
      have hend := run_endRound (P := P) (some .ret) r1
      refine ⟨_, _, hend, (kU.trans (keepsUp hkf (by omega))).trans (KeepsFrom.of_grownBy (grownBy_putObj' _ _ _) (fun j e => by cases e; omega)), .inr ⟨rfl, hIx.putObj _ hi' (by omega) r1 rfl, ?_, ?_⟩⟩
      · rw [World.putObj_heap_same (Array.getElem?_eq_some_iff.1 r1).1, hrec]; rfl
      · rw [World.putObj_heap_other (by omega)]; exact r0
    | exit id => exact h.elim
    | goto t => exact h.elim
    | panic c => exact h.elim
    | outgrown => exact h.elim
  · -- behind the iterator
    rintro e V ⟨⟨v, rfl⟩, (⟨hi, hl, hd⟩ | ⟨k, hi, hl, hd⟩)⟩
    · have hend := run_endLoop (P := P) hl (by rw [hrec]; simp)
      refine ⟨none, _, by rw [hend, hrec], hdone _ (hI.putObj _ hi (by omega) hl rfl) ?_⟩
      rw [World.putObj_heap_other (by omega)]; exact hd
    · have hend := run_endLoop (P := P) hl (by rw [hrec]; simp)
      refine ⟨some .ret, _, by rw [hend, hrec], hstop k _ (hIx.putObj _ hi (by omega) hl rfl) ?_⟩
      rw [World.putObj_heap_other (by omega)]; exact hd
/-- A round's word, at whatever room. -/
theorem roundRoom {m m' : Nat} {P : Program} {l : Nat} {f : FuncId} {tmps : Array Value} {assign body : Code} {w : World} {R : Ending → World → Prop} (h : RoundIn Fence.wide m P l f tmps assign body w R) : RoundIn Fence.wide m' P l f tmps assign body w R :=
  ⟨h.1, fun c cs _ => h.2 c cs (fun d hd => by cases hd)⟩
theorem grownNone {w w' : World} (b : Below w.heap.size w w') : w.grownBy w' none := ⟨b.os, b.tape, b.output, b.size, fun k hk _ => b.block k hk⟩
theorem ownOn {β : Type} {B : Nat} {J : β → World → Prop} (h : OwnFrom B J) {s : β} {w w' : World} (hs : J s w) (b : Below w.heap.size w w') : J s w' := h s w w' none hs (grownNone b) (fun r e => by cases e)
/-- What a round that writes into a builder keeps: all below C, and each block of cells that is neither the builder's nor a row of bytes. -/
def KeepT (e : TypeId) (C b : Nat) (V V' : World) : Prop := Below C V V' ∧ ∀ k o, V.heap[k]? = some o → o.isCells = true → k ≠ b → (∀ c fz, o ≠ .cells c e fz) → V'.heap[k]? = some o
theorem keepT_rel (e : TypeId) (C b B : Nat) (hC : C ≤ B) : RelK B (KeepT e C b) where
  refl := fun V => ⟨Below.refl _ _, fun _ _ h _ _ _ => h⟩
  trans := fun h k => ⟨h.1.trans k.1, fun i o hi hc hb ho => k.2 i o (h.2 i o hi hc hb ho) hc hb ho⟩
  put := fun V l o o' hB hl ho => ⟨(Below.refl _ V).grown (grownBy_putObj' V l o') (by have := (Array.getElem?_eq_some_iff.1 hl).1; omega) (fun k e => by cases e; omega), fun k x hk hc hb hx => by
    rw [World.putObj_heap_other (fun e => by subst e; rw [hl] at hk; cases hk; rw [ho] at hc; cases hc)]; exact hk⟩
/-- What a round keeps that leaves one block alone. -/
def KeepZ (z : Nat) (V V' : World) : Prop := V.heap.size ≤ V'.heap.size ∧ ∀ o, V.heap[z]? = some o → V'.heap[z]? = some o
theorem keepZ_rel (z B : Nat) (hz : z < B) : RelK B (KeepZ z) where
  refl := fun V => ⟨Nat.le_refl _, fun _ h => h⟩
  trans := fun h k => ⟨Nat.le_trans h.1 k.1, fun o ho => k.2 o (h.2 o ho)⟩
  put := fun V l o o' hB hl ho => ⟨by simp, fun x hx => by rw [World.putObj_heap_other (by omega)]; exact hx⟩
end Go.Proofs.YtlneiiljdghmjaaDoor
