/- A loop over a function that hands over an explicit list of values, one behind the other, till the loop says that it wants no more: the k-th round is handed the k-th value. The iterator may keep up to m blocks of its own, which the rounds leave alone. No condition but that the body is left by its end or by a return. -/
import Derived.RangeFuncBox
import Derived.RangeFuncLeaves
import Derived.RangeFuncCalls
import Derived.WalkKit
import Derived.OwnWalkIn
import Derived.TacticsInMore
import Derived.LoopNIn
import Derived.LoopIn
import Derived.Maps.AppendAt
namespace Go.Proofs.YtohfampfnhfnlaaDoor
open Go.RowKit
set_option linter.unusedVariables false

/-- What a round that goes on keeps: the cells of the blocks of S, and of the iterator's own m blocks from z on. -/
def KeptIt (S : Nat → Prop) (z m : Nat) (V V' : World) : Prop := Below 0 V V' ∧ ∀ (b : Nat) (o : Obj), (S b ∨ z ≤ b ∧ b < z + m) → V.heap[b]? = some o → o.isCells = true → V'.heap[b]? = some o
theorem KeptIt.trans {S : Nat → Prop} {z m : Nat} {A B C : World} (h : KeptIt S z m A B) (k : KeptIt S z m B C) : KeptIt S z m A C := ⟨h.1.trans k.1, fun b o h1 h3 h4 => k.2 b o h1 (h.2 b o h1 h3 h4) h4⟩
theorem keptIt_put {S : Nat → Prop} {z m : Nat} (V : World) (l : Nat) (o o' : Obj) (h : V.heap[l]? = some o) (hc : o.isCells = false) : KeptIt S z m V (V.putObj l o') :=
  ⟨(Below.refl 0 V).grown (grownBy_putObj' V l o') (Nat.zero_le _) (fun k e => Nat.zero_le _), fun b o2 h1 h3 h4 => by
    rw [World.putObj_heap_other (fun e => by subst e; rw [h] at h3; cases h3; rw [hc] at h4; cases h4)]; exact h3⟩
theorem keptIt_cell {S : Nat → Prop} {z m b o : Nat} {V V' : World} {v : Value} (h : KeptIt S z m V V') (hb : S b ∨ z ≤ b ∧ b < z + m) (hc : V.cell? ⟨b, o, none⟩ = some v) : V'.cell? ⟨b, o, none⟩ = some v := by
  obtain ⟨ob, ho, hcl⟩ := cells_of_cell hc
  have := h.2 b ob hb ho hcl
  rw [World.cell?_of_block (a := ⟨b, o, none⟩) (this.trans ho.symm)]; exact hc
theorem keeps_up {B C : Nat} {V V' : World} (h : KeepsFrom B V V') (hn : B ≤ C) : KeepsFrom C V V' := ⟨h.size, fun k o hB hk ho => h.same k o (by omega) hk ho⟩
/-- The iterator's promise: the values xs, one behind the other, or as many of them as are wanted. -/
def Gives (P : Program) (gf : Nat) (lb : Array Value) (m : Nat) (S : Nat → Prop) (xs : List Value) (w0 : World) : Prop :=
  ∀ (l : Nat) (J Jx : Nat → World → Prop) (W : World), Below w0.heap.size w0 W → OwnFrom W.heap.size J → OwnFrom W.heap.size Jx →
    (∀ (k : Nat) (x : Value) (V : World), xs[k]? = some x → J k V → W.heap.size + m ≤ V.heap.size → YieldAt Fence.wide 3 P l #[x] V fun e V' =>
      KeepsFrom W.heap.size V V' ∧ ((e = .returned (.bool true) ∧ J (k + 1) V' ∧ KeptIt S W.heap.size m V V') ∨ (e = .returned (.bool false) ∧ Jx (k + 1) V'))) →
    J 0 W → Calls P gf (#[.func (.yield l) #[] #[]] ++ lb) W fun e W' => (∃ v, e = .returned v) ∧ (J xs.length W' ∨ ∃ k, Jx k W')
/-- The ways in which a round's body may be left. -/
def goesX (B m : Nat) (S : Nat → Prop) (I Ix : Nat → World → Prop) (k : Nat) (V : World) : Exit → Act → World → Prop
  | .normal, _, V' => KeepsFrom B V V' ∧ KeptIt S (B + 2) m V V' ∧ I k V'
  | .ret, _, V' => KeepsFrom B V V' ∧ Ix k V'
  | _, _, _ => False
theorem wp_gives {P : Program} {g : Operand} {p : Tmp} {assign body : Code} {Q : Exit → Act → World → Prop} {a : Act} {w w0 : World} {gf m : Nat} {S : Nat → Prop} {lb : Array Value} {xs : List Value}
    (hg : a.eval g = .func (.func gf) #[] lb) (eg : ∀ args W, (callFunc gf args).run P W = .ok (.enter gf args) W) (hseq : Gives P gf lb m S xs w0) (hb0 : Below w0.heap.size w0 w)
    (I Ix : Nat → World → Prop) (hI : OwnFrom w.heap.size I) (hIx : OwnFrom w.heap.size Ix) (h0 : I 0 w) (after : Value → Act)
    (hassign : ∀ (l : Nat) (x : Value) (V : World) (K : Act → World → Prop), K (after x) V → assign.wpIn (Fence.wide.inRound l) 3 P (Exit.then K (fun _ _ _ => False)) { tmps := a.tmps.setIfInBounds p x, defers := [] } V)
    (hbody : ∀ (l k : Nat) (x : Value) (V : World), xs[k]? = some x → I k V → w.heap.size + 2 + m ≤ V.heap.size → body.wpIn (Fence.wide.inRound l) 3 P (goesX w.heap.size m S I Ix (k + 1) V) (after x) V)
    (hdone : ∀ (V : World), I xs.length V → V.heap[w.heap.size]? = some (.deferred (some [])) → Q .normal { a with defers := { target := .collected w.heap.size, args := #[] } :: a.defers } V)
    (hstop : ∀ (k : Nat) (V : World), Ix k V → V.heap[w.heap.size]? = some (.deferred (some [])) → Code.ret.wpIn Fence.wide 4 P Q { a with defers := { target := .collected w.heap.size, args := #[] } :: a.defers } V) :
    (Code.rangeFunc g #[p] assign body).wpIn Fence.wide 4 P Q a w := by
  refine wpIn_rangeFunc fun fn _ => ?_
  obtain ⟨rec, hrec⟩ : ∃ rec : LoopState → Option Code → Loop, rec = fun s j => { state := s, pending := j, fn, tmps := a.tmps, params := #[p], assign, body, defers := w.heap.size } := ⟨_, rfl⟩
  obtain ⟨v0, hv0⟩ : ∃ v0, v0 = w.alloc (.deferred (some [])) := ⟨_, rfl⟩
  obtain ⟨v1, hv1⟩ : ∃ v1, v1 = v0.alloc (.loop (rec .ready none)) := ⟨_, rfl⟩
  have hz0 : v0.heap.size = w.heap.size + 1 := by rw [hv0, World.size_alloc]
  have hz1 : v1.heap.size = w.heap.size + 2 := by rw [hv1, World.size_alloc, hz0]
  have q1 : v1.heap[w.heap.size + 1]? = some (.loop (rec .ready none)) := by rw [← hz0, hv1]; exact World.alloc_heap_new v0 _
  have q0 : v1.heap[w.heap.size]? = some (.deferred (some [])) := by rw [hv1, Below.heap_alloc v0 _ _ (by omega), hv0]; exact World.alloc_heap_new w _
  have hb1 : Below w0.heap.size w0 v1 := by
    rw [hv1, hv0]; exact (hb0.alloc hb0.size _).alloc (by have := hb0.size; simp; omega) _
  have i1 : I 0 v1 := by rw [hv1, hv0]; exact hI.alloc _ (hI.alloc _ h0)
  have henter : (Instr.enterLoop fn a.tmps #[p] assign body Fence.wide.round).run P w = .ok (w.heap.size + 1, [{ target := .collected w.heap.size, args := #[] }]) v1 := by
    rw [hv1, hv0, hrec]; exact run_enterLoop_outer fn a.tmps #[p] assign body
  clear hv0 hv1
  refine ⟨w.heap.size + 1, [{ target := .collected w.heap.size, args := #[] }], v1, { target := .fn (.func gf) lb, args := #[.func (.yield (w.heap.size + 1)) #[] #[]] }, v1, gf, #[.func (.yield (w.heap.size + 1)) #[] #[]] ++ lb, v1, ?_, ?_, ?_, ?_, fun _ => by omega, ?_⟩
  · exact henter
  · simp only [resolve, hg]
    simp [go_sem]
  · intro f' _; trivial
  · simp [invoke, go_sem, eg]
  have kept : ∀ {A B : World} {row : Option Nat} {k : Nat} {o : Obj}, A.grownBy B row → (∀ r, row = some r → v1.heap.size ≤ r ∧ ∃ o : Obj, A.heap[r]? = some o ∧ o.isCells = false) → A.heap[k]? = some o → k < v1.heap.size → B.heap[k]? = some o :=
    fun hgr hr hk hlt => (hgr.block _ (Array.getElem?_eq_some_iff.1 hk).1 (fun e => by have := (hr _ e.symm).1; omega)).trans hk
  have up : ∀ {A : World} {row : Option Nat}, (∀ r, row = some r → v1.heap.size ≤ r ∧ ∃ o : Obj, A.heap[r]? = some o ∧ o.isCells = false) → (∀ r, row = some r → w.heap.size ≤ r ∧ ∃ o : Obj, A.heap[r]? = some o ∧ o.isCells = false) :=
    fun hr r e => ⟨by have := (hr r e).1; omega, (hr r e).2⟩
  have ownJ : OwnFrom v1.heap.size (fun (k : Nat) V => I k V ∧ V.heap[w.heap.size + 1]? = some (.loop (rec .ready none)) ∧ V.heap[w.heap.size]? = some (.deferred (some []))) :=
    fun k A B row h hgr hr => ⟨hI k A B row h.1 hgr (up hr), kept hgr hr h.2.1 (by omega), kept hgr hr h.2.2 (by omega)⟩
  have ownX : OwnFrom v1.heap.size (fun (k : Nat) V => Ix k V ∧ V.heap[w.heap.size + 1]? = some (.loop (rec .done (some .ret))) ∧ V.heap[w.heap.size]? = some (.deferred (some []))) :=
    fun k A B row h hgr hr => ⟨hIx k A B row h.1 hgr (up hr), kept hgr hr h.2.1 (by omega), kept hgr hr h.2.2 (by omega)⟩
  refine (callsIn_wide.2 (hseq (w.heap.size + 1) _ _ v1 hb1 ownJ ownX ?_ ⟨i1, q1, q0⟩)).mono ?_
  · -- one round
    rintro k x V hk ⟨hi, hl, hd⟩ hz
    have hlt : w.heap.size + 1 < V.heap.size := (Array.getElem?_eq_some_iff.1 hl).1
    have hy : (Instr.yield (w.heap.size + 1) #[x]).run P V = .ok (.round (w.heap.size + 1) fn (a.tmps.setIfInBounds p x) assign body) V := by
      rw [run_yield (P := P) (args := #[x]) hl (by rw [hrec]; rfl), hrec]; simp
    have hbr : (Instr.beginRound (w.heap.size + 1)).run P V = .ok () (V.putObj (w.heap.size + 1) (.loop (rec .busy none))) := by
      rw [run_beginRound (P := P) hl (by rw [hrec]), hrec]
    refine ⟨fn, _, assign, body, hy, roundIn_of_wpIn trivial ?_⟩
    refine hassign _ x V _ ?_
    refine ⟨_, hbr, ?_⟩
    obtain ⟨U, hU⟩ : ∃ U, U = V.putObj (w.heap.size + 1) (.loop (rec .busy none)) := ⟨_, rfl⟩
    have e1 : U.heap[w.heap.size + 1]? = some (.loop (rec .busy none)) := by rw [hU, World.putObj_heap_same hlt]
    have e0 : U.heap[w.heap.size]? = some (.deferred (some [])) := by rw [hU, World.putObj_heap_other (by omega)]; exact hd
    have iU : I k U := by rw [hU]; exact hI.putObj _ hi (by omega) hl rfl
    have zU : w.heap.size + 2 + m ≤ U.heap.size := by rw [hU]; simp; omega
    have bU : KeptIt S v1.heap.size m V U := by rw [hU]; exact keptIt_put V _ _ _ hl rfl
    have kU : KeepsFrom v1.heap.size V U := by rw [hU]; exact KeepsFrom.of_grownBy (grownBy_putObj' _ _ _) (fun j e => by cases e; omega)
    rw [← hU]
    refine wpIn_mono (hbody _ k x U hk iU zU) ?_
    rintro e b U' h
    cases e with
    | normal =>
      obtain ⟨hkf, hbl, hi'⟩ := h
      have r1 := hkf.same _ _ (by omega) e1 rfl
      have r0 := hkf.same _ _ (Nat.le_refl _) e0 rfl
      have hend := run_endRound (P := P) none r1
      rw [← hz1] at hbl
      refine ⟨_, _, hend, (kU.trans (keeps_up hkf (by omega))).trans (KeepsFrom.of_grownBy (grownBy_putObj' _ _ _) (fun j e => by cases e; omega)), .inl ⟨rfl, ⟨hI.putObj _ hi' (by omega) r1 rfl, ?_, ?_⟩, (bU.trans hbl).trans (keptIt_put U' _ _ _ r1 rfl)⟩⟩
      · rw [World.putObj_heap_same (Array.getElem?_eq_some_iff.1 r1).1, hrec]; rfl
      · rw [World.putObj_heap_other (by omega)]; exact r0
    | ret =>
      obtain ⟨hkf, hi'⟩ := h
      have r1 := hkf.same _ _ (by omega) e1 rfl
      have r0 := hkf.same _ _ (Nat.le_refl _) e0 rfl
      have hend := run_endRound (P := P) (some .ret) r1
      refine ⟨_, _, hend, (kU.trans (keeps_up hkf (by omega))).trans (KeepsFrom.of_grownBy (grownBy_putObj' _ _ _) (fun j e => by cases e; omega)), .inr ⟨rfl, hIx.putObj _ hi' (by omega) r1 rfl, ?_, ?_⟩⟩
      · rw [World.putObj_heap_same (Array.getElem?_eq_some_iff.1 r1).1, hrec]; rfl
      · rw [World.putObj_heap_other (by omega)]; exact r0
    | exit id => exact h.elim
    | goto t => exact h.elim
    | panic c => exact h.elim
    | outgrown => exact h.elim
  · -- behind the iterator
    rintro e V ⟨⟨v, rfl⟩, (⟨hi, hl, hd⟩ | ⟨k, hi, hl, hd⟩)⟩
    · have hend := run_endLoop (P := P) hl (by rw [hrec]; simp)
      refine ⟨none, _, by rw [hend, hrec], hdone _ (hI.putObj _ hi (by omega) hl rfl) ?_⟩
      rw [World.putObj_heap_other (by omega)]; exact hd
    · have hend := run_endLoop (P := P) hl (by rw [hrec]; simp)
      refine ⟨some .ret, _, by rw [hend, hrec], hstop k _ (hIx.putObj _ hi (by omega) hl rfl) ?_⟩
      rw [World.putObj_heap_other (by omega)]; exact hd
/-- A round's word, at whatever room. -/
theorem round_room {m m' : Nat} {P : Program} {l : Nat} {f : FuncId} {tmps : Array Value} {assign body : Code} {w : World} {R : Ending → World → Prop} (h : RoundIn Fence.wide m P l f tmps assign body w R) : RoundIn Fence.wide m' P l f tmps assign body w R :=
  ⟨h.1, fun c cs _ => h.2 c cs (fun d hd => by cases hd)⟩
/-- Marks of loops among the deferred calls of a function: blocks from B on, below C, each below the one ahead of it. -/
def Marks (B : Nat) : Nat → List Deferred → World → Prop
  | _, [], _ => True
  | C, d :: ds, W => ∃ D, d = { target := .collected D, args := #[] } ∧ B ≤ D ∧ D < C ∧ W.heap[D]? = some (.deferred (some [])) ∧ Marks B D ds W
theorem Marks.keep {B : Nat} {W W' : World} : ∀ {ds : List Deferred} {C : Nat}, Marks B C ds W → (∀ D, B ≤ D → D < C → W.heap[D]? = some (.deferred (some [])) → W'.heap[D]? = some (.deferred (some []))) → Marks B C ds W'
  | [], _, _, _ => trivial
  | d :: ds, C, ⟨D, e, hB, hC, hh, hr⟩, hk => ⟨D, e, hB, hC, hk D hB hC hh, hr.keep fun D' h1 h2 h3 => hk D' h1 (by omega) h3⟩
theorem Marks.raise {B C C' : Nat} {W : World} (hC : C ≤ C') : ∀ {ds : List Deferred}, Marks B C ds W → Marks B C' ds W
  | [], _ => trivial
  | d :: ds, ⟨D, e, hB, hD, hh, hr⟩ => ⟨D, e, hB, by omega, hh, hr⟩
theorem Marks.push {B D : Nat} {W : World} {ds : List Deferred} (h : Marks B D ds W) (hB : B ≤ D) (hh : W.heap[D]? = some (.deferred (some []))) : Marks B (D + 1) ({ target := .collected D, args := #[] } :: ds) W := ⟨D, rfl, hB, Nat.lt_succ_self _, hh, h⟩
theorem marks_own (B C B' : Nat) (ds : List Deferred) (hC : C ≤ B') : OwnFrom B' (fun (_ : Unit) W => Marks B C ds W) := fun s W W' row h hg hr =>
  h.keep fun D h1 h2 h3 => (hg.block D (Array.getElem?_eq_some_iff.1 h3).1 (fun e => by have := (hr D e.symm).1; omega)).trans h3
/-- What a predicate abides: blocks that are no cells, at or beyond B, are turned. -/
def Turned (B : Nat) (W W' : World) : Prop := ∀ I : Unit → World → Prop, OwnFrom B I → I () W → I () W'
theorem Turned.refl (B : Nat) (W : World) : Turned B W W := fun _ _ h => h
theorem leaves_marks {B n : Nat} {F : Fence} {P : Program} {fn : Func} {tmps : Array Value} {R : Ending → World → Prop} : ∀ (ds : List Deferred) (C : Nat) (W : World), Marks B C ds W →
    (∀ W', Turned B W W' → LeavesIn F n P fn tmps R [] .returning W') → LeavesInM F n P fn tmps R ds .returning W
  | [], _, W, _, h => h W (Turned.refl _ _)
  | d :: ds, C, W, ⟨D, e, hB, hC, hh, hr⟩, h => by
    subst e
    refine ⟨by simp, .inl ⟨D, _, rfl, run_takeDeferred hh, leaves_marks ds D _ ?_ fun W' hW' => h W' fun I hI hi => hW' I hI (hI.putObj _ hi hB hh rfl)⟩⟩
    exact hr.keep fun D' _ h2 h3 => by rw [World.putObj_heap_other (by omega)]; exact h3
end Go.Proofs.YtohfampfnhfnlaaDoor
