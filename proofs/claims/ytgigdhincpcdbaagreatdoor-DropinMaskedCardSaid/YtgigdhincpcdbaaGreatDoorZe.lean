/- A loop over a function that hands over an explicit list of pairs, one behind the other, and that keeps boxes of its own; else as the law for single values. A region that draws its order, whose last operation but one stands behind all others, the last one behind it: the others yield one value each, whatever the order, in every world of a class; then the last one is run. No program. Condition: no guards. Which runes are white space, as the landed package asks the library: a rune is sought among three bytes. Conditions: the library's two tables lie in their variables, where it is said. -/
import Derived.Test.YtgigdhincpcdbaaGreatDoorZa
import Derived.OrdersIn
import Derived.Shelf.Strings.FuncGrows
import Derived.Deep.LoopGhost
import Derived.Deep.QuietTactic
import Derived.BigQuiet
import Derived.WalkSmall
import Derived.Scope
namespace Go.Proofs.YtgigdhincpcdbaaGreatDoor
open Go.RowKit
set_option linter.unusedVariables false

/-- What a round keeps of the function that it is handed its pair by: each block from B on that is of a type of Ty. -/
def KeepY (Ty : TypeId → Prop) (B : Nat) (V V' : World) : Prop := V.heap.size ≤ V'.heap.size ∧ ∀ z c t fz, B ≤ z → V.heap[z]? = some (.cells c t fz) → Ty t → V'.heap[z]? = some (.cells c t fz)
theorem keepY_mono {Ty : TypeId → Prop} {B C : Nat} {V V' : World} (h : B ≤ C) (k : KeepY Ty B V V') : KeepY Ty C V V' := ⟨k.1, fun z c t fz hz hc ht => k.2 z c t fz (Nat.le_trans h hz) hc ht⟩
theorem keepY_rel (Ty : TypeId → Prop) (B C : Nat) : RelK C (KeepY Ty B) where
  refl := fun V => ⟨Nat.le_refl _, fun _ _ _ _ _ h _ => h⟩
  trans := fun h k => ⟨Nat.le_trans h.1 k.1, fun z c t fz hz hc ht => k.2 z c t fz hz (h.2 z c t fz hz hc ht) ht⟩
  put := fun V l o o' hB hl ho => ⟨by simp, fun z c t fz hz hc ht => by
    rw [World.putObj_heap_other (fun e => by subst e; rw [hl] at hc; cases hc; cases ho)]; exact hc⟩
theorem keepY_below {Ty : TypeId → Prop} {B : Nat} {V V' : World} (h : Below V.heap.size V V') : KeepY Ty B V V' := ⟨h.size, fun z c t fz _ hc _ => (h.block z (Array.getElem?_eq_some_iff.1 hc).1).trans hc⟩
theorem keepY_box {Ty : TypeId → Prop} {B z : Nat} {V V' : World} {t : TypeId} {v : Value} (k : KeepY Ty B V V') (hz : B ≤ z) (ht : Ty t) (h : Boxed V z t v) : Boxed V' z t v := k.2 z _ t _ hz h ht
/-- The iterator's promise: the pairs xs, one behind the other, or as many of them as are wanted. It writes no cells but those of blocks of its own, of the types of Ty. -/
def GivesP (P : Program) (gf : Nat) (lb : Array Value) (Ty : TypeId → Prop) (xs : List (Value × Value)) (w0 : World) : Prop :=
  ∀ (l : Nat) (J Jx : Nat → World → Prop) (W : World), Below w0.heap.size w0 W → OwnFrom W.heap.size J → OwnFrom W.heap.size Jx →
    (∀ (k z : Nat) (V : World) (v : Value) (c : Array Value) (t : TypeId) (fz : Nat × Nat), W.heap.size ≤ z → V.heap[z]? = some (.cells c t fz) → Ty t → J k V → J k (V.setCell ⟨z, 0, none⟩ v)) →
    (∀ (k : Nat) (x : Value × Value) (V : World), xs[k]? = some x → J k V → W.heap.size ≤ V.heap.size → YieldAt Fence.wide 3 P l #[x.1, x.2] V fun e V' =>
      KeepsFrom W.heap.size V V' ∧ ((e = .returned (.bool true) ∧ J (k + 1) V' ∧ KeepY Ty W.heap.size V V') ∨ (e = .returned (.bool false) ∧ Jx (k + 1) V'))) →
    J 0 W → Calls P gf (#[.func (.yield l) #[] #[]] ++ lb) W fun e W' => (∃ v, e = .returned v) ∧ (J xs.length W' ∨ ∃ k, Jx k W')
theorem wp_givesP {P : Program} {g : Operand} {p q : Tmp} {assign body : Code} {Q : Exit → Act → World → Prop} {a : Act} {w w0 : World} {gf : Nat} {Ty : TypeId → Prop} {lb : Array Value} {xs : List (Value × Value)}
    (hg : a.eval g = .func (.func gf) #[] lb) (eg : ∀ args W, (callFunc gf args).run P W = .ok (.enter gf args) W) (hseq : GivesP P gf lb Ty xs w0) (hb0 : Below w0.heap.size w0 w)
    (I Ix : Nat → World → Prop) (hI : OwnFrom w.heap.size I) (hIx : OwnFrom w.heap.size Ix) (hIZ : ∀ (k z : Nat) (V : World) (v : Value) (c : Array Value) (t : TypeId) (fz : Nat × Nat), w.heap.size + 2 ≤ z → V.heap[z]? = some (.cells c t fz) → Ty t → I k V → I k (V.setCell ⟨z, 0, none⟩ v)) (h0 : I 0 w) (after : Value × Value → Act)
    (hassign : ∀ (l : Nat) (x : Value × Value) (V : World) (K : Act → World → Prop), K (after x) V → assign.wpIn (Fence.wide.inRound l) 3 P (Exit.then K (fun _ _ _ => False)) { tmps := (a.tmps.setIfInBounds p x.1).setIfInBounds q x.2, defers := [] } V)
    (hbody : ∀ (l k : Nat) (x : Value × Value) (V : World), xs[k]? = some x → I k V → w.heap.size + 2 ≤ V.heap.size → body.wpIn (Fence.wide.inRound l) 3 P (goesK w.heap.size (KeepY Ty w.heap.size) I Ix (k + 1) V) (after x) V)
    (hdone : ∀ (V : World), I xs.length V → V.heap[w.heap.size]? = some (.deferred (some [])) → Q .normal { a with defers := { target := .collected w.heap.size, args := #[] } :: a.defers } V)
    (hstop : ∀ (k : Nat) (V : World), Ix k V → V.heap[w.heap.size]? = some (.deferred (some [])) → Code.ret.wpIn Fence.wide 4 P Q { a with defers := { target := .collected w.heap.size, args := #[] } :: a.defers } V) :
    (Code.rangeFunc g #[p, q] assign body).wpIn Fence.wide 4 P Q a w := by
  refine wpIn_rangeFunc fun fn _ => ?_
  obtain ⟨rec, hrec⟩ : ∃ rec : LoopState → Option Code → Loop, rec = fun s j => { state := s, pending := j, fn, tmps := a.tmps, params := #[p, q], assign, body, defers := w.heap.size } := ⟨_, rfl⟩
  obtain ⟨v0, hv0⟩ : ∃ v0, v0 = w.alloc (.deferred (some [])) := ⟨_, rfl⟩
  obtain ⟨v1, hv1⟩ : ∃ v1, v1 = v0.alloc (.loop (rec .ready none)) := ⟨_, rfl⟩
  have hz0 : v0.heap.size = w.heap.size + 1 := by rw [hv0, World.size_alloc]
  have hz1 : v1.heap.size = w.heap.size + 2 := by rw [hv1, World.size_alloc, hz0]
  have q1 : v1.heap[w.heap.size + 1]? = some (.loop (rec .ready none)) := by rw [← hz0, hv1]; exact World.alloc_heap_new v0 _
  have q0 : v1.heap[w.heap.size]? = some (.deferred (some [])) := by rw [hv1, Below.heap_alloc v0 _ _ (by omega), hv0]; exact World.alloc_heap_new w _
  have hb1 : Below w0.heap.size w0 v1 := by
    rw [hv1, hv0]; exact (hb0.alloc hb0.size _).alloc (by have := hb0.size; simp; omega) _
  have i1 : I 0 v1 := by rw [hv1, hv0]; exact hI.alloc _ (hI.alloc _ h0)
  have henter : (Instr.enterLoop fn a.tmps #[p, q] assign body Fence.wide.round).run P w = .ok (w.heap.size + 1, [{ target := .collected w.heap.size, args := #[] }]) v1 := by
    rw [hv1, hv0, hrec]; exact run_enterLoop_outer fn a.tmps #[p, q] assign body
  have hK := keepY_rel Ty v1.heap.size w.heap.size
  clear hv0 hv1
  refine ⟨w.heap.size + 1, [{ target := .collected w.heap.size, args := #[] }], v1, { target := .fn (.func gf) lb, args := #[.func (.yield (w.heap.size + 1)) #[] #[]] }, v1, gf, #[.func (.yield (w.heap.size + 1)) #[] #[]] ++ lb, v1, ?_, ?_, ?_, ?_, fun _ => by omega, ?_⟩
  · exact henter
  · simp only [resolve, hg]
    simp [go_sem]
  · intro f' _; trivial
  · simp [invoke, go_sem, eg]
  have kept : ∀ {A B : World} {row : Option Nat} {k : Nat} {o : Obj}, A.grownBy B row → (∀ r, row = some r → v1.heap.size ≤ r ∧ ∃ o : Obj, A.heap[r]? = some o ∧ o.isCells = false) → A.heap[k]? = some o → k < v1.heap.size → B.heap[k]? = some o :=
    fun hgr hr hk hlt => (hgr.block _ (Array.getElem?_eq_some_iff.1 hk).1 (fun e => by have := (hr _ e.symm).1; omega)).trans hk
  have up : ∀ {A : World} {row : Option Nat}, (∀ r, row = some r → v1.heap.size ≤ r ∧ ∃ o : Obj, A.heap[r]? = some o ∧ o.isCells = false) → (∀ r, row = some r → w.heap.size ≤ r ∧ ∃ o : Obj, A.heap[r]? = some o ∧ o.isCells = false) :=
    fun hr r e => ⟨by have := (hr r e).1; omega, (hr r e).2⟩
  have ownJ : OwnFrom v1.heap.size (fun (k : Nat) V => I k V ∧ V.heap[w.heap.size + 1]? = some (.loop (rec .ready none)) ∧ V.heap[w.heap.size]? = some (.deferred (some []))) :=
    fun k A B row h hgr hr => ⟨hI k A B row h.1 hgr (up hr), kept hgr hr h.2.1 (by omega), kept hgr hr h.2.2 (by omega)⟩
  have ownX : OwnFrom v1.heap.size (fun (k : Nat) V => Ix k V ∧ V.heap[w.heap.size + 1]? = some (.loop (rec .done (some .ret))) ∧ V.heap[w.heap.size]? = some (.deferred (some []))) :=
    fun k A B row h hgr hr => ⟨hIx k A B row h.1 hgr (up hr), kept hgr hr h.2.1 (by omega), kept hgr hr h.2.2 (by omega)⟩
  refine (callsIn_wide.2 (hseq (w.heap.size + 1) _ _ v1 hb1 ownJ ownX ?_ ?_ ⟨i1, q1, q0⟩)).mono ?_
  · -- what the iterator writes
    rintro k z V v c t fz hz hc ht ⟨hi, hl, hd⟩
    exact ⟨hIZ k z V v c t fz (by omega) hc ht hi, (heap_setCell_other V _ _ _ (show w.heap.size + 1 ≠ z by omega)).trans hl, (heap_setCell_other V _ _ _ (show w.heap.size ≠ z by omega)).trans hd⟩
  · -- one round
    rintro k x V hk ⟨hi, hl, hd⟩ hz
    have hlt : w.heap.size + 1 < V.heap.size := (Array.getElem?_eq_some_iff.1 hl).1
    have hy : (Instr.yield (w.heap.size + 1) #[x.1, x.2]).run P V = .ok (.round (w.heap.size + 1) fn ((a.tmps.setIfInBounds p x.1).setIfInBounds q x.2) assign body) V := by
      rw [run_yield (P := P) (args := #[x.1, x.2]) hl (by rw [hrec]; rfl), hrec]; simp
    have hbr : (Instr.beginRound (w.heap.size + 1)).run P V = .ok () (V.putObj (w.heap.size + 1) (.loop (rec .busy none))) := by
      rw [run_beginRound (P := P) hl (by rw [hrec]), hrec]
    refine ⟨fn, _, assign, body, hy, roundIn_of_wpIn trivial ?_⟩
    refine hassign _ x V _ ?_
    refine ⟨_, hbr, ?_⟩
    obtain ⟨U, hU⟩ : ∃ U, U = V.putObj (w.heap.size + 1) (.loop (rec .busy none)) := ⟨_, rfl⟩
    have e1 : U.heap[w.heap.size + 1]? = some (.loop (rec .busy none)) := by rw [hU, World.putObj_heap_same hlt]
    have e0 : U.heap[w.heap.size]? = some (.deferred (some [])) := by rw [hU, World.putObj_heap_other (by omega)]; exact hd
    have iU : I k U := by rw [hU]; exact hI.putObj _ hi (by omega) hl rfl
    have zU : w.heap.size + 2 ≤ U.heap.size := by rw [hU]; simp; omega
    have bU : KeepY Ty v1.heap.size V U := by rw [hU]; exact hK.put V _ _ _ (by omega) hl rfl
    have kU : KeepsFrom v1.heap.size V U := by rw [hU]; exact KeepsFrom.of_grownBy (grownBy_putObj' _ _ _) (fun j e => by cases e; omega)
    rw [← hU]
    refine wpIn_mono (hbody _ k x U hk iU zU) ?_
    rintro e b U' h
    cases e with
    | normal =>
      obtain ⟨hkf, hbl, hi'⟩ := h
      have r1 := hkf.same _ _ (by omega) e1 rfl
      have r0 := hkf.same _ _ (Nat.le_refl _) e0 rfl
      have hend := run_endRound (P := P) none r1
      refine ⟨_, _, hend, (kU.trans (keepsUp hkf (by omega))).trans (KeepsFrom.of_grownBy (grownBy_putObj' _ _ _) (fun j e => by cases e; omega)), .inl ⟨rfl, ⟨hI.putObj _ hi' (by omega) r1 rfl, ?_, ?_⟩, hK.trans (hK.trans bU (keepY_mono (by omega) hbl)) (hK.put U' _ _ _ (by omega) r1 rfl)⟩⟩
      · rw [World.putObj_heap_same (Array.getElem?_eq_some_iff.1 r1).1, hrec]; rfl
      · rw [World.putObj_heap_other (by omega)]; exact r0
    | ret =>
      obtain ⟨hkf, hi'⟩ := h
      have r1 := hkf.same _ _ (by omega) e1 rfl
      have r0 := hkf.same _ _ (Nat.le_refl _) e0 rfl
      have hend := run_endRound (P := P) (some .ret) r1
      refine ⟨_, _, hend, (kU.trans (keepsUp hkf (by omega))).trans (KeepsFrom.of_grownBy (grownBy_putObj' _ _ _) (fun j e => by cases e; omega)), .inr ⟨rfl, hIx.putObj _ hi' (by omega) r1 rfl, ?_, ?_⟩⟩
      · rw [World.putObj_heap_same (Array.getElem?_eq_some_iff.1 r1).1, hrec]; rfl
      · rw [World.putObj_heap_other (by omega)]; exact r0
    | exit id => exact h.elim
    | goto t => exact h.elim
    | panic c => exact h.elim
    | outgrown => exact h.elim
  · -- behind the iterator
    rintro e V ⟨⟨v, rfl⟩, (⟨hi, hl, hd⟩ | ⟨k, hi, hl, hd⟩)⟩
    · have hend := run_endLoop (P := P) hl (by rw [hrec]; simp)
      refine ⟨none, _, by rw [hend, hrec], hdone _ (hI.putObj _ hi (by omega) hl rfl) ?_⟩
      rw [World.putObj_heap_other (by omega)]; exact hd
    · have hend := run_endLoop (P := P) hl (by rw [hrec]; simp)
      refine ⟨some .ret, _, by rw [hend, hrec], hstop k _ (hIx.putObj _ hi (by omega) hl rfl) ?_⟩
      rw [World.putObj_heap_other (by omega)]; exact hd
end Go.Proofs.YtgigdhincpcdbaaGreatDoor
namespace Go.Proofs.YtgigdhincpcdbaaGreatDoor
open Go
set_option linter.unusedVariables false

theorem filter_less {p q : Nat → Bool} {i : Nat} (hp : p i = true) (hq : q i = false) : ∀ {l : List Nat}, l.Nodup → i ∈ l → (∀ j, j ≠ i → q j = p j) → (l.filter q).length + 1 = (l.filter p).length
  | [], _, h, _ => by cases h
  | x :: l, hn, h, he => by
    rw [List.nodup_cons] at hn
    by_cases hx : x = i
    · subst hx
      rw [List.filter_cons_of_pos hp, List.filter_cons_of_neg (by rw [hq]; simp), List.length_cons]
      rw [List.filter_congr (fun j hj => he j (fun e => hn.1 (e ▸ hj)))]
    · have hi : i ∈ l := (List.mem_cons.1 h).resolve_left (fun e => hx e.symm)
      have ih := filter_less hp hq hn.2 hi he
      cases hpx : p x with
      | true =>
        rw [List.filter_cons_of_pos hpx, List.filter_cons_of_pos (by rw [he x hx]; exact hpx), List.length_cons, List.length_cons, ih]
      | false =>
        rw [List.filter_cons_of_neg (p := q) (by rw [he x hx, hpx]; simp), List.filter_cons_of_neg (p := p) (by rw [hpx]; simp)]
        exact ih
theorem put_same {a : Act} {d : Nat} {v : Value} (h : d < a.tmps.size) : (a.put (some d) v).tmps.getD d undef = v := by
  simp [Act.put, Array.getD_eq_getD_getElem?, h]
theorem put_other {a : Act} {d s : Nat} {v : Value} (h : d ≠ s) : (a.put (some d) v).tmps.getD s undef = a.tmps.getD s undef := by
  simp [Act.put, Array.getD_eq_getD_getElem?, h]
theorem put_size {a : Act} {d : Nat} {v : Value} : (a.put (some d) v).tmps.size = a.tmps.size := by simp [Act.put]
/-- What is asked of the region's shape, by reckoning. -/
def lastB2 (ops : Array Oper) (last : Nat) (D : Nat → Nat) : Bool :=
  ops.size == last + 2 && ops.all (fun o => o.guard.isNone) &&
  ((ops[last + 1]?).map (fun o => o.after.any fun e => Region.binds .any e && e.on == last)).getD false &&
  ((List.range last).all fun i => (List.range (last + 1)).any fun j => decide (i < j) && ((ops[j]?).map (fun o => o.after.any fun e => Region.binds .any e && e.on == i)).getD false) &&
  ((List.range ops.size).all fun i => ((ops[i]?).map (fun o => o.dst == some (D i) && o.after.all fun e => !Region.binds .any e || decide (e.on < i))).getD false)
theorem region_last2 {F : Fence} {n : Nat} {P : Program} {id : Nat} {ops : Array Oper} {Q : Exit → Act → World → Prop} {a : Act} {w : World} (hm : P.follows .mixedOrders = true) (last : Nat) (D : Nat → Nat) (hB : lastB2 ops last D = true)
    (hD : ∀ i j, D i = D j → i = j) (hin : ∀ i, i ≤ last → D i < a.tmps.size) (vals : Nat → Value) (C : World → Prop) (hC : C { w with drawn := w.drawn + 1 })
    (hop : ∀ i o, i < last → ops[i]? = some o → ∀ a' w', C w' → (∀ s, (∀ j, j ≤ last → D j ≠ s) → a'.tmps.getD s undef = a.tmps.getD s undef) → (∀ e ∈ o.after, Region.binds .any e = true → a'.tmps.getD (D e.on) undef = vals e.on) → ∀ K : Act → World → Prop, (∀ w'', C w'' → K (a'.put o.dst (vals i)) w'') → o.wpIn F n P a' w' K Q)
    (hlast : ∀ o o2, ops[last]? = some o → ops[last + 1]? = some o2 → ∀ a' w', C w' → (∀ s, (∀ j, j ≤ last → D j ≠ s) → a'.tmps.getD s undef = a.tmps.getD s undef) → (∀ j, j < last → a'.tmps.getD (D j) undef = vals j) → a'.tmps.size = a.tmps.size → ∀ K : Act → World → Prop, (∀ a'' w'', (∀ K2 : Act → World → Prop, (∀ a3 w3, Q .normal a3 w3 → K2 a3 w3) → o2.wpIn F n P a'' w'' K2 Q) → K a'' w'') → o.wpIn F n P a' w' K Q) :
    (Code.region id ops true).wpIn F n P Q a w := by
  unfold lastB2 at hB
  rw [Bool.and_eq_true, Bool.and_eq_true, Bool.and_eq_true, Bool.and_eq_true, beq_iff_eq, Array.all_eq_true_iff_forall_mem, List.all_eq_true, List.all_eq_true] at hB
  obtain ⟨⟨⟨⟨hsz, hg⟩, hfin⟩, hcov⟩, hsh⟩ := hB
  have hof : ops[last + 1]? = some (ops[last + 1]'(by omega)) := Array.getElem?_eq_getElem _
  obtain ⟨o2, ho2⟩ : ∃ o2, o2 = ops[last + 1]'(by omega) := ⟨_, rfl⟩
  rw [← ho2] at hof
  rw [hof, Option.map_some, Option.getD_some, ← Array.any_toList, List.any_eq_true] at hfin
  obtain ⟨ef, hef, hef2⟩ := hfin
  replace hef := Array.mem_toList_iff.1 hef
  rw [Bool.and_eq_true, beq_iff_eq] at hef2
  clear ho2
  have hgn : ∀ {i : Nat} {o : Oper}, ops[i]? = some o → o.guard = none := fun {i o} ho => by
    have := hg o (Array.mem_of_getElem? ho)
    cases hx : o.guard with
    | none => rfl
    | some g => rw [hx] at this; cases this
  have hshape : ∀ {i : Nat} {o : Oper}, ops[i]? = some o → o.dst = some (D i) ∧ ∀ e ∈ o.after, Region.binds .any e = true → e.on < i := fun {i o} ho => by
    have hlt := (Array.getElem?_eq_some_iff.1 ho).1
    have := hsh i (List.mem_range.2 hlt)
    rw [ho, Option.map_some, Option.getD_some, Bool.and_eq_true, beq_iff_eq, Array.all_eq_true_iff_forall_mem] at this
    refine ⟨this.1, fun e he hb => ?_⟩
    have h := this.2 e he
    rw [hb] at h
    simpa using h
  refine wpIn_region_any hm ?_
  have key : ∀ (fuel : Nat) (listed : Array Bool) (a' : Act) (w' : World), listed.size = ops.size → listed.getD last true = false → listed.getD (last + 1) true = false → ((List.range ops.size).filter (fun j => !listed.getD j true)).length = fuel →
      (∀ i o, ops[i]? = some o → listed.getD i false = true → ∀ e ∈ o.after, Region.binds .any e = true → listed.getD e.on false = true) → C w' → (∀ s, (∀ j, j ≤ last → D j ≠ s) → a'.tmps.getD s undef = a.tmps.getD s undef) → a'.tmps.size = a.tmps.size →
      (∀ j, j ≤ last → listed.getD j false = true → a'.tmps.getD (D j) undef = vals j) → wpAnyIn F n P .any ops Q fuel listed a' w' := by
    have flip : ∀ {listed : Array Bool} {j : Nat}, listed.size = ops.size → j < ops.size → listed.getD j true = listed.getD j false := fun {listed j} hs hj => by
      have : j < listed.size := by omega
      simp [Array.getD_eq_getD_getElem?, Array.getElem?_eq_getElem this]
    intro fuel
    induction fuel with
    | zero =>
      intro listed a' w' hs hl hl2 hf
      have : last ∈ (List.range ops.size).filter (fun j => !listed.getD j true) := List.mem_filter.2 ⟨List.mem_range.2 (by omega), by rw [hl]; rfl⟩
      rw [List.length_eq_zero_iff.1 hf] at this
      cases this
    | succ fuel ih =>
      intro listed a' w' hs hl hl2 hf hc hw hfr hsize hv
      refine ⟨fun h0 => ?_, fun i hi => ?_⟩
      · exfalso
        have least : ∀ i, i < ops.size → listed.getD i true = false → False := by
          intro i
          induction i using Nat.strongRecOn with
          | _ i ihi =>
            intro hlt hu
            have ho : ops[i]? = some ops[i] := Array.getElem?_eq_getElem hlt
            by_cases hall : ∀ e ∈ ops[i].after, Region.binds .any e = true → listed.getD e.on false = true
            · have : i ∈ Region.ready .any ops listed := mem_ready.2 ⟨hu, _, ho, hall⟩
              rw [h0] at this; cases this
            · refine hall fun e he hb => ?_
              have hei := (hshape ho).2 e he hb
              cases hle : listed.getD e.on false with
              | true => rfl
              | false => exact (ihi e.on hei (by omega) (by rw [flip hs (by omega)]; exact hle)).elim
        exact least last (by omega) hl
      · obtain ⟨hu, o, ho, hall⟩ := mem_ready.1 hi
        have hlt := (Array.getElem?_eq_some_iff.1 ho).1
        refine wpOpIn_step ho fun K' hK' => ?_
        rw [if_pos (by unfold Region.wanted; rw [hgn ho])]
        by_cases hil : i = last
        · subst hil
          have hdone : ∀ d j, i - j = d → j < i → listed.getD j false = true := by
            intro d
            induction d using Nat.strongRecOn with
            | _ d ihd =>
              intro j hd hj
              have := hcov j (List.mem_range.2 hj)
              rw [List.any_eq_true] at this
              obtain ⟨k, hk, hk2⟩ := this
              have hkt := List.mem_range.1 hk
              have hkl : k < ops.size := by omega
              rw [Bool.and_eq_true, decide_eq_true_eq] at hk2
              have hok : ops[k]? = some ops[k] := Array.getElem?_eq_getElem hkl
              rw [hok, Option.map_some, Option.getD_some, ← Array.any_toList, List.any_eq_true] at hk2
              obtain ⟨hjk, e, he, hbe⟩ := hk2
              replace he := Array.mem_toList_iff.1 he
              rw [Bool.and_eq_true, beq_iff_eq] at hbe
              by_cases hki : k = i
              · subst hki
                rw [hok] at ho
                injection ho with ho
                rw [← hbe.2]
                exact hall e (ho ▸ he) hbe.1
              · have := ihd (i - k) (by omega) k rfl (by omega)
                rw [← hbe.2]
                exact hc k _ hok this e he hbe.1
          refine hlast o o2 ho hof a' w' hw hfr (fun j hj => hv j (by omega) (hdone _ j rfl hj)) hsize K' fun a'' w'' hq => hK' a'' w'' ?_
          have hl3 : (listed.setIfInBounds i true).getD (i + 1) true = false := by rw [getD_set_ne true (by omega)]; exact hl2
          have hall2 : ∀ j, j < i + 1 → (listed.setIfInBounds i true).getD j false = true := fun j hj => by
            by_cases hji : j = i
            · subst hji
              have : j < listed.size := by omega
              simp [Array.getD_eq_getD_getElem?, this]
            · exact getD_set_true (hdone _ j rfl (by omega))
          have hs2 : (listed.setIfInBounds i true).size = ops.size := by rw [Array.size_setIfInBounds]; exact hs
          obtain ⟨L, hL⟩ : ∃ L, L = listed.setIfInBounds i true := ⟨_, rfl⟩
          have hcount := filter_less (p := fun j => !listed.getD j true) (q := fun j => !L.getD j true) (i := i) (by simp only [hu]; rfl)
              (by
                have : i < listed.size := by omega
                simp [hL, Array.getD_eq_getD_getElem?, this]) (List.nodup_range (n := ops.size)) (List.mem_range.2 hlt) (fun j hj => by simp only [hL, getD_set_ne true (Ne.symm hj)])
          rw [← hL] at hl3 hall2 hs2 ⊢
          have hready : i + 1 ∈ Region.ready .any ops L := mem_ready.2 ⟨hl3, _, hof, fun e he hb => hall2 e.on ((hshape hof).2 e he hb)⟩
          have honly : ∀ j, j ∈ Region.ready .any ops L → j = i + 1 := fun j hj => by
            obtain ⟨h1, o3, ho3, _⟩ := mem_ready.1 hj
            have hjl := (Array.getElem?_eq_some_iff.1 ho3).1
            by_cases hji : j < i + 1
            · rw [flip hs2 hjl, hall2 j hji] at h1
              cases h1
            · omega
          cases fuel with
          | zero =>
            have : i + 1 ∈ (List.range ops.size).filter (fun j => !L.getD j true) := List.mem_filter.2 ⟨List.mem_range.2 (by omega), by rw [hl3]; rfl⟩
            rw [List.length_eq_zero_iff.1 (by omega : ((List.range ops.size).filter (fun j => !L.getD j true)).length = 0)] at this
            cases this
          | succ fuel =>
            refine ⟨fun h0 => ?_, fun j hj => ?_⟩
            · exfalso; rw [h0] at hready; cases hready
            · obtain rfl := honly j hj
              refine wpOpIn_step hof fun K2 hK2 => ?_
              rw [if_pos (by unfold Region.wanted; rw [hgn hof])]
              refine hq K2 fun a3 w3 h3 => hK2 a3 w3 (wpAnyIn_done ?_ h3 fuel)
              rw [List.eq_nil_iff_forall_not_mem]
              intro k hk
              obtain ⟨h1, o4, ho4, _⟩ := mem_ready.1 hk
              have hkl := (Array.getElem?_eq_some_iff.1 ho4).1
              by_cases hke : k = i + 1
              · subst hke
                have : i + 1 < L.size := by omega
                simp [Array.getD_eq_getD_getElem?, this] at h1
              · rw [getD_set_ne true (Ne.symm hke), flip hs2 hkl, hall2 k (by omega)] at h1
                cases h1
        · have hlt2 : i < last := by
            rcases Nat.lt_or_ge i last with h | h
            · exact h
            · exfalso
              obtain rfl : i = last + 1 := by omega
              rw [hof] at ho
              injection ho with ho
              have := hall ef (ho ▸ hef) hef2.1
              rw [hef2.2, ← flip hs (by omega), hl] at this
              cases this
          refine hop i o hlt2 ho a' w' hw hfr (fun e he hb => hv e.on (by have := (hshape ho).2 e he hb; omega) (hall e he hb)) K' fun w'' hw'' => hK' _ _ ?_
          rw [(hshape ho).1]
          refine ih _ _ _ (by rw [Array.size_setIfInBounds]; exact hs) (by rw [getD_set_ne true hil]; exact hl) (by rw [getD_set_ne true (by omega)]; exact hl2) ?_ ?_ hw'' ?_ (by rw [put_size]; exact hsize) ?_
          · have := filter_less (p := fun j => !listed.getD j true) (q := fun j => !(listed.setIfInBounds i true).getD j true) (i := i) (by simp only [hu]; rfl)
              (by
                have : i < listed.size := by omega
                simp [Array.getD_eq_getD_getElem?, this]) (List.nodup_range (n := ops.size)) (List.mem_range.2 hlt) (fun j hj => by simp only [getD_set_ne true (Ne.symm hj)])
            omega
          · intro k ok hok hk e he hb
            by_cases hki : k = i
            · subst hki
              rw [hok] at ho
              injection ho with ho
              exact getD_set_true (hall e (ho ▸ he) hb)
            · rw [getD_set_ne false (Ne.symm hki)] at hk
              exact getD_set_true (hc k ok hok hk e he hb)
          · intro s h
            rw [put_other (h i (by omega))]
            exact hfr s h
          · intro j hj hjl
            by_cases hji : j = i
            · subst hji
              exact put_same (by rw [hsize]; exact hin j hj)
            · rw [put_other (fun e => hji (hD _ _ e).symm)]
              rw [getD_set_ne false (Ne.symm hji)] at hjl
              exact hv j hj hjl
  refine key _ _ a _ (by simp) ?_ ?_ ?_ ?_ hC (fun _ _ => rfl) rfl ?_
  · have : last < ops.size := by omega
    simp [Array.getD_eq_getD_getElem?, this]
  · have : last + 1 < ops.size := by omega
    simp [Array.getD_eq_getD_getElem?, this]
  · rw [List.filter_eq_self.2 (fun j hj => by have := List.mem_range.1 hj; simp [Array.getD_eq_getD_getElem?, this]), List.length_range]
  · intro i o ho h
    have : i < ops.size := (Array.getElem?_eq_some_iff.1 ho).1
    simp [Array.getD_eq_getD_getElem?, this] at h
  · intro j hj h
    have : j < ops.size := by omega
    simp [Array.getD_eq_getD_getElem?, this] at h
end Go.Proofs.YtgigdhincpcdbaaGreatDoor
namespace Go.Proofs.YtgigdhincpcdbaaGreatDoor
open Go.RowKit Go.Shelf
set_option linter.unusedVariables false
set_option linter.unusedSimpArgs false
attribute [local go_sem ↓] Go.wp_at_zero Go.wp_at_succ

theorem indexB_call (l : List UInt8) (c : UInt8) (w : World) : Calls Tryz.prog 89 #[.string (bs l), .int .u8 (c.toNat : Int)] w fun e w' => e = .returned (.int .i64 (Lib.indexByte l c)) ∧ w' = w := by
  have HC := Lib.hid (fun W => index8_call l c W)
  go_enter Tryz.func89, Tryz.ntmps89
  go_wp2_with (go_at_call 107; ((with_reducible refine (HC.out _).mono ?_); rintro e w1 ⟨rfl, rfl⟩))
  go_ret
  exact ⟨rfl, rfl⟩
theorem white_dec : ∀ pos, pos < 3 → (Utf8.decode (⟨#[32, 9, 13]⟩ : ByteArray) pos).2 = 1 ∧ (Utf8.decode (⟨#[32, 9, 13]⟩ : ByteArray) pos).1 < 128 := by decide
set_option maxRecDepth 100000 in
set_option maxHeartbeats 4000000 in
theorem idx_err (w : World) : Calls Tryz.prog 109 #[.string (⟨#[32, 9, 13]⟩ : ByteArray), .int .i32 65533] w fun e w' => e = .returned (.int .i64 (-1)) ∧ Below w.heap.size w w' := by
  obtain ⟨S, hS⟩ : ∃ S, S = (⟨#[32, 9, 13]⟩ : ByteArray) := ⟨_, rfl⟩
  have hd := white_dec
  have h3 : S.size = 3 := by rw [hS]; rfl
  rw [← hS] at hd ⊢
  clear hS
  go_enter Tryz.func109, Tryz.ntmps109
  go_wp2
  go_loopg [] S.size (fun gf wx => ∃ pos : Nat, wx.heap[w.heap.size]? = some (.stringIter S pos) ∧ Below w.heap.size w wx ∧ S.size ≤ pos + gf)
  case atStart => exact ⟨0, World.iter_heap w S 0, (Below.refl _ w).alloc (Nat.le_refl _) _, by omega⟩
  case round =>
    obtain ⟨pos, hit, hbw, hfu⟩ := hrel
    by_cases hps : pos < S.size
    · obtain ⟨g', rfl⟩ : ∃ g', gk = g' + 1 := ⟨gk - 1, by omega⟩
      have hnx : ∀ ty, (Instr.next (.pointer (some ⟨w.heap.size, 0, none⟩)) true ty).run Tryz.prog wr = _ := fun ty => Lib.run_next_any_at wr w.heap.size S pos ty hit hps
      obtain ⟨hd1, hd2⟩ := hd pos (by omega)
      obtain ⟨R, hR⟩ : ∃ R, (Utf8.decode S pos).1 = R := ⟨_, rfl⟩
      rw [hR, hd1] at hnx
      rw [hR] at hd2
      have hit2 := Lib.iterAt_heap wr w.heap.size S pos (pos + 1) hit
      have hbw2 := Lib.below_iterAt hbw (k := w.heap.size) (Nat.le_refl _) S (pos + 1)
      obtain ⟨W, hWd⟩ : ∃ W, wr.iterAt w.heap.size S (pos + 1) = W := ⟨_, rfl⟩
      rw [hWd] at hnx hit2 hbw2
      have hne : ((R : Int) == 65533) = false := beq_eq_false_iff_ne.2 (by omega)
      clear hd hd1 hR hd2 hWd
      go_wp2
      go_roundg g'
      case measure => omega
      case rel => exact ⟨pos + 1, hit2, hbw2, by omega⟩
    · have hnx : ∀ ty, (Instr.next (.pointer (some ⟨w.heap.size, 0, none⟩)) true ty).run Tryz.prog wr = _ := fun ty => Lib.run_next_end_at wr w.heap.size S pos ty hit hps
      go_wp2
      go_ret
      exact ⟨rfl, hbw⟩
theorem enc_last {x : Nat} (h0 : 128 ≤ x) : ∃ (rs : ByteArray) (m : Nat) (c : UInt8), Utf8.encode x = rs ∧ rs.size = m + 1 ∧ 1 ≤ m ∧ m ≤ 3 ∧ rs.data[m]? = some c ∧ 128 ≤ c.toNat := by
  have lo : ∀ k : Nat, k < 64 → 128 ≤ (UInt8.ofNat (0x80 + k)).toNat := fun k hk => by rw [UInt8.toNat_ofNat']; omega
  obtain ⟨c, hc⟩ : ∃ c : Nat, (if Utf8.valid (x : Int) then (x : Int).toNat else Utf8.runeError) = c := ⟨_, rfl⟩
  have hcx : 128 ≤ c := by
    rw [← hc]
    split
    · omega
    · decide
  unfold Utf8.encode
  simp only [hc]
  rw [if_neg (by omega)]
  split
  · exact ⟨_, 1, _, rfl, rfl, by omega, by omega, rfl, lo _ (Nat.mod_lt _ (by omega))⟩
  · split
    · exact ⟨_, 2, _, rfl, rfl, by omega, by omega, rfl, lo _ (Nat.mod_lt _ (by omega))⟩
    · exact ⟨_, 3, _, rfl, rfl, by omega, by omega, rfl, lo _ (Nat.mod_lt _ (by omega))⟩
theorem no_high (c : UInt8) (h : 128 ≤ c.toNat) : Lib.indexByte [13] c = -1 ∧ Lib.indexByte [] c = -1 ∧ (9 : Int) ≠ c.toNat ∧ (13 : Int) ≠ c.toNat := by
  refine ⟨?_, rfl, by omega, by omega⟩
  unfold Lib.indexByte
  rw [beq_eq_false_iff_ne.2 (fun e => by subst e; exact absurd h (by decide))]; rfl
theorem run_rune (x : Int) (w : World) : (convert 21 9 (.int .i32 x)).run Tryz.prog w = .ok (.string (Utf8.encode x)) w := by
  simp [convert, Conv.intToString, Sem.run_bind, Result.andThen, go_sem]
set_option maxRecDepth 100000 in
set_option maxHeartbeats 4000000 in
theorem idx_high1 (x : Nat) (h0 : 128 ≤ x) (hv : Lib.validRune x = true) (hx : x ≠ 65533) (rs : ByteArray) (c : UInt8) (hrs : Utf8.encode x = rs) (hsz : rs.size = 1 + 1) (hc : rs.data[1]? = some c) (hc1 : 128 ≤ c.toNat) (w : World) : Calls Tryz.prog 109 #[.string (⟨#[32, 9, 13]⟩ : ByteArray), .int .i32 x] w fun e w' => e = .returned (.int .i64 (-1)) ∧ Below w.heap.size w w' := by
  have HV := Lib.hid (fun W => Tryz.utf8_ValidRune (x : Int) W)
  rw [hv] at HV
  obtain ⟨n1, n2, n3, n4⟩ := no_high c hc1
  have HIB := Lib.hid (fun W => indexB_call [13] c W)
  rw [n1, show bs [13] = (⟨#[32, 9, 13]⟩ : ByteArray).extract 2 3 from by decide] at HIB
  have HRS := run_rune (x : Int)
  rw [hrs] at HRS
  have hms : 1 < rs.size := by omega
  obtain ⟨y, hy⟩ : ∃ y : Int, y = (c.toNat : Int) := ⟨_, rfl⟩
  have hidx : ((rs[1]'hms).toNat : Int) = y := by
    rw [hy]
    have h2 : rs.data[1]? = some (rs[1]'hms) := Array.getElem?_eq_getElem (xs := rs.data) hms
    rw [show rs[1]'hms = c from (Option.some.inj (hc.symm.trans h2)).symm]
  rw [← hy] at HIB n3 n4
  have q0 : ((x : Int) == 65533) = false := beq_eq_false_iff_ne.2 (by omega)
  have q1 : ¬ (x : Int) < 128 := by omega
  have q2 : (0 : Int) ≤ x := by omega
  obtain ⟨S, hS⟩ : ∃ S, S = (⟨#[32, 9, 13]⟩ : ByteArray) := ⟨_, rfl⟩
  have h3 : S.size = 3 := by rw [hS]; rfl
  have g1 : ((S[1]'(by omega)).toNat : Int) = 9 := by subst hS; rfl
  have g2 : ((9 : Int) != y) = true := bne_iff_ne.2 n3
  have g3 : ((9 : Int) == y) = false := beq_eq_false_iff_ne.2 n3
  rw [← hS] at HIB ⊢
  clear hv hx hrs hc hc1 hy n1 n2 h0 hS
  go_enter Tryz.func109, Tryz.ntmps109
  go_wp2_with (go_at_call 117; ((with_reducible refine (HV.out _).mono ?_); rintro e w1 ⟨rfl, rfl⟩))
  refine wp_scope_straight ?_
  go_wp2
  refine wp_loop_rounds 2 ?_
  rw [rounds_succ]
  go_wp2_with fail
  refine wp_scope_straight ?_
  go_wp2_with fail
  go_quiet (fail)
  go_wp2_with fail
  go_quiet ((go_at_call 89; go_loud (exact (HIB.out _).mono fun e w'' h => ⟨h.1, _, h.2⟩)))
  go_wp2_with fail
  simp only [Exit.noGoto, Exit.then, Exit.inBlock]
  go_ret
  exact ⟨rfl, by first | exact Below.refl _ _ | exact Go.Proofs.below_drewN' (Below.refl _ _) _ | exact Go.Proofs.below_drewN' (Go.Proofs.below_drewN' (Below.refl _ _) _) _⟩
set_option maxRecDepth 100000 in
set_option maxHeartbeats 4000000 in
theorem idx_high2 (x : Nat) (h0 : 128 ≤ x) (hv : Lib.validRune x = true) (hx : x ≠ 65533) (rs : ByteArray) (c : UInt8) (hrs : Utf8.encode x = rs) (hsz : rs.size = 2 + 1) (hc : rs.data[2]? = some c) (hc1 : 128 ≤ c.toNat) (w : World) : Calls Tryz.prog 109 #[.string (⟨#[32, 9, 13]⟩ : ByteArray), .int .i32 x] w fun e w' => e = .returned (.int .i64 (-1)) ∧ Below w.heap.size w w' := by
  have HV := Lib.hid (fun W => Tryz.utf8_ValidRune (x : Int) W)
  rw [hv] at HV
  obtain ⟨n1, n2, n3, n4⟩ := no_high c hc1
  have HIB := Lib.hid (fun W => indexB_call [] c W)
  rw [n2, show bs [] = ByteArray.empty from by rfl] at HIB
  have HRS := run_rune (x : Int)
  rw [hrs] at HRS
  have hms : 2 < rs.size := by omega
  obtain ⟨y, hy⟩ : ∃ y : Int, y = (c.toNat : Int) := ⟨_, rfl⟩
  have hidx : ((rs[2]'hms).toNat : Int) = y := by
    rw [hy]
    have h2 : rs.data[2]? = some (rs[2]'hms) := Array.getElem?_eq_getElem (xs := rs.data) hms
    rw [show rs[2]'hms = c from (Option.some.inj (hc.symm.trans h2)).symm]
  rw [← hy] at HIB n3 n4
  have q0 : ((x : Int) == 65533) = false := beq_eq_false_iff_ne.2 (by omega)
  have q1 : ¬ (x : Int) < 128 := by omega
  have q2 : (0 : Int) ≤ x := by omega
  obtain ⟨S, hS⟩ : ∃ S, S = (⟨#[32, 9, 13]⟩ : ByteArray) := ⟨_, rfl⟩
  have h3 : S.size = 3 := by rw [hS]; rfl
  have g1 : ((S[2]'(by omega)).toNat : Int) = 13 := by subst hS; rfl
  have g2 : ((13 : Int) != y) = true := bne_iff_ne.2 n4
  have g3 : ((13 : Int) == y) = false := beq_eq_false_iff_ne.2 n4
  rw [← hS]
  clear hv hx hrs hc hc1 hy n1 n2 h0 hS
  go_enter Tryz.func109, Tryz.ntmps109
  go_wp2_with (go_at_call 117; ((with_reducible refine (HV.out _).mono ?_); rintro e w1 ⟨rfl, rfl⟩))
  refine wp_scope_straight ?_
  go_wp2
  refine wp_loop_rounds 2 ?_
  rw [rounds_succ]
  go_wp2_with fail
  refine wp_scope_straight ?_
  go_wp2_with fail
  go_quiet (fail)
  go_wp2_with fail
  go_quiet ((go_at_call 89; go_loud (exact (HIB.out _).mono fun e w'' h => ⟨h.1, _, h.2⟩)))
  go_wp2_with fail
  simp only [Exit.noGoto, Exit.then, Exit.inBlock]
  go_ret
  exact ⟨rfl, by first | exact Below.refl _ _ | exact Go.Proofs.below_drewN' (Below.refl _ _) _ | exact Go.Proofs.below_drewN' (Go.Proofs.below_drewN' (Below.refl _ _) _) _⟩
set_option maxRecDepth 100000 in
set_option maxHeartbeats 4000000 in
theorem idx_high3 (x : Nat) (h0 : 128 ≤ x) (hv : Lib.validRune x = true) (hx : x ≠ 65533) (rs : ByteArray) (c : UInt8) (hrs : Utf8.encode x = rs) (hsz : rs.size = 3 + 1) (hc : rs.data[3]? = some c) (hc1 : 128 ≤ c.toNat) (w : World) : Calls Tryz.prog 109 #[.string (⟨#[32, 9, 13]⟩ : ByteArray), .int .i32 x] w fun e w' => e = .returned (.int .i64 (-1)) ∧ Below w.heap.size w w' := by
  have HV := Lib.hid (fun W => Tryz.utf8_ValidRune (x : Int) W)
  rw [hv] at HV
  obtain ⟨n1, n2, n3, n4⟩ := no_high c hc1
  have HIB := Lib.hid (fun W => indexB_call [] c W)
  rw [n2, show bs [] = ByteArray.empty from by rfl] at HIB
  have HRS := run_rune (x : Int)
  rw [hrs] at HRS
  have hms : 3 < rs.size := by omega
  obtain ⟨y, hy⟩ : ∃ y : Int, y = (c.toNat : Int) := ⟨_, rfl⟩
  have hidx : ((rs[3]'hms).toNat : Int) = y := by
    rw [hy]
    have h2 : rs.data[3]? = some (rs[3]'hms) := Array.getElem?_eq_getElem (xs := rs.data) hms
    rw [show rs[3]'hms = c from (Option.some.inj (hc.symm.trans h2)).symm]
  rw [← hy] at HIB n3 n4
  have q0 : ((x : Int) == 65533) = false := beq_eq_false_iff_ne.2 (by omega)
  have q1 : ¬ (x : Int) < 128 := by omega
  have q2 : (0 : Int) ≤ x := by omega
  obtain ⟨S, hS⟩ : ∃ S, S = (⟨#[32, 9, 13]⟩ : ByteArray) := ⟨_, rfl⟩
  have h3 : S.size = 3 := by rw [hS]; rfl
  rw [← hS]
  clear hv hx hrs hc hc1 hy n1 n2 h0 hS
  go_enter Tryz.func109, Tryz.ntmps109
  go_wp2_with (go_at_call 117; ((with_reducible refine (HV.out _).mono ?_); rintro e w1 ⟨rfl, rfl⟩))
  refine wp_scope_straight ?_
  go_wp2
  refine wp_loop_rounds 2 ?_
  rw [rounds_succ]
  go_wp2
  simp only [Exit.noGoto, Exit.then, Exit.inBlock]
  go_ret
  exact ⟨rfl, Below.refl _ _⟩
end Go.Proofs.YtgigdhincpcdbaaGreatDoor
