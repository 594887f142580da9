/- The landed logical's closure that ends a logical line: what it leaves. Conditions: the library's two tables lie in their variables; a text of at most 2^40 bytes, at most 1000 lines laid down. -/
import Derived.Test.YtifjnioichfodaaDoorZf
import Derived.Test.YtifjnioichfodaaDoorZh
import Derived.Test.YtifjnioichfodaaDoorLi
import Derived.Laws.AppendOwn
namespace Go.Proofs.YtifjnioichfodaaDoor
open Go.RowKit Go.Shelf
set_option linter.unusedVariables false
set_option linter.unusedSimpArgs false
attribute [local go_sem ↓] Go.wp_at_zero Go.wp_at_succ

/-- Whatever is none of S stays. -/
def KS (S : Nat → Obj → Prop) (V V' : World) : Prop := V.heap.size ≤ V'.heap.size ∧ ∀ k o, V.heap[k]? = some o → ¬ S k o → V'.heap[k]? = some o
theorem KS.refl {S : Nat → Obj → Prop} (V : World) : KS S V V := ⟨Nat.le_refl _, fun _ _ h _ => h⟩
theorem KS.trans {S : Nat → Obj → Prop} {A B C : World} (h : KS S A B) (k : KS S B C) : KS S A C := ⟨Nat.le_trans h.1 k.1, fun i o hi hs => k.2 i o (h.2 i o hi hs) hs⟩
theorem KS.wide {S T : Nat → Obj → Prop} {A B : World} (h : KS S A B) (hs : ∀ k o, S k o → T k o) : KS T A B := ⟨h.1, fun i o hi ht => h.2 i o hi (fun hx => ht (hs i o hx))⟩
theorem KS.below {S : Nat → Obj → Prop} {A B : World} (h : Below A.heap.size A B) : KS S A B := ⟨h.size, fun i o hi _ => (h.block i (Array.getElem?_eq_some_iff.1 hi).1).trans hi⟩
theorem KS.set {S : Nat → Obj → Prop} (V : World) (z j : Nat) (u : Value) (hz : ∀ o, S z o) : KS S V (V.setCell ⟨z, j, none⟩ u) := ⟨by simp, fun k o hk hs => by
  by_cases e : k = z
  · subst e; exact absurd (hz o) hs
  · exact (heap_setCell_other V ⟨z, j, none⟩ k _ e).trans hk⟩
def isT (t : TypeId) (o : Obj) : Prop := ∃ c fz, o = .cells c t fz
theorem owns_same {W W' : World} {B n s : Nat} {e : TypeId} {v : Value} {xs : List Value} (h : W.ownsRow B e s v n xs) (hk : ∀ (g : Nat) (c : Array Value) (fz : Nat × Nat), W.heap[g]? = some (.cells c e fz) → W'.heap[g]? = some (.cells c e fz)) : W'.ownsRow B e s v n xs :=
  ⟨h.1, h.2.imp id (fun ⟨g, cap, cur, hv, hB, hg, rest⟩ => ⟨g, cap, cur, hv, hB, hk g _ _ hg, rest⟩)⟩
theorem bldAt_same {T e : TypeId} {B b : Nat} {p : Value} {l : List Value} {w w' : World} (h : Lib.BuilderAtF T e B b p l w) (hk : ∀ (k : Nat) (c : Array Value) (t : TypeId) (fz : Nat × Nat), w.heap[k]? = some (.cells c t fz) → t = T ∨ t = e → w'.heap[k]? = some (.cells c t fz)) : Lib.BuilderAtF T e B b p l w' := by
  obtain ⟨hB, v, hb, hown, hne⟩ := h
  refine ⟨hB, v, hk _ _ _ _ hb (.inl rfl), ⟨hown.1, ?_⟩, hne⟩
  rcases hown.2 with hn | ⟨g, cap, cur, fz, hv, hbg, hg2, rest⟩
  · exact .inl hn
  · exact .inr ⟨g, cap, cur, fz, hv, hbg, hk _ _ _ _ hg2 (.inr rfl), rest⟩
theorem bld_same {B b : Nat} {l : List UInt8} {w w' : World} (h : Bld B b l w) (hk : ∀ (k : Nat) (c : Array Value) (t : TypeId) (fz : Nat × Nat), w.heap[k]? = some (.cells c t fz) → t = 88 ∨ t = 5 → w'.heap[k]? = some (.cells c t fz)) : Bld B b l w' :=
  h.elim (fun h => Or.inl (bldAt_same h hk)) (fun h => Or.inr (bldAt_same h hk))
/-- What is laid down, what is begun, by which number, in memory: boxes from L0 on, rows from B on. -/
structure LgAt (B L0 : Nat) (t : Lst) (V : World) : Prop where
  box : ∃ v, Boxed V L0 42 v ∧ V.ownsRow B 49 2 v t.O.length (lnC t.O)
  bld : Bld (L0 + 1) (L0 + 1) t.T V
  num : Boxed V (L0 + 2) 3 (.int .i64 ((t.f : Nat) : Int))
/-- What its steps may turn. -/
def SL (L0 : Nat) (k : Nat) (o : Obj) : Prop := k = L0 ∨ k = L0 + 1 ∨ k = L0 + 2 ∨ isT 5 o ∨ isT 49 o
/-- A step of the builder's. -/
def SB (L0 : Nat) (k : Nat) (o : Obj) : Prop := k = L0 + 1 ∨ isT 5 o
theorem SB_SL {L0 k : Nat} {o : Obj} (h : SB L0 k o) : SL L0 k o := h.elim (fun h => .inr (.inl h)) (fun h => .inr (.inr (.inr (.inl h))))
theorem ks_box {S : Nat → Obj → Prop} {V V' : World} {b : Nat} {t : TypeId} {v : Value} (h : KS S V V') (hb : Boxed V b t v) (hs : ¬ S b (.cells #[v] t (0, 0))) : Boxed V' b t v := h.2 b _ hb hs
theorem notT {t u : TypeId} {c : Array Value} {fz : Nat × Nat} (h : t ≠ u) : ¬ isT u (.cells c t fz) := fun ⟨c', fz', e⟩ => by injection e with _ e2 _; exact h e2
theorem ks_oth {L0 : Nat} {V V' : World} (hz : V.heap.size ≤ V'.heap.size) (h : OthK (L0 + 1) V V') : KS (SB L0) V V' :=
  ⟨hz, fun k o hk hs => h k o hk (fun e => hs (.inl (by injection e))) (fun c fz e => hs (.inr ⟨c, fz, e⟩))⟩
theorem LgAt.byB {B L0 : Nat} {t : Lst} {T' : List UInt8} {V V' : World} (h : LgAt B L0 t V) (k : KS (SB L0) V V') (hb : Bld (L0 + 1) (L0 + 1) T' V') : LgAt B L0 ⟨t.O, T', t.f⟩ V' := by
  have hbld := h.bld
  obtain ⟨⟨v, h1, h2⟩, _, h4⟩ := h
  refine ⟨⟨v, ks_box k h1 (fun hs => hs.elim (by omega) (notT (by decide))), owns_same h2 fun g c fz hg => k.2 g _ hg (fun hs => ?_)⟩, hb, ks_box k h4 (fun hs => hs.elim (by omega) (notT (by decide)))⟩
  rcases hs with hs | hs
  · subst hs
    rcases hbld with hb2 | hb2 <;>
    · obtain ⟨_, u, hu, _⟩ := hb2
      rw [hu] at hg
      injection hg with hg
      injection hg with _ hg _
      exact absurd hg (by decide)
  · exact notT (by decide) hs
theorem LgAt.on {B L0 : Nat} {t : Lst} {V V' : World} (h : LgAt B L0 t V) (b : Below V.heap.size V V') : LgAt B L0 t V' := by
  obtain ⟨⟨v, h1, h2⟩, h3, h4⟩ := h
  exact ⟨⟨v, boxed_below h1 b, owns_same h2 fun g c fz hg => (b.block g (Array.getElem?_eq_some_iff.1 hg).1).trans hg⟩, bld_below h3 b, boxed_below h4 b⟩
theorem line_info : (Tryd.prog.info? 49).map (fun i => (i.zero, i.size, i.bytes)) = some (some (.agg #[.int .i64 0, .string ⟨#[]⟩]), 2, 24) := by kernel_rfl
theorem bld_cells {B b : Nat} {l : List UInt8} {w : World} (h : Bld B b l w) : ∃ p v, w.heap[b]? = some (.cells #[p, v] 88 (0, 0)) := by
  rcases h with ⟨_, v, hb, _⟩ | ⟨_, v, hb, _⟩
  · exact ⟨_, v, hb⟩
  · exact ⟨_, v, hb⟩
set_option maxRecDepth 100000 in
set_option maxHeartbeats 4000000 in
theorem reset_call (b : Nat) (l : List UInt8) (w : World) (h : Bld b b l w) : Calls Tryd.prog 53 #[.pointer (some ⟨b, 0, none⟩)] w fun e w' => e = .returned (.tuple #[]) ∧ Bld b b [] w' ∧ KS (fun k _ => k = b) w w' ∧ Below b w w' := by
  obtain ⟨p, v, hb⟩ := bld_cells h
  have c0 : w.cell? ⟨b, 0, none⟩ = some p := by rw [Lib.cell_of_heap hb]; rfl
  have c1 : w.cell? ⟨b, 1, none⟩ = some v := by rw [Lib.cell_of_heap hb]; rfl
  have f0 : w.frozen? ⟨b, 0, none⟩ = false := Lib.frozen_of_heap hb 0
  have f1 : w.frozen? ⟨b, 1, none⟩ = false := Lib.frozen_of_heap hb 1
  have HB := Lib.hid hb
  clear h hb
  go_enter Tryd.func53, Tryd.ntmps53
  go_wp2
  go_end0
  refine ⟨rfl, Or.inl ⟨Nat.le_refl _, .slice none 0 0, ?_, World.ownsRowF_of (World.ownsRow_nil _ _ _ _), by simp [Value.ownBlock]⟩, (KS.set _ _ _ _ (fun _ => rfl)).trans (KS.set _ _ _ _ (fun _ => rfl)), ((Below.refl _ _).setCell (p := ⟨b, 0, none⟩) (Nat.le_refl _) _).setCell (p := ⟨b, 1, none⟩) (Nat.le_refl _) _⟩
  simp [World.setCell, Array.getElem?_modify, HB.out]
theorem obj_ne {W : World} {k : Nat} {c c' : Array Value} {t t' : TypeId} {fz fz' : Nat × Nat} (h : W.heap[k]? = some (.cells c t fz)) (h' : W.heap[k]? = some (.cells c' t' fz')) (hne : t ≠ t') : False := by
  rw [h] at h'
  injection h' with h'
  injection h' with _ e _
  exact hne e
theorem LgAt.num_set {B L0 : Nat} {t : Lst} {V : World} (h : LgAt B L0 t V) (n : Nat) : LgAt B L0 ⟨t.O, t.T, n⟩ (V.setCell ⟨L0 + 2, 0, none⟩ (.int .i64 (n : Int))) := by
  have hs : ∀ (k : Nat) (c : Array Value) (ty : TypeId) (fz : Nat × Nat), V.heap[k]? = some (.cells c ty fz) → ty ≠ 3 → (V.setCell ⟨L0 + 2, 0, none⟩ (.int .i64 (n : Int))).heap[k]? = some (.cells c ty fz) := fun k c ty fz hk hne =>
    (heap_setCell_other V ⟨L0 + 2, 0, none⟩ k _ (fun e => by subst e; exact obj_ne hk h.num hne)).trans hk
  obtain ⟨⟨v, h1, h2⟩, h3, h4⟩ := h
  exact ⟨⟨v, hs _ _ _ _ h1 (by decide), owns_same h2 fun g c fz hg => hs g c _ fz hg (by decide)⟩, bld_same h3 fun k c ty fz hk ht => hs k c ty fz hk (by rcases ht with rfl | rfl <;> decide), h4.set _⟩
theorem own_typed {W : World} {B n s k : Nat} {e : TypeId} {v : Value} {xs : List Value} (h : W.ownsRow B e s v n xs) (hk : v.ownBlock = some k) : ∃ c, W.heap[k]? = some (.cells c e (0, 0)) := by
  rcases h.2 with ⟨rfl, _⟩ | ⟨g, cap, cur, rfl, _, hg, _⟩
  · cases hk
  · injection hk with hk
    exact ⟨cur, by rw [← hk]; exact hg⟩
theorem ks_app {W W' : World} {B n s : Nat} {e : TypeId} {v : Value} {xs : List Value} (h : W.ownsRow B e s v n xs) (hg : W.grownBy W' v.ownBlock) : KS (fun _ o => isT e o) W W' :=
  ⟨hg.size, fun k o hk hs => (hg.block k (Array.getElem?_eq_some_iff.1 hk).1 (fun e' => by
    obtain ⟨c, hc⟩ := own_typed h e'.symm
    rw [hc] at hk
    injection hk with hk
    exact hs ⟨c, _, hk.symm⟩)).trans hk⟩
theorem LgAt.put_line {B L0 : Nat} {t : Lst} {V wA : World} {v vA : Value} {O' : List (Nat × List UInt8)} (h : LgAt B L0 t V) (hbx : Boxed V L0 42 v) (hrow : V.ownsRow B 49 2 v t.O.length (lnC t.O)) (hg : V.grownBy wA v.ownBlock) (hBL : L0 ≤ B) (hV : L0 ≤ V.heap.size)
    (hA : wA.ownsRow B 49 2 vA O'.length (lnC O')) : Boxed wA L0 42 v ∧ LgAt B L0 ⟨O', t.T, t.f⟩ (wA.setCell ⟨L0, 0, none⟩ vA) ∧ KS (SL L0) V (wA.setCell ⟨L0, 0, none⟩ vA) ∧ Below L0 V (wA.setCell ⟨L0, 0, none⟩ vA) := by
  have ka := ks_app hrow hg
  have hb := ks_box ka hbx (notT (by decide))
  have hs : ∀ (k : Nat) (c : Array Value) (ty : TypeId) (fz : Nat × Nat), V.heap[k]? = some (.cells c ty fz) → ty ≠ 49 → ty ≠ 42 → (wA.setCell ⟨L0, 0, none⟩ vA).heap[k]? = some (.cells c ty fz) := fun k c ty fz hk h1 h2 =>
    (heap_setCell_other wA ⟨L0, 0, none⟩ k _ (fun e => by subst e; exact obj_ne hk hbx h2)).trans (ka.2 k _ hk (notT h1))
  refine ⟨hb, ⟨⟨vA, hb.set vA, owns_same hA fun g c fz hg2 => (heap_setCell_other wA ⟨L0, 0, none⟩ g _ (fun e => by subst e; exact obj_ne hg2 hb (by decide))).trans hg2⟩,
    bld_same h.bld fun k c ty fz hk ht => hs k c ty fz hk (by rcases ht with rfl | rfl <;> decide) (by rcases ht with rfl | rfl <;> decide), hs _ _ _ _ h.num (by decide) (by decide)⟩,
    (ka.wide (fun k o hx => .inr (.inr (.inr (.inr hx))))).trans (KS.set _ _ _ _ (fun _ => .inl rfl)), ?_⟩
  refine ((Below.refl L0 V).grown hg hV (fun k e => ?_)).setCell (p := ⟨L0, 0, none⟩) (Nat.le_refl _) _
  have := (hrow.lt k e).1
  omega
end Go.Proofs.YtifjnioichfodaaDoor
