/- The landed logical's closure that ends a logical line: what it leaves. Conditions: the library's two tables lie in their variables; a text of at most 2^40 bytes, at most 1000 lines laid down. The landed logical's closure that ends a logical line: what it leaves. Conditions: the library's two tables lie in their variables; a text of at most 2^40 bytes, at most 1000 lines laid down. The landed logical: the logical lines of a file. Conditions: the library's two tables lie in their variables; a file of at most 65536 bytes and 1000 lines. -/
import Derived.Test.YtgigdhincpcdbaaGreatDoorZf
import Derived.Test.YtgigdhincpcdbaaGreatDoorLf
import Derived.Laws.AppendOwn
namespace Go.Proofs.YtgigdhincpcdbaaGreatDoor
open Go.RowKit Go.Shelf
set_option linter.unusedVariables false
set_option linter.unusedSimpArgs false
attribute [local go_sem ↓] Go.wp_at_zero Go.wp_at_succ

/-- Whatever is none of S stays. -/
def KS (S : Nat → Obj → Prop) (V V' : World) : Prop := V.heap.size ≤ V'.heap.size ∧ ∀ k o, V.heap[k]? = some o → ¬ S k o → V'.heap[k]? = some o
theorem KS.refl {S : Nat → Obj → Prop} (V : World) : KS S V V := ⟨Nat.le_refl _, fun _ _ h _ => h⟩
theorem KS.trans {S : Nat → Obj → Prop} {A B C : World} (h : KS S A B) (k : KS S B C) : KS S A C := ⟨Nat.le_trans h.1 k.1, fun i o hi hs => k.2 i o (h.2 i o hi hs) hs⟩
theorem KS.wide {S T : Nat → Obj → Prop} {A B : World} (h : KS S A B) (hs : ∀ k o, S k o → T k o) : KS T A B := ⟨h.1, fun i o hi ht => h.2 i o hi (fun hx => ht (hs i o hx))⟩
theorem KS.below {S : Nat → Obj → Prop} {A B : World} (h : Below A.heap.size A B) : KS S A B := ⟨h.size, fun i o hi _ => (h.block i (Array.getElem?_eq_some_iff.1 hi).1).trans hi⟩
theorem KS.set {S : Nat → Obj → Prop} (V : World) (z j : Nat) (u : Value) (hz : ∀ o, S z o) : KS S V (V.setCell ⟨z, j, none⟩ u) := ⟨by simp, fun k o hk hs => by
  by_cases e : k = z
  · subst e; exact absurd (hz o) hs
  · exact (heap_setCell_other V ⟨z, j, none⟩ k _ e).trans hk⟩
def isT (t : TypeId) (o : Obj) : Prop := ∃ c fz, o = .cells c t fz
theorem owns_same {W W' : World} {B n s : Nat} {e : TypeId} {v : Value} {xs : List Value} (h : W.ownsRow B e s v n xs) (hk : ∀ (g : Nat) (c : Array Value) (fz : Nat × Nat), W.heap[g]? = some (.cells c e fz) → W'.heap[g]? = some (.cells c e fz)) : W'.ownsRow B e s v n xs :=
  ⟨h.1, h.2.imp id (fun ⟨g, cap, cur, hv, hB, hg, rest⟩ => ⟨g, cap, cur, hv, hB, hk g _ _ hg, rest⟩)⟩
theorem bldAt_same {T e : TypeId} {B b : Nat} {p : Value} {l : List Value} {w w' : World} (h : Lib.BuilderAtF T e B b p l w) (hk : ∀ (k : Nat) (c : Array Value) (t : TypeId) (fz : Nat × Nat), w.heap[k]? = some (.cells c t fz) → t = T ∨ t = e → w'.heap[k]? = some (.cells c t fz)) : Lib.BuilderAtF T e B b p l w' := by
  obtain ⟨hB, v, hb, hown, hne⟩ := h
  refine ⟨hB, v, hk _ _ _ _ hb (.inl rfl), ⟨hown.1, ?_⟩, hne⟩
  rcases hown.2 with hn | ⟨g, cap, cur, fz, hv, hbg, hg2, rest⟩
  · exact .inl hn
  · exact .inr ⟨g, cap, cur, fz, hv, hbg, hk _ _ _ _ hg2 (.inr rfl), rest⟩
theorem bld_same {B b : Nat} {l : List UInt8} {w w' : World} (h : Bld B b l w) (hk : ∀ (k : Nat) (c : Array Value) (t : TypeId) (fz : Nat × Nat), w.heap[k]? = some (.cells c t fz) → t = 107 ∨ t = 5 → w'.heap[k]? = some (.cells c t fz)) : Bld B b l w' :=
  h.elim (fun h => Or.inl (bldAt_same h hk)) (fun h => Or.inr (bldAt_same h hk))
/-- What is laid down, what is begun, by which number, in memory: boxes from L0 on, rows from B on. -/
structure LgAt (B L0 : Nat) (t : Lst) (V : World) : Prop where
  box : ∃ v, Boxed V L0 62 v ∧ V.ownsRow B 66 2 v t.O.length (lnC t.O)
  bld : Bld (L0 + 1) (L0 + 1) t.T V
  num : Boxed V (L0 + 2) 3 (.int .i64 ((t.f : Nat) : Int))
/-- What its steps may turn. -/
def SL (L0 : Nat) (k : Nat) (o : Obj) : Prop := k = L0 ∨ k = L0 + 1 ∨ k = L0 + 2 ∨ isT 5 o ∨ isT 66 o
/-- A step of the builder's. -/
def SB (L0 : Nat) (k : Nat) (o : Obj) : Prop := k = L0 + 1 ∨ isT 5 o
theorem SB_SL {L0 k : Nat} {o : Obj} (h : SB L0 k o) : SL L0 k o := h.elim (fun h => .inr (.inl h)) (fun h => .inr (.inr (.inr (.inl h))))
theorem ks_box {S : Nat → Obj → Prop} {V V' : World} {b : Nat} {t : TypeId} {v : Value} (h : KS S V V') (hb : Boxed V b t v) (hs : ¬ S b (.cells #[v] t (0, 0))) : Boxed V' b t v := h.2 b _ hb hs
theorem notT {t u : TypeId} {c : Array Value} {fz : Nat × Nat} (h : t ≠ u) : ¬ isT u (.cells c t fz) := fun ⟨c', fz', e⟩ => by injection e with _ e2 _; exact h e2
theorem ks_oth {L0 : Nat} {V V' : World} (hz : V.heap.size ≤ V'.heap.size) (h : OthK (L0 + 1) V V') : KS (SB L0) V V' :=
  ⟨hz, fun k o hk hs => h k o hk (fun e => hs (.inl (by injection e))) (fun c fz e => hs (.inr ⟨c, fz, e⟩))⟩
theorem LgAt.byB {B L0 : Nat} {t : Lst} {T' : List UInt8} {V V' : World} (h : LgAt B L0 t V) (k : KS (SB L0) V V') (hb : Bld (L0 + 1) (L0 + 1) T' V') : LgAt B L0 ⟨t.O, T', t.f⟩ V' := by
  have hbld := h.bld
  obtain ⟨⟨v, h1, h2⟩, _, h4⟩ := h
  refine ⟨⟨v, ks_box k h1 (fun hs => hs.elim (by omega) (notT (by decide))), owns_same h2 fun g c fz hg => k.2 g _ hg (fun hs => ?_)⟩, hb, ks_box k h4 (fun hs => hs.elim (by omega) (notT (by decide)))⟩
  rcases hs with hs | hs
  · subst hs
    rcases hbld with hb2 | hb2 <;>
    · obtain ⟨_, u, hu, _⟩ := hb2
      rw [hu] at hg
      injection hg with hg
      injection hg with _ hg _
      exact absurd hg (by decide)
  · exact notT (by decide) hs
theorem LgAt.on {B L0 : Nat} {t : Lst} {V V' : World} (h : LgAt B L0 t V) (b : Below V.heap.size V V') : LgAt B L0 t V' := by
  obtain ⟨⟨v, h1, h2⟩, h3, h4⟩ := h
  exact ⟨⟨v, boxed_below h1 b, owns_same h2 fun g c fz hg => (b.block g (Array.getElem?_eq_some_iff.1 hg).1).trans hg⟩, bld_below h3 b, boxed_below h4 b⟩
theorem line_info : (Tryz.prog.info? 66).map (fun i => (i.zero, i.size, i.bytes)) = some (some (.agg #[.int .i64 0, .string ⟨#[]⟩]), 2, 24) := by kernel_rfl
theorem bld_cells {B b : Nat} {l : List UInt8} {w : World} (h : Bld B b l w) : ∃ p v, w.heap[b]? = some (.cells #[p, v] 107 (0, 0)) := by
  rcases h with ⟨_, v, hb, _⟩ | ⟨_, v, hb, _⟩
  · exact ⟨_, v, hb⟩
  · exact ⟨_, v, hb⟩
set_option maxRecDepth 100000 in
set_option maxHeartbeats 4000000 in
theorem reset_call (b : Nat) (l : List UInt8) (w : World) (h : Bld b b l w) : Calls Tryz.prog 68 #[.pointer (some ⟨b, 0, none⟩)] w fun e w' => e = .returned (.tuple #[]) ∧ Bld b b [] w' ∧ KS (fun k _ => k = b) w w' ∧ Below b w w' := by
  obtain ⟨p, v, hb⟩ := bld_cells h
  have c0 : w.cell? ⟨b, 0, none⟩ = some p := by rw [Lib.cell_of_heap hb]; rfl
  have c1 : w.cell? ⟨b, 1, none⟩ = some v := by rw [Lib.cell_of_heap hb]; rfl
  have f0 : w.frozen? ⟨b, 0, none⟩ = false := Lib.frozen_of_heap hb 0
  have f1 : w.frozen? ⟨b, 1, none⟩ = false := Lib.frozen_of_heap hb 1
  have HB := Lib.hid hb
  clear h hb
  go_enter Tryz.func68, Tryz.ntmps68
  go_wp2
  go_end0
  refine ⟨rfl, Or.inl ⟨Nat.le_refl _, .slice none 0 0, ?_, World.ownsRowF_of (World.ownsRow_nil _ _ _ _), by simp [Value.ownBlock]⟩, (KS.set _ _ _ _ (fun _ => rfl)).trans (KS.set _ _ _ _ (fun _ => rfl)), ((Below.refl _ _).setCell (p := ⟨b, 0, none⟩) (Nat.le_refl _) _).setCell (p := ⟨b, 1, none⟩) (Nat.le_refl _) _⟩
  simp [World.setCell, Array.getElem?_modify, HB.out]
theorem obj_ne {W : World} {k : Nat} {c c' : Array Value} {t t' : TypeId} {fz fz' : Nat × Nat} (h : W.heap[k]? = some (.cells c t fz)) (h' : W.heap[k]? = some (.cells c' t' fz')) (hne : t ≠ t') : False := by
  rw [h] at h'
  injection h' with h'
  injection h' with _ e _
  exact hne e
theorem LgAt.num_set {B L0 : Nat} {t : Lst} {V : World} (h : LgAt B L0 t V) (n : Nat) : LgAt B L0 ⟨t.O, t.T, n⟩ (V.setCell ⟨L0 + 2, 0, none⟩ (.int .i64 (n : Int))) := by
  have hs : ∀ (k : Nat) (c : Array Value) (ty : TypeId) (fz : Nat × Nat), V.heap[k]? = some (.cells c ty fz) → ty ≠ 3 → (V.setCell ⟨L0 + 2, 0, none⟩ (.int .i64 (n : Int))).heap[k]? = some (.cells c ty fz) := fun k c ty fz hk hne =>
    (heap_setCell_other V ⟨L0 + 2, 0, none⟩ k _ (fun e => by subst e; exact obj_ne hk h.num hne)).trans hk
  obtain ⟨⟨v, h1, h2⟩, h3, h4⟩ := h
  exact ⟨⟨v, hs _ _ _ _ h1 (by decide), owns_same h2 fun g c fz hg => hs g c _ fz hg (by decide)⟩, bld_same h3 fun k c ty fz hk ht => hs k c ty fz hk (by rcases ht with rfl | rfl <;> decide), h4.set _⟩
theorem own_typed {W : World} {B n s k : Nat} {e : TypeId} {v : Value} {xs : List Value} (h : W.ownsRow B e s v n xs) (hk : v.ownBlock = some k) : ∃ c, W.heap[k]? = some (.cells c e (0, 0)) := by
  rcases h.2 with ⟨rfl, _⟩ | ⟨g, cap, cur, rfl, _, hg, _⟩
  · cases hk
  · injection hk with hk
    exact ⟨cur, by rw [← hk]; exact hg⟩
theorem ks_app {W W' : World} {B n s : Nat} {e : TypeId} {v : Value} {xs : List Value} (h : W.ownsRow B e s v n xs) (hg : W.grownBy W' v.ownBlock) : KS (fun _ o => isT e o) W W' :=
  ⟨hg.size, fun k o hk hs => (hg.block k (Array.getElem?_eq_some_iff.1 hk).1 (fun e' => by
    obtain ⟨c, hc⟩ := own_typed h e'.symm
    rw [hc] at hk
    injection hk with hk
    exact hs ⟨c, _, hk.symm⟩)).trans hk⟩
theorem LgAt.put_line {B L0 : Nat} {t : Lst} {V wA : World} {v vA : Value} {O' : List (Nat × List UInt8)} (h : LgAt B L0 t V) (hbx : Boxed V L0 62 v) (hrow : V.ownsRow B 66 2 v t.O.length (lnC t.O)) (hg : V.grownBy wA v.ownBlock) (hBL : L0 ≤ B) (hV : L0 ≤ V.heap.size)
    (hA : wA.ownsRow B 66 2 vA O'.length (lnC O')) : Boxed wA L0 62 v ∧ LgAt B L0 ⟨O', t.T, t.f⟩ (wA.setCell ⟨L0, 0, none⟩ vA) ∧ KS (SL L0) V (wA.setCell ⟨L0, 0, none⟩ vA) ∧ Below L0 V (wA.setCell ⟨L0, 0, none⟩ vA) := by
  have ka := ks_app hrow hg
  have hb := ks_box ka hbx (notT (by decide))
  have hs : ∀ (k : Nat) (c : Array Value) (ty : TypeId) (fz : Nat × Nat), V.heap[k]? = some (.cells c ty fz) → ty ≠ 66 → ty ≠ 62 → (wA.setCell ⟨L0, 0, none⟩ vA).heap[k]? = some (.cells c ty fz) := fun k c ty fz hk h1 h2 =>
    (heap_setCell_other wA ⟨L0, 0, none⟩ k _ (fun e => by subst e; exact obj_ne hk hbx h2)).trans (ka.2 k _ hk (notT h1))
  refine ⟨hb, ⟨⟨vA, hb.set vA, owns_same hA fun g c fz hg2 => (heap_setCell_other wA ⟨L0, 0, none⟩ g _ (fun e => by subst e; exact obj_ne hg2 hb (by decide))).trans hg2⟩,
    bld_same h.bld fun k c ty fz hk ht => hs k c ty fz hk (by rcases ht with rfl | rfl <;> decide) (by rcases ht with rfl | rfl <;> decide), hs _ _ _ _ h.num (by decide) (by decide)⟩,
    (ka.wide (fun k o hx => .inr (.inr (.inr (.inr hx))))).trans (KS.set _ _ _ _ (fun _ => .inl rfl)), ?_⟩
  refine ((Below.refl L0 V).grown hg hV (fun k e => ?_)).setCell (p := ⟨L0, 0, none⟩) (Nat.le_refl _) _
  have := (hrow.lt k e).1
  omega
end Go.Proofs.YtgigdhincpcdbaaGreatDoor
namespace Go.Proofs.YtgigdhincpcdbaaGreatDoor
open Go.RowKit Go.Shelf
set_option linter.unusedVariables false
set_option linter.unusedSimpArgs false
attribute [local go_sem ↓] Go.wp_at_zero Go.wp_at_succ

set_option maxRecDepth 100000 in
set_option maxHeartbeats 8000000 in
theorem end_none (B : Nat) (t : Lst) (w V : World) (hG : G12 w) (hV : Below w.heap.size w V) (h : LgAt B w.heap.size t V) (hT : t.T.length ≤ 1099511627776) (hO : t.O.length ≤ 1000) (hB : w.heap.size ≤ B) (hBV : B ≤ V.heap.size) (hz : w.heap.size + 3 ≤ V.heap.size) (h0 : trimL t.T = []) :
    Calls Tryz.prog 65 #[.pointer (some ⟨w.heap.size + 1, 0, none⟩), .pointer (some ⟨w.heap.size, 0, none⟩), .pointer (some ⟨w.heap.size + 2, 0, none⟩)] V fun e V' => e = .returned (.tuple #[]) ∧ LgAt B w.heap.size ⟨emitL t.O t.T t.f, [], 0⟩ V' ∧ KS (SL w.heap.size) V V' ∧ Below w.heap.size V V' := by
  have HST := Lib.hid (show Calls Tryz.prog 67 #[.pointer (some ⟨w.heap.size + 1, 0, none⟩)] V fun e V' => e = .returned (.string (bs t.T)) ∧ (Bld (w.heap.size + 1) (w.heap.size + 1) t.T V' ∧ Below (w.heap.size + 1) V V' ∧ OthK (w.heap.size + 1) V V') from Tryz.Builder_String_any_k (w.heap.size + 1) (w.heap.size + 1) t.T V h.bld (by omega))
  have HTR := Lib.hid (fun W (b : Below w.heap.size w W) => trim_in t.T (by unfold maxLen; omega) W (G12_on hG b))
  have HV := Lib.hid hV
  have HLG := Lib.hid h
  have HZ := Lib.hid hz
  have HBV := Lib.hid hBV
  rw [h0] at HTR
  rw [show emitL t.O t.T t.f = t.O by unfold emitL; rw [if_pos h0]]
  have e1 : bs [] = ⟨#[]⟩ := rfl
  rw [e1] at HTR
  clear hG hV h hT hO hB hBV hz h0 e1
  go_enter Tryz.func65, Tryz.ntmps65
  go_wp2_with (first
    | (go_at_call 67
       (with_reducible refine (HST.out).mono ?_)
       rintro e V1 ⟨rfl, hb1, b1, k1⟩
       have K1 := Lib.hid (ks_oth (L0 := w.heap.size) (b1.size) k1)
       have B1 := Lib.hid (b1.mono (Nat.le_succ w.heap.size))
       have L1 := Lib.hid (HLG.out.byB K1.out hb1)
       clear hb1 b1 k1)
    | (go_at_call 66
       (with_reducible refine (HTR.out _ (HV.out.trans B1.out)).mono ?_)
       rintro e V2 ⟨rfl, b2⟩
       have K2 := Lib.hid ((K1.out.wide (T := SL w.heap.size) (fun k o hx => SB_SL hx)).trans (KS.below b2))
       have B2 := Lib.hid (B1.out.trans (b2.mono (Nat.le_trans (by have := HZ.out; omega) K1.out.1)))
       have hL2 := L1.out.on b2
       have L2 := Lib.hid hL2
       have c2 := hL2.num.cell
       have f2 := hL2.num.frozen
       have HL3 := Lib.hid (show LgAt B w.heap.size ⟨t.O, t.T, 0⟩ (V2.setCell ⟨w.heap.size + 2, 0, none⟩ (.int .i64 0)) from hL2.num_set 0)
       clear b2 hL2)
    | (go_at_call 68
       (with_reducible refine (reset_call _ t.T _ HL3.out.bld).mono ?_)
       rintro e V4 ⟨rfl, hb4, k4, b4⟩
       have HB4 := Lib.hid hb4
       have K4 := Lib.hid k4
       have C4 := Lib.hid b4
       clear hb4 k4 b4))
  go_end0
  have K3 := KS.set (S := SL w.heap.size) V2 (w.heap.size + 2) 0 (.int .i64 0) (fun _ => .inr (.inr (.inl rfl)))
  refine ⟨rfl, ?_, (K2.out.trans K3).trans (K4.out.wide (fun k o hx => .inr (.inl hx))), (B2.out.trans ((Below.refl _ _).setCell (p := ⟨w.heap.size + 2, 0, none⟩) (show w.heap.size ≤ w.heap.size + 2 by omega) _)).trans (C4.out.mono (Nat.le_succ _))⟩
  exact HL3.out.byB (K4.out.wide (fun k o hx => .inl hx)) HB4.out
set_option maxRecDepth 100000 in
set_option maxHeartbeats 8000000 in
theorem end_some (B : Nat) (t : Lst) (w V : World) (hG : G12 w) (hV : Below w.heap.size w V) (h : LgAt B w.heap.size t V) (hT : t.T.length ≤ 1099511627776) (hO : t.O.length ≤ 1000) (hB : w.heap.size ≤ B) (hBV : B ≤ V.heap.size) (hz : w.heap.size + 3 ≤ V.heap.size) (h0 : trimL t.T ≠ []) :
    Calls Tryz.prog 65 #[.pointer (some ⟨w.heap.size + 1, 0, none⟩), .pointer (some ⟨w.heap.size, 0, none⟩), .pointer (some ⟨w.heap.size + 2, 0, none⟩)] V fun e V' => e = .returned (.tuple #[]) ∧ LgAt B w.heap.size ⟨emitL t.O t.T t.f, [], 0⟩ V' ∧ KS (SL w.heap.size) V V' ∧ Below w.heap.size V V' := by
  obtain ⟨i1, hi1, kz0, kz1, kz2⟩ := info_parts line_info
  have KI := Lib.hid hi1
  have KZ0 := Lib.hid kz0
  have KZ1 := Lib.hid kz1
  have KZ2 := Lib.hid kz2
  have HST := Lib.hid (show Calls Tryz.prog 67 #[.pointer (some ⟨w.heap.size + 1, 0, none⟩)] V fun e V' => e = .returned (.string (bs t.T)) ∧ (Bld (w.heap.size + 1) (w.heap.size + 1) t.T V' ∧ Below (w.heap.size + 1) V V' ∧ OthK (w.heap.size + 1) V V') from Tryz.Builder_String_any_k (w.heap.size + 1) (w.heap.size + 1) t.T V h.bld (by omega))
  have HTR := Lib.hid (fun W (b : Below w.heap.size w W) => trim_in t.T (by unfold maxLen; omega) W (G12_on hG b))
  have HV := Lib.hid hV
  have HLG := Lib.hid h
  have HZ := Lib.hid hz
  have HBV := Lib.hid hBV
  have HO := Lib.hid hO
  have HBB := Lib.hid hB
  obtain ⟨x, hx⟩ : ∃ x, x = trimL t.T := ⟨_, rfl⟩
  have HE := Lib.hid (show emitL t.O t.T t.f = t.O ++ [(t.f, x)] by unfold emitL; rw [if_neg h0, hx])
  rw [HE.out]
  rw [← hx] at HTR h0
  obtain ⟨S, hS⟩ : ∃ S, S = bs x := ⟨_, rfl⟩
  have e0 : S.toList.isEmpty = false := by rw [hS, bs_toList]; cases x with | nil => exact absurd rfl h0 | cons a b => rfl
  have e1 : (S.toList == []) = false := by rw [hS, bs_toList]; cases x with | nil => exact absurd rfl h0 | cons a b => rfl
  have e2 : S.toList ≠ [] := by rw [hS, bs_toList]; exact h0
  have HN := Lib.hid (show ([.int .i64 ((t.f : Nat) : Int), .string S] : List Value) = lnC [(t.f, x)] by rw [hS]; rfl)
  rw [← hS] at HTR
  clear hi1 kz0 kz1 kz2 hG hV h hT hO hB hBV hz h0 hx hS
  go_enter Tryz.func65, Tryz.ntmps65
  go_wp2_with (first
    | (go_at_call 67
       (with_reducible refine (HST.out).mono ?_)
       rintro e V1 ⟨rfl, hb1, b1, k1⟩
       have K1 := Lib.hid (ks_oth (L0 := w.heap.size) (b1.size) k1)
       have B1 := Lib.hid (b1.mono (Nat.le_succ w.heap.size))
       have L1 := Lib.hid (HLG.out.byB K1.out hb1)
       clear hb1 b1 k1)
    | (go_at_call 66
       (with_reducible refine (HTR.out _ (HV.out.trans B1.out)).mono ?_)
       rintro e V2 ⟨rfl, b2⟩
       have K2 := Lib.hid ((K1.out.wide (T := SL w.heap.size) (fun k o hx => SB_SL hx)).trans (KS.below b2))
       have B2 := Lib.hid (B1.out.trans (b2.mono (Nat.le_trans (by have := HZ.out; omega) K1.out.1)))
       have hL2 := L1.out.on b2
       have L2 := Lib.hid hL2
       have c2 := hL2.num.cell
       have f2 := hL2.num.frozen
       obtain ⟨vL, hbx, hrw⟩ := hL2.box
       have cL := hbx.cell
       have fL := hbx.frozen
       have HBX := Lib.hid hbx
       have HRW := Lib.hid hrw
       clear hbx hrw
       clear b2 hL2)
    | (at_builtin
       refine wpList_append_own _ rfl _ _ 62 rfl B 66 i1 _ 2 24 Tryz.underlying62 KI.out KZ0.out KZ1.out KZ2.out rfl (by omega) vL _ _ rfl (HRW.out.alloc _) ⟨V2.heap.size, 0, none⟩ 1 1 (lnC [(t.f, x)]) rfl rfl (news_lit _ _ _ _ HN.out) (lnC_one _) (by have := HO.out; unfold maxLen; omega) (by have := HO.out; omega) (by have := K2.out.1; have := HBV.out; simp; omega) ?_
       intro vA wA oA hA _
       obtain ⟨qA, cpA, rfl⟩ := own_form12 oA
       rw [← lnC_app] at oA
       obtain ⟨q1, q2, q3, q4⟩ := LgAt.put_line (O' := t.O ++ [(t.f, x)]) (L2.out.on (ball V2 _)) (HBX.out.alloc _) (HRW.out.alloc _) hA HBB.out (by have := K2.out.1; have := HZ.out; simp; omega) (by rw [List.length_append]; exact oA)
       have cA := q1.cell
       have fA := q1.frozen
       have Q2 := Lib.hid q2
       have Q3 := Lib.hid q3
       have Q4 := Lib.hid q4
       have c3 := q2.num.cell
       have f3 := q2.num.frozen
       have HL3 := Lib.hid (show LgAt B w.heap.size ⟨t.O ++ [(t.f, x)], t.T, 0⟩ ((wA.setCell ⟨w.heap.size, 0, none⟩ (.slice qA (t.O.length + 1) cpA)).setCell ⟨w.heap.size + 2, 0, none⟩ (.int .i64 0)) from q2.num_set 0)
       clear oA hA q1 q2 q3 q4)
    | (go_at_call 68
       (with_reducible refine (reset_call _ t.T _ HL3.out.bld).mono ?_)
       rintro e V4 ⟨rfl, hb4, k4, b4⟩
       have HB4 := Lib.hid hb4
       have K4 := Lib.hid k4
       have C4 := Lib.hid b4
       clear hb4 k4 b4))
  go_end0
  have A2 := ball V2 (.cells #[.int .i64 ((t.f : Nat) : Int), .string S] 66)
  have K5 := KS.set (S := SL w.heap.size) (wA.setCell ⟨w.heap.size, 0, none⟩ (.slice qA (t.O.length + 1) cpA)) (w.heap.size + 2) 0 (.int .i64 0) (fun _ => .inr (.inr (.inl rfl)))
  have z2 : w.heap.size ≤ V2.heap.size := by have := K2.out.1; have := HZ.out; omega
  refine ⟨rfl, ?_, (((K2.out.trans (KS.below A2)).trans Q3.out).trans K5).trans (K4.out.wide (fun k o hx => .inr (.inl hx))), (((B2.out.trans (A2.mono z2)).trans Q4.out).trans ((Below.refl _ _).setCell (p := ⟨w.heap.size + 2, 0, none⟩) (show w.heap.size ≤ w.heap.size + 2 by omega) _)).trans (C4.out.mono (Nat.le_succ _))⟩
  exact HL3.out.byB (K4.out.wide (fun k o hx => .inl hx)) HB4.out
/-- What the closure leaves. -/
theorem end_call (B : Nat) (t : Lst) (w V : World) (hG : G12 w) (hV : Below w.heap.size w V) (h : LgAt B w.heap.size t V) (hT : t.T.length ≤ 1099511627776) (hO : t.O.length ≤ 1000) (hB : w.heap.size ≤ B) (hBV : B ≤ V.heap.size) (hz : w.heap.size + 3 ≤ V.heap.size) :
    Calls Tryz.prog 65 #[.pointer (some ⟨w.heap.size + 1, 0, none⟩), .pointer (some ⟨w.heap.size, 0, none⟩), .pointer (some ⟨w.heap.size + 2, 0, none⟩)] V fun e V' => e = .returned (.tuple #[]) ∧ LgAt B w.heap.size ⟨emitL t.O t.T t.f, [], 0⟩ V' ∧ KS (SL w.heap.size) V V' ∧ Below w.heap.size V V' := by
  by_cases h0 : trimL t.T = []
  · exact end_none B t w V hG hV h hT hO hB hBV hz h0
  · exact end_some B t w V hG hV h hT hO hB hBV hz h0
end Go.Proofs.YtgigdhincpcdbaaGreatDoor
namespace Go.Proofs.YtgigdhincpcdbaaGreatDoor
open Go.RowKit Go.Shelf
set_option linter.unusedVariables false
set_option linter.unusedSimpArgs false
attribute [local go_sem] Oper.semAt_some

theorem cutS_call (l : List UInt8) (hl : l.length ≤ 140737488355328) (w : World) : Calls Tryz.prog 70 #[.string (bs l), .string ⟨#[92]⟩] w fun e w' => e = .returned (.tuple #[.string (bs (Lib.trimSuffix l [92])), .bool (Lib.hasSuffix l [92])]) ∧ w = w' :=
  (Tryz.strings_CutSuffix (bs l) ⟨#[92]⟩ w (by rw [bs_size]; omega)).mono fun e w' ⟨h1, h2⟩ => ⟨h1, h2.symm⟩
theorem con_yes {s : List UInt8} (h : Lib.hasSuffix s [92] = true) : Lib.trimSuffix s [92] = s.dropLast := by
  unfold Lib.trimSuffix
  rw [if_pos h, List.dropLast_eq_take]; rfl
theorem con_no {s : List UInt8} (h : Lib.hasSuffix s [92] = false) : Lib.trimSuffix s [92] = s := by
  unfold Lib.trimSuffix
  rw [h, if_neg Bool.false_ne_true]
theorem LgAt.far {B L0 z : Nat} {t : Lst} {V : World} {c : Array Value} {ty : TypeId} {fz : Nat × Nat} (h : LgAt B L0 t V) (hz : L0 + 2 < z) (hc : V.heap[z]? = some (.cells c ty fz)) (ht : TyN ty) (v : Value) : LgAt B L0 t (V.setCell ⟨z, 0, none⟩ v) := by
  have hn : ∀ (k : Nat) (c' : Array Value) (ty' : TypeId) (fz' : Nat × Nat), V.heap[k]? = some (.cells c' ty' fz') → (ty' = 107 ∨ ty' = 5 ∨ ty' = 66) → (V.setCell ⟨z, 0, none⟩ v).heap[k]? = some (.cells c' ty' fz') := fun k c' ty' fz' hk hty =>
    (heap_setCell_other V ⟨z, 0, none⟩ k _ (fun e => by
      subst e
      refine obj_ne hk hc ?_
      rcases hty with rfl | rfl | rfl <;> rcases ht with rfl | rfl | rfl <;> decide)).trans hk
  obtain ⟨⟨u, h1, h2⟩, h3, h4⟩ := h
  exact ⟨⟨u, boxed_set h1 (by omega), owns_same h2 fun g c' fz' hg => hn g c' _ fz' hg (.inr (.inr rfl))⟩, bld_same h3 fun k c' ty' fz' hk hty => hn k c' ty' fz' hk (by rcases hty with h | h; exact .inl h; exact .inr (.inl h)), boxed_set h4 (by omega)⟩
theorem lgAt_own {B L0 : Nat} {t : Lst} {V V' : World} {row : Option Nat} (h : LgAt B L0 t V) (hg : V.grownBy V' row) (hr : ∀ r, row = some r → ∃ o : Obj, V.heap[r]? = some o ∧ o.isCells = false) : LgAt B L0 t V' := by
  obtain ⟨⟨u, h1, h2⟩, h3, h4⟩ := h
  exact ⟨⟨u, boxed_grown h1 hg hr, owned_grown h2 hg hr⟩, bld_grown h3 hg hr, boxed_grown h4 hg hr⟩
theorem ks_size {S : Nat → Obj → Prop} {A B : World} (h : KS S A B) : A.heap.size ≤ B.heap.size := h.1
/-- Between two rounds. -/
def LgI (w : World) (ls : List (List UInt8)) (k : Nat) (V : World) : Prop := LgAt (w.heap.size + 5) w.heap.size (stA ls k) V ∧ Boxed V (w.heap.size + 3) 1 (.func (.func 65) #[] #[.pointer (some ⟨w.heap.size + 1, 0, none⟩), .pointer (some ⟨w.heap.size, 0, none⟩), .pointer (some ⟨w.heap.size + 2, 0, none⟩)]) ∧ Below w.heap.size w V
theorem sl_not {L0 k : Nat} {o : Obj} (h : L0 + 2 < k) (hc : o.isCells = false) : ¬ SL L0 k o := fun hs => by
  rcases hs with h1 | h1 | h1 | ⟨c, fz, rfl⟩ | ⟨c, fz, rfl⟩
  · omega
  · omega
  · omega
  · cases hc
  · cases hc
theorem ks_from {L0 B : Nat} {V V' : World} (h : KS (SL L0) V V') (hB : L0 + 2 < B) : KeepsFrom B V V' := ⟨h.1, fun k o hk ho hc => h.2 k o ho (sl_not (by omega) hc)⟩
theorem ks_keepY {L0 B : Nat} {V V' : World} (h : KS (SL L0) V V') (hB : L0 + 2 < B) : KeepY TyN B V V' := ⟨h.1, fun z c t fz hz hc ht => h.2 z _ hc (fun hs => by
  rcases hs with h1 | h1 | h1 | h1 | h1
  · omega
  · omega
  · omega
  · exact notT (by rcases ht with rfl | rfl | rfl <;> decide) h1
  · exact notT (by rcases ht with rfl | rfl | rfl <;> decide) h1)⟩
theorem body_ends {w V V' : World} {ls : List (List UInt8)} {k N0 : Nat} (hN : N0 = w.heap.size + 5) (hL : LgAt (w.heap.size + 5) w.heap.size (stA ls (k + 1)) V') (hK : KS (SL w.heap.size) V V') (hF : Boxed V (w.heap.size + 3) 1 (.func (.func 65) #[] #[.pointer (some ⟨w.heap.size + 1, 0, none⟩), .pointer (some ⟨w.heap.size, 0, none⟩), .pointer (some ⟨w.heap.size + 2, 0, none⟩)])) (hB : Below w.heap.size w V') :
    KeepsFrom N0 V V' ∧ KeepY TyN N0 V V' ∧ LgI w ls (k + 1) V' :=
  ⟨ks_from hK (by omega), ks_keepY hK (by omega), hL, ks_box hK hF (fun hs => by rcases hs with h | h | h | h | h <;> first | omega | exact notT (by decide) h), hB⟩
/-- What logical has to return. -/
def LogTo (l : List UInt8) (w : World) (e : Ending) (w' : World) : Prop := ∃ v, e = .returned v ∧ LnsAt w' v (logR (linL l).length (linL l)) ∧ (∃ q n c, v = .slice q n c) ∧ Below w.heap.size w w'
set_option maxRecDepth 100000 in
set_option maxHeartbeats 16000000 in
theorem logical_call (a0 : Option Addr) (n cap : Nat) (l : List UInt8) (w : World) (hG : G12 w) (hl : l.length = n) (hn : n ≤ 65536) (hN : (linL l).length ≤ 1000) (hR : RdB w w.heap.size a0 l) :
    Calls Tryz.prog 47 #[.slice a0 n cap] w (LogTo l w) := by
  unfold LogTo
  have HNC := Lib.hid (fun W => numbered_call a0 n cap W)
  have HNG := Lib.hid (fun z W0 (hz : Boxed W0 z 22 (.slice a0 n cap)) (b : Below w.heap.size w W0) => numbered_gives z a0 n cap l W0 hz hl (by omega) (hR.on b))
  have HSL := Lib.hid (fun s (h : s ∈ linL l) => show s.length ≤ 65536 from by have := (linL_mem h).2; omega)
  obtain ⟨ls, hls⟩ : ∃ ls, ls = linL l := ⟨_, rfl⟩
  rw [← hls] at HNG HSL hN ⊢
  have HN := Lib.hid hN
  have HG := Lib.hid hG
  clear hl hn hR hls hN hG
  refine (callsIn_wide (n := 4)).1 ?_
  refine callsIn_of_wp_marks Tryz.func47 rfl trivial ?_ rfl
  simp only [Tryz.ntmps47, List.size_toArray, List.length_cons, List.length_nil, Nat.reduceAdd, Nat.reduceSub, Array.replicate_succ, Array.replicate_zero, List.push_toArray, List.append_toArray, List.nil_append, List.cons_append]
  gi_wp2_with (first
    | (refine ⟨trivial, ?_⟩
       gi_at_call 64
       refine (callsIn_wide.2 (HNC.out _)).mono ?_
       rintro e w2 ⟨rfl, rfl⟩))
  rename_i K0 hK0
  obtain ⟨W0, hW0⟩ : ∃ W0, W0 = ((((w.alloc (.cells #[.slice none 0 0] 62)).alloc (.cells #[.pointer none, .slice none 0 0] 107)).alloc (.cells #[.int .i64 0] 3)).alloc (.cells #[.func (.func 65) #[] #[.pointer (some ⟨w.heap.size + 1, 0, none⟩), .pointer (some ⟨w.heap.size, 0, none⟩), .pointer (some ⟨w.heap.size + 2, 0, none⟩)]] 1)).alloc (.cells #[.slice a0 n cap] 22) := ⟨_, rfl⟩
  have z0 : W0.heap.size = w.heap.size + 5 := by rw [hW0]; simp
  have B0 : Below w.heap.size w W0 := by rw [hW0]; exact (((((Below.refl _ _).alloc (Nat.le_refl _) _).alloc (by simp) _).alloc (by simp; omega) _).alloc (by simp; omega) _).alloc (by simp; omega) _
  have x0 : Boxed W0 w.heap.size 62 (.slice none 0 0) := by rw [hW0]; exact ((((Boxed.new w _ _).alloc _).alloc _).alloc _).alloc _
  have x1 : Bld (w.heap.size + 1) (w.heap.size + 1) [] W0 := by
    have h := bld_fresh (w.alloc (.cells #[.slice none 0 0] 62))
    rw [World.size_alloc] at h
    rw [hW0]; exact bld_alloc (bld_alloc (bld_alloc h _) _) _
  have x2 : Boxed W0 (w.heap.size + 2) 3 (.int .i64 ((0 : Nat) : Int)) := by
    have h := Boxed.new ((w.alloc (.cells #[.slice none 0 0] 62)).alloc (.cells #[.pointer none, .slice none 0 0] 107)) 3 (.int .i64 0)
    rw [World.size_alloc, World.size_alloc] at h
    rw [hW0]; exact (h.alloc _).alloc _
  have x3 : Boxed W0 (w.heap.size + 3) 1 (.func (.func 65) #[] #[.pointer (some ⟨w.heap.size + 1, 0, none⟩), .pointer (some ⟨w.heap.size, 0, none⟩), .pointer (some ⟨w.heap.size + 2, 0, none⟩)]) := by
    have h := Boxed.new (((w.alloc (.cells #[.slice none 0 0] 62)).alloc (.cells #[.pointer none, .slice none 0 0] 107)).alloc (.cells #[.int .i64 0] 3)) 1 (.func (.func 65) #[] #[.pointer (some ⟨w.heap.size + 1, 0, none⟩), .pointer (some ⟨w.heap.size, 0, none⟩), .pointer (some ⟨w.heap.size + 2, 0, none⟩)])
    rw [World.size_alloc, World.size_alloc, World.size_alloc] at h
    rw [hW0]; exact h.alloc _
  have x4 : Boxed W0 (w.heap.size + 4) 22 (.slice a0 n cap) := by
    have h := Boxed.new ((((w.alloc (.cells #[.slice none 0 0] 62)).alloc (.cells #[.pointer none, .slice none 0 0] 107)).alloc (.cells #[.int .i64 0] 3)).alloc (.cells #[.func (.func 65) #[] #[.pointer (some ⟨w.heap.size + 1, 0, none⟩), .pointer (some ⟨w.heap.size, 0, none⟩), .pointer (some ⟨w.heap.size + 2, 0, none⟩)]] 1)) 22 (.slice a0 n cap)
    rw [World.size_alloc, World.size_alloc, World.size_alloc, World.size_alloc] at h
    rw [hW0]; exact h
  simp only [Nat.add_assoc, Nat.reduceAdd]
  rw [← hW0]
  have hg := HNG.out _ _ x4 B0
  have I0 : LgI w ls 0 W0 := ⟨⟨⟨_, x0, World.ownsRow_nil _ _ _ _⟩, x1, x2⟩, x3, B0⟩
  have HZ0 := Lib.hid z0
  clear hW0 HNC HNG x0 x1 x2 x3 x4 B0
  refine wp_givesP (w0 := W0) (gf := 83) (lb := #[.pointer (some ⟨w.heap.size + 4, 0, none⟩)]) (Ty := TyN) (xs := pairV ls)
    rfl (enters_of Tryz.func83 (by kernel_rfl) rfl) hg (Below.refl _ _) (LgI w ls) (fun _ _ => False)
    (fun k A C row ⟨h1, h2, h3⟩ hg hr => ⟨lgAt_own h1 hg (fun r e => (hr r e).2), boxed_grown h2 hg (fun r e => (hr r e).2), h3.grown hg h3.size (fun k e => by have := (hr k e).1; omega)⟩)
    (fun _ _ _ _ h _ _ => h)
    (fun k z V v c t fz hz hc ht ⟨h1, h2, h3⟩ => ⟨h1.far (by omega) hc ht v, boxed_set h2 (by omega), h3.setCell (p := ⟨z, 0, none⟩) (by show w.heap.size ≤ z; omega) v⟩)
    I0 ?after ?assign ?body ?done ?stop
  case assign =>
    intro lp x V K hK
    gi_wp2
    exact hK
  case body =>
    rintro lp k x V hx ⟨hL, hF, hB⟩ hz
    obtain ⟨s, hs, rfl⟩ := pairV_at hx
    have hsl := HSL.out s (List.mem_of_getElem? hs)
    have hk1 : k < ls.length := (List.getElem?_eq_some_iff.1 hs).1
    have hk2 := HN.out
    have hlen := st_len ls 65536 HSL.out k
    have HST := Lib.hid (stA_at hs)
    have HCM := Lib.hid (com_in s (by unfold maxLen; omega) V (G12_on HG.out hB))
    have HZV := Lib.hid (show w.heap.size + 7 ≤ V.heap.size by omega)
    obtain ⟨t, ht⟩ : ∃ t, t = stA ls k := ⟨_, rfl⟩
    rw [← ht] at HST hL hlen
    clear ht I0 z0 hz hK0
    obtain ⟨O, T, f⟩ := t
    obtain ⟨hO, hT, _⟩ := hlen
    simp only at hO hT
    have hT2 : T.length ≤ 65537000 := by
      have : (65536 + 1) * k ≤ 65537 * 1000 := Nat.mul_le_mul_left _ (by omega)
      omega
    have HL := Lib.hid hL
    have HF := Lib.hid hF
    have HB := Lib.hid hB
    have hlen : k ≤ 1000 := by omega
    cases hc : comL s with
    | true =>
      rw [hc] at HCM
      have HE := Lib.hid (show stepG k s ⟨O, T, f⟩ = ⟨O, T, f⟩ by unfold stepG; rw [hc, if_pos rfl])
      clear hx hs hsl hk1 hk2 hL hF hB hc hg hO hT hT2 hlen
      gi_wp2_with (refine ⟨trivial, ?_⟩
                   gi_at_call 69
                   refine (CallsIn.inRound lp (callsIn_wide.2 HCM.out)).mono ?_
                   rintro e V1 ⟨rfl, b1⟩)
      exact body_ends HZ0.out (by rw [HST.out, HE.out]; exact HL.out.on b1) (KS.below b1) HF.out (HB.out.trans (b1.mono HB.out.size))
    | false =>
      rw [hc] at HCM
      have hcl : conL s = Lib.hasSuffix s [92] := (suf_con s 92).symm
      cases hcon : Lib.hasSuffix s [92] with
      | true =>
        rw [hcon] at hcl
        by_cases hf : f = 0
        · subst hf
          have HCU := Lib.hid (fun W => cutS_call s (by omega) W)
          rw [hcon, show Lib.trimSuffix s [92] = s.dropLast from con_yes hcon] at HCU
          have hul : (s.dropLast).length ≤ 65536 := by rw [List.length_dropLast]; omega
          obtain ⟨u, hu⟩ : ∃ u, u = s.dropLast := ⟨_, rfl⟩
          rw [← hu] at HCU hul
          have HE := Lib.hid (show stepG k s ⟨O, T, 0⟩ = ⟨O, (T ++ u) ++ [32], k + 1⟩ by
            unfold stepG
            rw [hc, if_neg Bool.false_ne_true, hcl, if_pos rfl, hu]
            show (⟨O, T ++ (s.dropLast ++ [32]), numG k (0)⟩ : Lst) = _
            rw [show numG k (0) = k + 1 from rfl, List.append_assoc])
          have HW1 := Lib.hid (fun W (hb : Bld (w.heap.size + 1) (w.heap.size + 1) T W) (hz : w.heap.size + 1 ≤ W.heap.size) => write_call (w.heap.size + 1) (w.heap.size + 1) T u W hb (by omega) hz)
          have HW2 := Lib.hid (fun W (hb : Bld (w.heap.size + 1) (w.heap.size + 1) (T ++ u) W) (hz : w.heap.size + 1 ≤ W.heap.size) => show Calls Tryz.prog 71 #[.pointer (some ⟨w.heap.size + 1, 0, none⟩), .string ⟨#[32]⟩] W fun e w' => (∃ v, e = .returned v) ∧ Bld (w.heap.size + 1) (w.heap.size + 1) ((T ++ u) ++ [32]) w' ∧ Below (w.heap.size + 1) W w' ∧ OthK (w.heap.size + 1) W w' from write_call (w.heap.size + 1) (w.heap.size + 1) (T ++ u) [32] W hb (by rw [List.length_append]; simp; omega) hz)
          clear hx hs hu hcon hcl hc hlen hO hT hul hsl hL hF hB hg
          gi_wp2_with (first
            | (refine ⟨trivial, ?_⟩
               gi_at_call 69
               refine (CallsIn.inRound lp (callsIn_wide.2 HCM.out)).mono ?_
               rintro e V1 ⟨rfl, b1⟩
               have hL1 := HL.out.on b1
               have cN := hL1.num.cell
               have fN := hL1.num.frozen
               have LN1 := Lib.hid (show LgAt (w.heap.size + 5) w.heap.size ⟨O, T, k + 1⟩ (V1.setCell ⟨w.heap.size + 2, 0, none⟩ (.int .i64 ((k : Int) + 1))) from hL1.num_set (k + 1))
               have KN1 := Lib.hid (show KS (SL w.heap.size) V (V1.setCell ⟨w.heap.size + 2, 0, none⟩ (.int .i64 ((k : Int) + 1))) from (KS.below b1).trans (KS.set _ _ _ _ (fun _ => .inr (.inr (.inl rfl)))))
               have BN1 := Lib.hid (show Below w.heap.size w (V1.setCell ⟨w.heap.size + 2, 0, none⟩ (.int .i64 ((k : Int) + 1))) from (HB.out.trans (b1.mono HB.out.size)).setCell (p := ⟨w.heap.size + 2, 0, none⟩) (show w.heap.size ≤ w.heap.size + 2 by omega) _)
               clear b1 hL1)
            | (refine ⟨trivial, ?_⟩
               gi_at_call 70
               refine (CallsIn.inRound lp (callsIn_wide.2 (HCU.out _))).mono ?_
               rintro e w2 ⟨rfl, rfl⟩)
            | (refine ⟨trivial, ?_⟩
               gi_at_call 71
               (with_reducible refine (CallsIn.inRound lp (callsIn_wide.2 (HW1.out _ LN1.out.bld (Nat.le_trans (by have := HZV.out; omega) (ks_size KN1.out))))).mono ?_)
               rintro e V2 ⟨⟨v2, rfl⟩, h2, b2, k2⟩
               have K2 := Lib.hid (ks_oth (L0 := w.heap.size) b2.size k2)
               have hL2 := LN1.out.byB K2.out h2
               have L2 := Lib.hid hL2
               have KN2 := Lib.hid (KN1.out.trans (K2.out.wide (fun k o hx => SB_SL hx)))
               have BN2 := Lib.hid (BN1.out.trans (b2.mono (Nat.le_succ _)))
               have F2 := Lib.hid (ks_box KN2.out HF.out (fun hs => by rcases hs with h | h | h | h | h <;> first | omega | exact notT (by decide) h))
               have cF := F2.out.cell
               clear h2 b2 k2 hL2)
            | (refine ⟨trivial, ?_⟩
               gi_at_call 71
               (with_reducible refine (CallsIn.inRound lp (callsIn_wide.2 (HW2.out _ L2.out.bld (Nat.le_trans (by have := HZV.out; omega) (ks_size KN2.out))))).mono ?_)
               rintro e V3 ⟨⟨v3, rfl⟩, h3, b3, k3⟩
               have K3 := Lib.hid (ks_oth (L0 := w.heap.size) b3.size k3)
               have L3 := Lib.hid (L2.out.byB K3.out h3)
               have KN3 := Lib.hid (KN2.out.trans (K3.out.wide (fun k o hx => SB_SL hx)))
               have BN3 := Lib.hid (BN2.out.trans (b3.mono (Nat.le_succ _)))
               clear h3 b3 k3))
          exact body_ends HZ0.out (by rw [HST.out, HE.out]; exact L3.out) KN3.out HF.out BN3.out
        · have HCU := Lib.hid (fun W => cutS_call s (by omega) W)
          rw [hcon, show Lib.trimSuffix s [92] = s.dropLast from con_yes hcon] at HCU
          have hul : (s.dropLast).length ≤ 65536 := by rw [List.length_dropLast]; omega
          obtain ⟨u, hu⟩ : ∃ u, u = s.dropLast := ⟨_, rfl⟩
          rw [← hu] at HCU hul
          have HE := Lib.hid (show stepG k s ⟨O, T, f⟩ = ⟨O, (T ++ u) ++ [32], f⟩ by
            unfold stepG
            rw [hc, if_neg Bool.false_ne_true, hcl, if_pos rfl, hu]
            show (⟨O, T ++ (s.dropLast ++ [32]), numG k (f)⟩ : Lst) = _
            rw [show numG k (f) = f from if_neg hf, List.append_assoc])
          have HW1 := Lib.hid (fun W (hb : Bld (w.heap.size + 1) (w.heap.size + 1) T W) (hz : w.heap.size + 1 ≤ W.heap.size) => write_call (w.heap.size + 1) (w.heap.size + 1) T u W hb (by omega) hz)
          have HW2 := Lib.hid (fun W (hb : Bld (w.heap.size + 1) (w.heap.size + 1) (T ++ u) W) (hz : w.heap.size + 1 ≤ W.heap.size) => show Calls Tryz.prog 71 #[.pointer (some ⟨w.heap.size + 1, 0, none⟩), .string ⟨#[32]⟩] W fun e w' => (∃ v, e = .returned v) ∧ Bld (w.heap.size + 1) (w.heap.size + 1) ((T ++ u) ++ [32]) w' ∧ Below (w.heap.size + 1) W w' ∧ OthK (w.heap.size + 1) W w' from write_call (w.heap.size + 1) (w.heap.size + 1) (T ++ u) [32] W hb (by rw [List.length_append]; simp; omega) hz)
          have e0 : ((f : Int) == 0) = false := beq_eq_false_iff_ne.2 (by omega)
          clear hx hs hu hcon hcl hc hlen hO hT hul hsl hL hF hB hg hf
          gi_wp2_with (first
            | (refine ⟨trivial, ?_⟩
               gi_at_call 69
               refine (CallsIn.inRound lp (callsIn_wide.2 HCM.out)).mono ?_
               rintro e V1 ⟨rfl, b1⟩
               have hL1 := HL.out.on b1
               have cN := hL1.num.cell
               have fN := hL1.num.frozen
               have LN1 := Lib.hid (show LgAt (w.heap.size + 5) w.heap.size ⟨O, T, f⟩ V1 from hL1)
               have KN1 := Lib.hid (show KS (SL w.heap.size) V V1 from KS.below b1)
               have BN1 := Lib.hid (show Below w.heap.size w V1 from HB.out.trans (b1.mono HB.out.size))
               clear b1 hL1)
            | (refine ⟨trivial, ?_⟩
               gi_at_call 70
               refine (CallsIn.inRound lp (callsIn_wide.2 (HCU.out _))).mono ?_
               rintro e w2 ⟨rfl, rfl⟩)
            | (refine ⟨trivial, ?_⟩
               gi_at_call 71
               (with_reducible refine (CallsIn.inRound lp (callsIn_wide.2 (HW1.out _ LN1.out.bld (Nat.le_trans (by have := HZV.out; omega) (ks_size KN1.out))))).mono ?_)
               rintro e V2 ⟨⟨v2, rfl⟩, h2, b2, k2⟩
               have K2 := Lib.hid (ks_oth (L0 := w.heap.size) b2.size k2)
               have hL2 := LN1.out.byB K2.out h2
               have L2 := Lib.hid hL2
               have KN2 := Lib.hid (KN1.out.trans (K2.out.wide (fun k o hx => SB_SL hx)))
               have BN2 := Lib.hid (BN1.out.trans (b2.mono (Nat.le_succ _)))
               have F2 := Lib.hid (ks_box KN2.out HF.out (fun hs => by rcases hs with h | h | h | h | h <;> first | omega | exact notT (by decide) h))
               have cF := F2.out.cell
               clear h2 b2 k2 hL2)
            | (refine ⟨trivial, ?_⟩
               gi_at_call 71
               (with_reducible refine (CallsIn.inRound lp (callsIn_wide.2 (HW2.out _ L2.out.bld (Nat.le_trans (by have := HZV.out; omega) (ks_size KN2.out))))).mono ?_)
               rintro e V3 ⟨⟨v3, rfl⟩, h3, b3, k3⟩
               have K3 := Lib.hid (ks_oth (L0 := w.heap.size) b3.size k3)
               have L3 := Lib.hid (L2.out.byB K3.out h3)
               have KN3 := Lib.hid (KN2.out.trans (K3.out.wide (fun k o hx => SB_SL hx)))
               have BN3 := Lib.hid (BN2.out.trans (b3.mono (Nat.le_succ _)))
               clear h3 b3 k3))
          exact body_ends HZ0.out (by rw [HST.out, HE.out]; exact L3.out) KN3.out HF.out BN3.out

      | false =>
        rw [hcon] at hcl
        by_cases hf : f = 0
        · subst hf
          have HCU := Lib.hid (fun W => cutS_call s (by omega) W)
          rw [hcon, show Lib.trimSuffix s [92] = s from con_no hcon] at HCU
          have hul : (s).length ≤ 65536 := by omega
          have HE := Lib.hid (show stepG k s ⟨O, T, 0⟩ = ⟨emitL O (T ++ s) (k + 1), [], 0⟩ by
            unfold stepG
            rw [hc, if_neg Bool.false_ne_true, hcl, if_neg Bool.false_ne_true]
            show (⟨emitL O (T ++ s) (numG k (0)), [], 0⟩ : Lst) = _
            rw [show numG k (0) = k + 1 from rfl])
          have HW1 := Lib.hid (fun W (hb : Bld (w.heap.size + 1) (w.heap.size + 1) T W) (hz : w.heap.size + 1 ≤ W.heap.size) => write_call (w.heap.size + 1) (w.heap.size + 1) T s W hb (by omega) hz)
          have HEN := Lib.hid (fun W (hb : Below w.heap.size w W) (h : LgAt (w.heap.size + 5) w.heap.size ⟨O, T ++ s, k + 1⟩ W) (hz : w.heap.size + 5 ≤ W.heap.size) => end_call (w.heap.size + 5) ⟨O, T ++ s, k + 1⟩ w W HG.out hb h (by show (T ++ s).length ≤ _; rw [List.length_append]; omega) (by show O.length ≤ _; omega) (by omega) hz (by omega))
          clear hx hs hcon hcl hc hlen hO hT hul hsl hL hF hB hg
          gi_wp2_with (first
            | (refine ⟨trivial, ?_⟩
               gi_at_call 69
               refine (CallsIn.inRound lp (callsIn_wide.2 HCM.out)).mono ?_
               rintro e V1 ⟨rfl, b1⟩
               have hL1 := HL.out.on b1
               have cN := hL1.num.cell
               have fN := hL1.num.frozen
               have LN1 := Lib.hid (show LgAt (w.heap.size + 5) w.heap.size ⟨O, T, k + 1⟩ (V1.setCell ⟨w.heap.size + 2, 0, none⟩ (.int .i64 ((k : Int) + 1))) from hL1.num_set (k + 1))
               have KN1 := Lib.hid (show KS (SL w.heap.size) V (V1.setCell ⟨w.heap.size + 2, 0, none⟩ (.int .i64 ((k : Int) + 1))) from (KS.below b1).trans (KS.set _ _ _ _ (fun _ => .inr (.inr (.inl rfl)))))
               have BN1 := Lib.hid (show Below w.heap.size w (V1.setCell ⟨w.heap.size + 2, 0, none⟩ (.int .i64 ((k : Int) + 1))) from (HB.out.trans (b1.mono HB.out.size)).setCell (p := ⟨w.heap.size + 2, 0, none⟩) (show w.heap.size ≤ w.heap.size + 2 by omega) _)
               clear b1 hL1)
            | (refine ⟨trivial, ?_⟩
               gi_at_call 70
               refine (CallsIn.inRound lp (callsIn_wide.2 (HCU.out _))).mono ?_
               rintro e w2 ⟨rfl, rfl⟩)
            | (refine ⟨trivial, ?_⟩
               gi_at_call 71
               (with_reducible refine (CallsIn.inRound lp (callsIn_wide.2 (HW1.out _ LN1.out.bld (Nat.le_trans (by have := HZV.out; omega) (ks_size KN1.out))))).mono ?_)
               rintro e V2 ⟨⟨v2, rfl⟩, h2, b2, k2⟩
               have K2 := Lib.hid (ks_oth (L0 := w.heap.size) b2.size k2)
               have hL2 := LN1.out.byB K2.out h2
               have L2 := Lib.hid hL2
               have KN2 := Lib.hid (KN1.out.trans (K2.out.wide (fun k o hx => SB_SL hx)))
               have BN2 := Lib.hid (BN1.out.trans (b2.mono (Nat.le_succ _)))
               have F2 := Lib.hid (ks_box KN2.out HF.out (fun hs => by rcases hs with h | h | h | h | h <;> first | omega | exact notT (by decide) h))
               have cF := F2.out.cell
               clear h2 b2 k2 hL2)
            | (refine ⟨trivial, ?_⟩
               gi_at_call 65
               refine (CallsIn.inRound lp (callsIn_wide.2 (HEN.out _ BN2.out L2.out (Nat.le_trans (by have := HZV.out; omega) (ks_size KN2.out))))).mono ?_
               rintro e V3 ⟨rfl, h3, k3, b3⟩
               have L3 := Lib.hid h3
               have KN3 := Lib.hid (KN2.out.trans k3)
               have BN3 := Lib.hid (BN2.out.trans b3)
               clear h3 b3 k3))
          exact body_ends HZ0.out (by rw [HST.out, HE.out]; exact L3.out) KN3.out HF.out BN3.out
        · have HCU := Lib.hid (fun W => cutS_call s (by omega) W)
          rw [hcon, show Lib.trimSuffix s [92] = s from con_no hcon] at HCU
          have hul : (s).length ≤ 65536 := by omega
          have HE := Lib.hid (show stepG k s ⟨O, T, f⟩ = ⟨emitL O (T ++ s) (f), [], 0⟩ by
            unfold stepG
            rw [hc, if_neg Bool.false_ne_true, hcl, if_neg Bool.false_ne_true]
            show (⟨emitL O (T ++ s) (numG k (f)), [], 0⟩ : Lst) = _
            rw [show numG k (f) = f from if_neg hf])
          have HW1 := Lib.hid (fun W (hb : Bld (w.heap.size + 1) (w.heap.size + 1) T W) (hz : w.heap.size + 1 ≤ W.heap.size) => write_call (w.heap.size + 1) (w.heap.size + 1) T s W hb (by omega) hz)
          have HEN := Lib.hid (fun W (hb : Below w.heap.size w W) (h : LgAt (w.heap.size + 5) w.heap.size ⟨O, T ++ s, f⟩ W) (hz : w.heap.size + 5 ≤ W.heap.size) => end_call (w.heap.size + 5) ⟨O, T ++ s, f⟩ w W HG.out hb h (by show (T ++ s).length ≤ _; rw [List.length_append]; omega) (by show O.length ≤ _; omega) (by omega) hz (by omega))
          have e0 : ((f : Int) == 0) = false := beq_eq_false_iff_ne.2 (by omega)
          clear hx hs hcon hcl hc hlen hO hT hul hsl hL hF hB hg hf
          gi_wp2_with (first
            | (refine ⟨trivial, ?_⟩
               gi_at_call 69
               refine (CallsIn.inRound lp (callsIn_wide.2 HCM.out)).mono ?_
               rintro e V1 ⟨rfl, b1⟩
               have hL1 := HL.out.on b1
               have cN := hL1.num.cell
               have fN := hL1.num.frozen
               have LN1 := Lib.hid (show LgAt (w.heap.size + 5) w.heap.size ⟨O, T, f⟩ V1 from hL1)
               have KN1 := Lib.hid (show KS (SL w.heap.size) V V1 from KS.below b1)
               have BN1 := Lib.hid (show Below w.heap.size w V1 from HB.out.trans (b1.mono HB.out.size))
               clear b1 hL1)
            | (refine ⟨trivial, ?_⟩
               gi_at_call 70
               refine (CallsIn.inRound lp (callsIn_wide.2 (HCU.out _))).mono ?_
               rintro e w2 ⟨rfl, rfl⟩)
            | (refine ⟨trivial, ?_⟩
               gi_at_call 71
               (with_reducible refine (CallsIn.inRound lp (callsIn_wide.2 (HW1.out _ LN1.out.bld (Nat.le_trans (by have := HZV.out; omega) (ks_size KN1.out))))).mono ?_)
               rintro e V2 ⟨⟨v2, rfl⟩, h2, b2, k2⟩
               have K2 := Lib.hid (ks_oth (L0 := w.heap.size) b2.size k2)
               have hL2 := LN1.out.byB K2.out h2
               have L2 := Lib.hid hL2
               have KN2 := Lib.hid (KN1.out.trans (K2.out.wide (fun k o hx => SB_SL hx)))
               have BN2 := Lib.hid (BN1.out.trans (b2.mono (Nat.le_succ _)))
               have F2 := Lib.hid (ks_box KN2.out HF.out (fun hs => by rcases hs with h | h | h | h | h <;> first | omega | exact notT (by decide) h))
               have cF := F2.out.cell
               clear h2 b2 k2 hL2)
            | (refine ⟨trivial, ?_⟩
               gi_at_call 65
               refine (CallsIn.inRound lp (callsIn_wide.2 (HEN.out _ BN2.out L2.out (Nat.le_trans (by have := HZV.out; omega) (ks_size KN2.out))))).mono ?_
               rintro e V3 ⟨rfl, h3, k3, b3⟩
               have L3 := Lib.hid h3
               have KN3 := Lib.hid (KN2.out.trans k3)
               have BN3 := Lib.hid (BN2.out.trans b3)
               clear h3 b3 k3))
          exact body_ends HZ0.out (by rw [HST.out, HE.out]; exact L3.out) KN3.out HF.out BN3.out

  case done =>
    rintro V ⟨hL, hF, hB⟩ hK
    rw [pairV_len] at hL
    have hend := st_end ls
    have hlen := st_len ls 65536 HSL.out ls.length
    have hN2 := HN.out
    have hVz := (Array.getElem?_eq_some_iff.1 hK).1
    obtain ⟨⟨O, T, f⟩, ht⟩ : ∃ t, t = stA ls ls.length := ⟨_, rfl⟩
    rw [← ht] at hend hL hlen
    obtain ⟨hO, hT, _⟩ := hlen
    simp only at hend hO hT
    have hT2 : T.length ≤ 65537000 := by
      have : (65536 + 1) * ls.length ≤ 65537 * 1000 := Nat.mul_le_mul_left _ (by omega)
      omega
    have HEN := Lib.hid (end_call (w.heap.size + 5) ⟨O, T, f⟩ w V HG.out hB hL (by show T.length ≤ _; omega) (by show O.length ≤ _; omega) (by omega) (by omega) (by omega))
    rw [show emitL (⟨O, T, f⟩ : Lst).O (⟨O, T, f⟩ : Lst).T (⟨O, T, f⟩ : Lst).f = logR ls.length ls from hend] at HEN
    have cF := hF.cell
    have HB := Lib.hid hB
    have HK := Lib.hid hK
    clear hend hO hT hT2 ht hL hB hK hF hg hN2 hVz I0
    refine hK0 _ _ ?_
    clear hK0
    gi_wp2_with (refine ⟨trivial, ?_⟩
                 gi_at_call 65
                 refine (callsIn_wide.2 HEN.out).mono ?_
                 rintro e V3 ⟨rfl, h3, k3, b3⟩
                 obtain ⟨vL, hbx, hrw⟩ := h3.box
                 obtain ⟨q, c, rfl⟩ := own_form12 hrw
                 have cL := hbx.cell
                 have HRW := Lib.hid hrw
                 have B3 := Lib.hid b3
                 have K3 := Lib.hid k3
                 clear hrw hbx b3 k3 h3)
    have hK2 := K3.out.2 _ _ HK.out (sl_not (by omega) rfl)
    rw [HZ0.out] at hK2
    refine ⟨by simp, .inl ⟨_, _, rfl, run_takeDeferred hK2, ?_⟩⟩
    have hb := HB.out.trans B3.out
    exact ⟨_, results_tmp rfl _ _ _, _, rfl, lns_own (owned_grown HRW.out (grownBy_putObj' _ _ _) (fun r e => by cases e; exact ⟨_, hK2, rfl⟩)), ⟨_, _, _, rfl⟩, hb.grown (grownBy_putObj' _ _ _) hb.size (fun k e => by cases e; omega)⟩
  case stop =>
    rintro k V h _
    exact h.elim
end Go.Proofs.YtgigdhincpcdbaaGreatDoor
