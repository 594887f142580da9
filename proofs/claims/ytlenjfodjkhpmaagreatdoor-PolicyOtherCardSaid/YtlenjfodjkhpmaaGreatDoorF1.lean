/- Ascending calls: where one of a name is or would be; putting and taking at that place. No program, no condition. -/
import Derived.Test.YtlenjfodjkhpmaaGreatDoorTg
import Derived.Test.YtlenjfodjkhpmaaGreatDoorG1
import Derived.Deep.AppendLies
import Derived.Deep.QuietTactic
import Derived.BigQuiet
import Derived.WalkSmall
import Derived.Deep.RegionHeld3
import Derived.Deep.RegionWith
import Derived.Deep.RegionLaw
import Derived.Deep.MidRow
import Derived.BigRegion
namespace Go.Proofs.YtlenjfodjkhpmaaGreatDoor
set_option maxRecDepth 100000
open Go.RowKit
set_option linter.unusedVariables false
set_option linter.unusedSimpArgs false
attribute [local go_sem ↓] Go.wp_at_zero Go.wp_at_succ

section
variable {α : Type} {sz : Nat} {enc : α → List Value}
def rowC (enc : α → List Value) (O : List α) : List Value := O.flatMap enc
theorem rowC_app (a b : List α) : rowC enc (a ++ b) = rowC enc a ++ rowC enc b := List.flatMap_append
theorem rowC_one1 (x : α) : rowC enc [x] = enc x := by unfold rowC; simp
theorem rowC_length (hz : ∀ x, (enc x).length = sz) (O : List α) : (rowC enc O).length = O.length * sz := by
 induction O with
 | nil => simp [rowC]
 | cons x r ih =>
  rw [show x :: r = [x] ++ r from rfl, rowC_app, rowC_one1, List.length_append, hz, ih, List.length_append, List.length_singleton, Nat.add_mul, Nat.one_mul]
theorem rowC_oneCell (h1 : ∀ x, ∀ u ∈ enc x, u.oneCell' = true) (O : List α) : ∀ u ∈ rowC enc O, u.oneCell' = true := fun u hu => by
 obtain ⟨x, _, hx⟩ := List.mem_flatMap.1 hu
 exact h1 x u hx
theorem rowC_get (hz : ∀ x, (enc x).length = sz) : ∀ {O : List α} {k : Nat} {p : α}, O[k]? = some p → ∀ j u, (enc p)[j]? = some u → (rowC enc O)[k * sz + j]? = some u
 | [], k, p, h, _, _, _ => by simp at h
 | x :: r, 0, p, h, j, u, hu => by
   have e : x = p := Option.some.inj h
   subst e
   have hj := (List.getElem?_eq_some_iff.1 hu).1
   rw [show x :: r = [x] ++ r from rfl, rowC_app, rowC_one1, Nat.zero_mul, Nat.zero_add, List.getElem?_append_left hj]
   exact hu
 | x :: r, k + 1, p, h, j, u, hu => by
   have ih := rowC_get hz (O := r) (k := k) (p := p) (by simpa using h) j u hu
   rw [show x :: r = [x] ++ r from rfl, rowC_app, rowC_one1, List.getElem?_append_right (by rw [hz, Nat.succ_mul]; omega), hz, show (k + 1) * sz + j - sz = k * sz + j by rw [Nat.succ_mul]; omega]
   exact ih
def RowsAt (sz : Nat) (enc : α → List Value) (w : World) (v : Value) (O : List α) : Prop := ∃ q c, v = .slice q O.length c ∧ ∀ k p, O[k]? = some p → ∃ g o, q = some ⟨g, o, none⟩ ∧ ∀ j u, (enc p)[j]? = some u → w.cell? ⟨g, o + k * sz + j, none⟩ = some u
theorem RowsAt.on {w w' : World} {v : Value} {O : List α} (h : RowsAt sz enc w v O) (hb : Below w.heap.size w w') : RowsAt sz enc w' v O := by
 obtain ⟨q, c, rfl, hr⟩ := h
 refine ⟨q, c, rfl, fun k p hk => ?_⟩
 obtain ⟨g, o, rfl, hc⟩ := hr k p hk
 exact ⟨g, o, rfl, fun j u hu => (hb.cell (World.block_lt_of_cell? w _ (hc j u hu))).trans (hc j u hu)⟩
theorem RowsAt.nil (w : World) : RowsAt sz enc w (.slice none 0 0) [] := ⟨none, 0, rfl, fun k p h => by simp at h⟩
theorem rows_own (hz : ∀ x, (enc x).length = sz) {w : World} {B : Nat} {v : Value} {O : List α} {t : TypeId} (h : w.ownsRow B t sz v O.length (rowC enc O)) : RowsAt sz enc w v O := by
 rcases h.2 with ⟨rfl, e⟩ | ⟨g, cap, cur, rfl, hg, hh, hcap, hm, hs, ht⟩
 ·have : O = [] := List.eq_nil_of_length_eq_zero e
  subst this
  exact RowsAt.nil w
 ·refine ⟨_, _, rfl, fun k p hk => ⟨g, 0, rfl, fun j u hu => ?_⟩⟩
  have h1 := rowC_get hz hk j u hu
  rw [← ht, List.getElem?_take] at h1
  split at h1
  ·rw [Nat.zero_add, cell_of_row _ _ _ _ _ (0, 0) hh, ← Array.getElem?_toList]
   exact h1
  ·cases h1
theorem rows_lit (hz : ∀ x, (enc x).length = sz) (w : World) (O : List α) (t : TypeId) : RowsAt sz enc (w.alloc (.cells (rowC enc O).toArray t)) (.slice (some ⟨w.heap.size, 0, none⟩) O.length O.length) O := by
 refine ⟨_, _, rfl, fun k p hk => ⟨w.heap.size, 0, rfl, fun j u hu => ?_⟩⟩
 rw [Nat.zero_add, cell_of_row _ _ _ _ _ (0, 0) (heap_alloc_new w _), List.getElem?_toArray]
 exact rowC_get hz hk j u hu
theorem news_row (w : World) (cs : List Value) (t : TypeId) : ∀ j u, cs[j]? = some u → (w.alloc (.cells cs.toArray t)).cell? ((⟨w.heap.size, 0, none⟩ : Addr).add j) = some u := fun j u hu => by
 rw [Addr.add_lit, Nat.zero_add, cell_of_row _ _ _ _ _ (0, 0) (heap_alloc_new w _), List.getElem?_toArray]
 exact hu
end
structure Nte where
 file : ByteArray
 line : Int
 err : Int
 text : ByteArray
def encN (a : Nte) : List Value := [.string a.file, .int .i64 a.line, .int .i64 a.err, .string a.text]
theorem encN_len (a : Nte) : (encN a).length = 4 := rfl
theorem encN_one (a : Nte) : ∀ u ∈ encN a, u.oneCell' = true := fun u hu => by
 unfold encN at hu
 simp only [List.mem_cons, List.mem_nil_iff, or_false] at hu
 rcases hu with rfl | rfl | rfl | rfl <;> rfl
theorem nte_info : (Tryz.prog.info? 57).map (fun i => (i.zero, i.size, i.bytes)) = some (some (.agg #[.string ⟨#[]⟩, .int .i64 0, .int .i64 0, .string ⟨#[]⟩]), 4, 48) := by kernel_rfl
def encC (c : Cl) : List Value := [.string c.1, .int .u32 (c.2 : Nat)]
theorem encC_len (c : Cl) : (encC c).length = 2 := rfl
theorem encC_one (c : Cl) : ∀ u ∈ encC c, u.oneCell' = true := fun u hu => by
 unfold encC at hu
 simp only [List.mem_cons, List.mem_nil_iff, or_false] at hu
 rcases hu with rfl | rfl <;> rfl
theorem cl_info : (Tryz.prog.info? 67).map (fun i => (i.zero, i.size, i.bytes)) = some (some (.agg #[.string ⟨#[]⟩, .int .u32 0]), 2, 24) := by kernel_rfl
theorem LsAt.of_rows {w : World} {q : Option Addr} {n c : Nat} {L : List Cl} (h : RowsAt 2 encC w (.slice q n c) L) : LsAt w q L := fun k x hk => by
 obtain ⟨q', c', e, hr⟩ := h
 injection e with e1 e2 e3
 subst e1
 obtain ⟨g, o, rfl, hc⟩ := hr k x hk
 exact ⟨g, o, rfl, hc 0 _ rfl, hc 1 _ rfl⟩
theorem LsAt.of_own {w : World} {B n c : Nat} {t : TypeId} {q : Option Addr} {L : List Cl} (h : w.ownsRow B t 2 (.slice q n c) n (rowC encC L)) (hn : n = L.length) : LsAt w q L := by
 subst hn
 exact LsAt.of_rows (rows_own encC_len h)
/-! ### which lists may be -/
def okAt (K : ByteArray → Bool) (L : List Cl) (k : Nat) : Bool := match L[k]? with
 | none => true
 | some c => K c.1 && (decide (k = 0) || (match L[k - 1]? with | some d => lt16 d.1 c.1 | none => true)) && actOk c.2
def mayR (K : ByteArray → Bool) (m : Nat) (L : List Cl) : Bool := decide (m ≤ 2) && (decide (m ≠ 0) || L.isEmpty) && (List.range L.length).all (okAt K L)
theorem okAt_is {K : ByteArray → Bool} {L : List Cl} {k : Nat} {c : Cl} (h : L[k]? = some c) : okAt K L k = (K c.1 && (decide (k = 0) || (match L[k - 1]? with | some d => lt16 d.1 c.1 | none => true)) && actOk c.2) := by unfold okAt; rw [h]
theorem may_head {K : ByteArray → Bool} {m : Nat} {L : List Cl} (h : ¬ m ≤ 2 ∨ (m = 0 ∧ L ≠ [])) : mayR K m L = false := by
 unfold mayR
 rcases h with h | ⟨rfl, h⟩
 ·rw [decide_eq_false h]; rfl
 ·have : L.isEmpty = false := by cases L with | nil => exact absurd rfl h | cons _ _ => rfl
  rw [this]; simp
theorem may_good {K : ByteArray → Bool} {m : Nat} {L : List Cl} (h : m ≤ 2) (h0 : m = 0 → L = []) (ha : ∀ k, k < L.length → okAt K L k = true) : mayR K m L = true := by
 unfold mayR
 rw [decide_eq_true h, List.all_eq_true.2 (fun k hk => ha k (List.mem_range.1 hk)), Bool.and_true, Bool.true_and]
 by_cases e : m = 0
 ·rw [h0 e]; simp
 ·simp [e]
theorem asc_of {L : List Cl} (h : ∀ k a b, L[k]? = some a → L[k + 1]? = some b → lt16 a.1 b.1 = true) : Asc16 L := by
 unfold Asc16
 induction L with
 | nil => exact List.Pairwise.nil
 | cons x r ih =>
  have ih := ih fun k a b ha hb => h (k + 1) a b (by simpa using ha) (by simpa using hb)
  refine List.pairwise_cons.2 ⟨?_, ih⟩
  cases r with
  | nil => intro b hb; cases hb
  | cons y r =>
   have hxy := h 0 x y rfl rfl
   intro b hb
   rcases List.mem_cons.1 hb with rfl | hb
   ·exact hxy
   ·exact lt16_trans hxy ((List.pairwise_cons.1 ih).1 b hb)
theorem asc_at {L : List Cl} (h : Asc16 L) {k : Nat} {a b : Cl} (ha : L[k]? = some a) (hb : L[k + 1]? = some b) : lt16 a.1 b.1 = true := by
 obtain ⟨h1, rfl⟩ := List.getElem?_eq_some_iff.1 ha
 obtain ⟨h2, rfl⟩ := List.getElem?_eq_some_iff.1 hb
 exact List.pairwise_iff_getElem.1 h k (k + 1) h1 h2 (Nat.lt_succ_self k)
theorem may_iff {K : ByteArray → Bool} {m : Nat} {L : List Cl} : mayR K m L = true ↔ Okl K m L := by
 constructor
 ·intro h
  unfold mayR at h
  rw [Bool.and_eq_true, Bool.and_eq_true, decide_eq_true_eq, List.all_eq_true] at h
  obtain ⟨⟨h1, h2⟩, h3⟩ := h
  have hat : ∀ k c, L[k]? = some c → okAt K L k = true := fun k c hc => h3 k (List.mem_range.2 (List.getElem?_eq_some_iff.1 hc).1)
  refine ⟨h1, fun e => ?_, asc_of fun k a b ha hb => ?_, fun c hc => ?_⟩
  ·subst e
   cases L with
   | nil => rfl
   | cons _ _ => simp at h2
  ·have := hat (k + 1) b hb
   rw [okAt_is hb, Nat.add_sub_cancel, ha] at this
   simp at this
   exact this.1.2
  ·obtain ⟨k, hk⟩ := List.getElem?_of_mem hc
   have := hat k c hk
   rw [okAt_is hk, Bool.and_eq_true, Bool.and_eq_true] at this
   exact ⟨this.1.1, this.2⟩
 ·intro h
  refine may_good h.mode h.none fun k hk => ?_
  have hc : L[k]? = some (L[k]'hk) := List.getElem?_eq_getElem hk
  obtain ⟨h1, h2⟩ := h.each _ (List.getElem_mem hk)
  rw [okAt_is hc, h1, h2, Bool.true_and, Bool.and_true]
  cases k with
  | zero => simp
  | succ j =>
   have hj : L[j]? = some (L[j]'(by omega)) := List.getElem?_eq_getElem _
   rw [Nat.add_sub_cancel, hj]
   simp only
   rw [asc_at h.asc hj hc]; simp
set_option maxRecDepth 100000
open Go
set_option linter.unusedVariables false

theorem take_op2 {P : Program} {ops : Array Oper} {Q : Exit → Act → World → Prop} {md : Region.Mode} {S : World → Prop} {i : Nat} {dst : Option Tmp} {op : Op} {ty : _} {pos : _} {after : _} {guard : _} {v : Value} {fuel : Nat} {listed : Array Bool} {a : Act} {w : World} (hi : ops[i]? = some ⟨dst, op, ty, pos, after, guard⟩)
 (hs : Region.noSelect ops = true) (hf : Region.free md ops listed i = true) (hr : (Region.ready md ops listed).contains i = true)
 (hQ : ∀ c a w, Q (.panic c) (a.put dst v) w → Q (.panic c) a w) (hy : YieldsIf P ops S ⟨dst, op, ty, pos, after, guard⟩ v a) (hS : S w)
 (h : ∀ a', a' = a.put dst v → wpAnyH P md ops Q S fuel (listed.setIfInBounds i true) a' w) : wpAnyH P md ops Q S (fuel + 1) listed a w := wpAnyH_take hi hs hf hr hQ hy hS (h _ rfl)
theorem wanted_plain {o : Oper} {y : Nat → Option Bool} (h : o.guard = none) : Region.wanted o y = true := by simp [Region.wanted, h]
set_option maxRecDepth 100000
open Go.RowKit
set_option linter.unusedVariables false
set_option linter.unusedSimpArgs false
attribute [local go_sem ↓] Go.wp_at_zero Go.wp_at_succ

theorem geq16 (t : TypeId) (a b : ByteArray) : binOp .geq t (.string a) (.string b) = pure (.bool !(Go.Op.bytesLess a.toList b.toList)) := by simp [binOp, Op.stringOp]
attribute [local go_sem] geq16
theorem thn16 {u v w : World} (h : Below u.heap.size u v) (k : Below v.heap.size v w) : Below u.heap.size u w := h.trans (k.mono h.size)
theorem okAt_k {K : ByteArray → Bool} {L : List Cl} {k : Nat} {c : Cl} (h : L[k]? = some c) (hk : K c.1 = false) : okAt K L k = false := by rw [okAt_is h, hk]; rfl
theorem okAt_p {K : ByteArray → Bool} {L : List Cl} {j : Nat} {c d : Cl} (h : L[j + 1]? = some c) (hd : L[j]? = some d) (hl : lt16 d.1 c.1 = false) : okAt K L (j + 1) = false := by rw [okAt_is h, Nat.add_sub_cancel, hd]; simp [hl]
theorem okAt_0 {K : ByteArray → Bool} {L : List Cl} {c : Cl} (h : L[0]? = some c) (hk : K c.1 = true) : okAt K L 0 = actOk c.2 := by rw [okAt_is h, hk]; simp
theorem okAt_s {K : ByteArray → Bool} {L : List Cl} {j : Nat} {c d : Cl} (h : L[j + 1]? = some c) (hd : L[j]? = some d) (hk : K c.1 = true) (hl : lt16 d.1 c.1 = true) : okAt K L (j + 1) = actOk c.2 := by rw [okAt_is h, Nat.add_sub_cancel, hd, hk]; simp [hl]
theorem ok_next {K : ByteArray → Bool} {L : List Cl} {k : Nat} (h : ∀ j, j < k → okAt K L j = true) (hk : okAt K L k = true) : ∀ j, j < k + 1 → okAt K L j = true := fun j hj => by
 rcases Nat.lt_or_ge j k with h1 | h1
 ·exact h j h1
 ·rw [show j = k by omega]; exact hk
set_option maxRecDepth 100000
open Go.RowKit
set_option linter.unusedVariables false
set_option linter.unusedSimpArgs false
attribute [local go_sem ↓] Go.wp_at_zero Go.wp_at_succ

theorem owns_same16 {W W' : World} {B n s : Nat} {e : TypeId} {v : Value} {xs : List Value} (h : W.ownsRow B e s v n xs) (hk : ∀ (g : Nat) (c : Array Value) (fz : Nat × Nat), B ≤ g → W.heap[g]? = some (.cells c e fz) → W'.heap[g]? = some (.cells c e fz)) : W'.ownsRow B e s v n xs :=
 ⟨h.1, h.2.imp id (fun ⟨g, cap, cur, hv, hB, hg, rest⟩ => ⟨g, cap, cur, hv, hB, hk g _ _ hB hg, rest⟩)⟩
theorem owns_low16 {W : World} {B B' n s : Nat} {e : TypeId} {v : Value} {xs : List Value} (h : W.ownsRow B e s v n xs) (hb : B' ≤ B) : W.ownsRow B' e s v n xs :=
 ⟨h.1, h.2.imp id (fun ⟨g, cap, cur, hv, hB, rest⟩ => ⟨g, cap, cur, hv, Nat.le_trans hb hB, rest⟩)⟩
theorem owns_on16 {W W' : World} {B n s : Nat} {e : TypeId} {v : Value} {xs : List Value} (h : W.ownsRow B e s v n xs) (b : Below W.heap.size W W') : W'.ownsRow B e s v n xs :=
 owns_same16 h fun g _ _ _ hg => (b.block g (Array.getElem?_eq_some_iff.1 hg).1).trans hg
structure OutC (B b : Nat) (m : Nat) (v : Value) (P : List Cl) (W : World) : Prop where
 box : W.heap[b]? = some (.cells #[.int .u8 (m : Nat), v] 27 (0, 0))
 row : W.ownsRow B 67 2 v P.length (rowC encC P)
section
variable {B b m : Nat} {v : Value} {P : List Cl} {W : World}
theorem OutC.lt (h : OutC B b m v P W) : b < W.heap.size := (Array.getElem?_eq_some_iff.1 h.box).1
theorem OutC.x0 (h : OutC B b m v P W) : W.cell? ⟨b, 0, none⟩ = some (.int .u8 (m : Nat)) := (cell_of_row W b 0 _ _ (0, 0) h.box).trans rfl
theorem OutC.x1 (h : OutC B b m v P W) : W.cell? ⟨b, 1, none⟩ = some v := (cell_of_row W b 1 _ _ (0, 0) h.box).trans rfl
theorem OutC.frz (h : OutC B b m v P W) (j : Nat) : W.frozen? ⟨b, j, none⟩ = false := frozen_of_row W b j _ _ h.box
theorem OutC.on {W' : World} (h : OutC B b m v P W) (k : Below W.heap.size W W') : OutC B b m v P W' := ⟨(k.block b h.lt).trans h.box, owns_on16 h.row k⟩
theorem OutC.form (h : OutC B b m v P W) : ∃ q c, v = .slice q P.length c := by
 rcases h.row.2 with ⟨hv, h0⟩ | ⟨g, cap, cur, hv, _⟩
 ·exact ⟨none, 0, by rw [hv, h0]⟩
 ·exact ⟨_, _, hv⟩
theorem OutC.off (h : OutC B b m v P W) {g : Nat} {cs : Array Value} {fz : Nat × Nat} (hg : W.heap[g]? = some (.cells cs 67 fz)) : g ≠ b := fun e => by
 subst e
 rw [h.box] at hg
 injection hg with hg
 injection hg with _ e _
 exact absurd e (by decide)
theorem OutC.own (h : OutC B b m v P W) {k : Nat} (e : v.ownBlock = some k) : B ≤ k ∧ k ≠ b := by
 rcases h.row.2 with ⟨hv, _⟩ | ⟨g, cap, cur, hv, hB, hg, _⟩
 ·rw [hv] at e; cases e
 ·rw [hv] at e
  injection e with e
  subst e
  exact ⟨hB, h.off hg⟩
theorem OutC.put {wA : World} {v' : Value} {P' : List Cl} {c : Nat} (h : OutC B b m v P W) (hcB : c ≤ B) (hcb : c ≤ b) (hBW : B ≤ W.heap.size) (hg : W.grownBy wA v.ownBlock) (hO : wA.ownsRow B 67 2 v' P'.length (rowC encC P')) :
 wA.heap[b]? = some (.cells #[.int .u8 (m : Nat), v] 27 (0, 0)) ∧ OutC B b m v' P' (wA.setCell ⟨b, 1, none⟩ v') ∧ Below c W (wA.setCell ⟨b, 1, none⟩ v') := by
 have hb : wA.heap[b]? = some (.cells #[.int .u8 (m : Nat), v] 27 (0, 0)) := (hg.block b h.lt (fun e => (h.own e.symm).2 rfl)).trans h.box
 have hne : ∀ (g : Nat) (cs : Array Value) (fz : Nat × Nat), wA.heap[g]? = some (.cells cs 67 fz) → g ≠ b := fun g cs fz hg2 e => by
  subst e
  rw [hb] at hg2
  injection hg2 with hg2
  injection hg2 with _ e _
  exact absurd e (by decide)
 refine ⟨hb, ⟨?_, owns_same16 hO fun g cs fz hB hg2 => (heap_setCell_other wA ⟨b, 1, none⟩ g _ (hne g cs fz hg2)).trans hg2⟩, ?_⟩
 ·simp [World.setCell, Array.getElem?_modify, hb]
 ·exact ((Below.refl c W).grown hg (by have := h.lt; omega) (fun k e => Nat.le_trans hcB (h.own e).1)).setCell (p := ⟨b, 1, none⟩) hcb _
theorem encC_set : ∀ (l : List Cl) (i : Nat) (e : Cl), rowC encC (l.set i e) = ((rowC encC l).set (i * 2) (.string e.1)).set (i * 2 + 1) (.int .u32 (e.2 : Nat))
 | [], i, e => rfl
 | x :: r, 0, e => rfl
 | x :: r, i + 1, e => by
   show encC x ++ rowC encC (r.set i e) = ((encC x ++ rowC encC r).set ((i + 1) * 2) _).set ((i + 1) * 2 + 1) _
   have e1 : (i + 1) * 2 = (encC x).length + i * 2 := by show _ = 2 + _; omega
   rw [encC_set r i e, e1, Nat.add_assoc, List.set_append_right _ _ (by omega), List.set_append_right _ _ (by omega), Nat.add_sub_cancel_left, Nat.add_sub_cancel_left]
theorem swap_at (p t : List Cl) (d e : Cl) : ((p ++ d :: e :: t).set (p.length + 1) d).set p.length e = p ++ e :: d :: t := by
 rw [List.set_append_right _ _ (by omega), Nat.add_sub_cancel_left, List.set_append_right _ _ (by omega), Nat.sub_self]
 rfl
theorem OutC.swap {g N c5 : Nat} {p t : List Cl} {d e : Cl} (h : OutC B b m (.slice (some ⟨g, 0, none⟩) N c5) (p ++ d :: e :: t) W) {k J : Nat} (hk : k = p.length) (hJ : J = k + 1) {x y : Int} (hx : x = (d.2 : Nat)) (hy : y = (e.2 : Nat)) :
 OutC B b m (.slice (some ⟨g, 0, none⟩) N c5) (p ++ e :: d :: t) ((((W.setCell ⟨g, J * 2, none⟩ (.string d.1)).setCell ⟨g, J * 2 + 1, none⟩ (.int .u32 x)).setCell ⟨g, k * 2, none⟩ (.string e.1)).setCell ⟨g, k * 2 + 1, none⟩ (.int .u32 y)) := by
 have hg : g ≠ b := (h.own rfl).2
 have hN : N = (p ++ d :: e :: t).length := by
  obtain ⟨q, c, hq⟩ := h.form
  injection hq
 subst hN
 have s1 := (h.row.stored (J * 2) (.string d.1)).1
 have s2 := (s1.stored (J * 2 + 1) (.int .u32 x)).1
 have s3 := (s2.stored (k * 2) (.string e.1)).1
 have s4 := (s3.stored (k * 2 + 1) (.int .u32 y)).1
 refine ⟨?_, ?_⟩
 ·rw [heap_setCell_other _ _ _ _ (fun e => hg e.symm), heap_setCell_other _ _ _ _ (fun e => hg e.symm), heap_setCell_other _ _ _ _ (fun e => hg e.symm), heap_setCell_other _ _ _ _ (fun e => hg e.symm)]
  exact h.box
 ·subst hk hJ hx hy
  rw [← swap_at p t d e, encC_set, encC_set, List.length_set, List.length_set]
  exact s4
end
theorem heap_old16 (w : World) (o p : Obj) : ((w.alloc o).alloc p).heap[w.heap.size]? = some o := by
 rw [Below.heap_alloc _ _ _ (by rw [World.size_alloc]; exact Nat.lt_succ_self _)]; exact heap_alloc_new w _
theorem heap_new16 (w : World) (o p : Obj) : ((w.alloc o).alloc p).heap[w.heap.size + 1]? = some p := by
 rw [← World.size_alloc w o]; exact heap_alloc_new _ _
theorem there16 {V : World} {g : Nat} {u v : Value} (h : V.heap[g]? = some (.cells #[u, v] 27 (0, 0))) : V.there g 0 2 := fun j hj => by
 refine ⟨?_, frozen_of_row _ _ _ _ _ h⟩
 rw [cell_of_row _ _ (0 + j) _ _ (0, 0) h]
 match j, hj with
 | 0, _ => rfl
 | 1, _ => rfl
 | j + 2, hj => omega
theorem one16 (m : Int) (q : Option Addr) (n c : Nat) : (#[.int .u8 m, .slice q n c] : Array Value).all (·.oneCell') = true := by kernel_rfl
theorem below_setCells16 {w0 : World} {b : Nat} (hb : w0.heap.size ≤ b) : ∀ (vs : List Value) (o : Nat) (w : World), Below w0.heap.size w0 w → Below w0.heap.size w0 (w.setCells b o vs)
 | [], o, w, h => h
 | v :: vs, o, w, h => below_setCells16 hb vs (o + 1) (w.setCell ⟨b, o, none⟩ v) (h.setCell hb v)

theorem retL16 {w V : World} {g : Nat} {u v : Value} (h : V.heap[g]? = some (.cells #[u, v] 27 (0, 0))) (hB : Below w.heap.size w V) (hg : w.heap.size ≤ g) (m : Int) (q : Option Addr) (n c : Nat) :
 (loadVar 27 ⟨g, 0, none⟩).run Tryz.prog (V.setCells g 0 [.int .u8 m, .slice q n c]) = .ok (.agg #[.int .u8 m, .slice q n c]) (V.setCells g 0 [.int .u8 m, .slice q n c]) ∧ Below w.heap.size w (V.setCells g 0 [.int .u8 m, .slice q n c]) := by
 have hinf : (Tryz.prog.info? 27).map (·.size) = some 2 := by kernel_rfl
 exact ⟨run_loadVar_mid (P := Tryz.prog) _ g 0 27 [.int .u8 m, .slice q n c] _ (World.rangeAt_setCells_same V g 0 [.int .u8 m, .slice q n c] (there16 h)) Tryz.underlying27 rfl hinf, below_setCells16 hg _ _ _ hB⟩
theorem heap_setCells16 (V : World) (g k : Nat) (hk : k ≠ g) : ∀ (l : List Value) (o : Nat), (V.setCells g o l).heap[k]? = V.heap[k]?
 | [], o => rfl
 | x :: l, o => by
   show ((V.setCell ⟨g, o, none⟩ x).setCells g (o + 1) l).heap[k]? = _
   rw [heap_setCells16 _ g k hk l (o + 1)]
   exact heap_setCell_other V ⟨g, o, none⟩ k x hk
theorem results_one16 {fn : Func} {tmps : Array Value} {w : World} {t : Nat} {ty : TypeId} {p : Addr} {v : Value} (hr : fn.results = #[.cell t ty]) (ha : tmps.getD t undef = .pointer (some p)) (hl : (loadVar ty p).run Tryz.prog w = .ok v w) : (results fn tmps).run Tryz.prog w = .ok v w := by
 have ha' : tmps[t]?.getD undef = .pointer (some p) := by simpa using ha
 simp [results, hr, asAddr, ha', hl]
theorem below16 (w : World) (o : Obj) : Below w.heap.size w (w.alloc o) := (Below.refl _ _).alloc (Nat.le_refl _) o
set_option maxRecDepth 100000
open Go.RowKit
set_option linter.unusedVariables false
set_option linter.unusedSimpArgs false
attribute [local go_sem ↓] Go.wp_at_zero Go.wp_at_succ

abbrev OldL (w w' : World) (e : Ending) (m : Nat) (P : List Cl) : Prop := ∃ q n c, e = .returned (lsV m q n c) ∧ n = P.length ∧ LsAt w' q P ∧ Below w.heap.size w w'
abbrev NewL2 (w w' : World) (e : Ending) (m : Nat) (P : List Cl) : Prop := ∃ q n c, e = .returned (lsV m q n c) ∧ n = P.length ∧ w'.ownsRow w.heap.size 67 2 (.slice q n c) n (rowC encC P) ∧ Below w.heap.size w w'
theorem NewL2.old {w w' : World} {e : Ending} {m : Nat} {P : List Cl} (h : NewL2 w w' e m P) : OldL w w' e m P := by
 obtain ⟨q, n, c, h1, h2, h3, h4⟩ := h
 exact ⟨q, n, c, h1, h2, LsAt.of_own h3 h2, h4⟩
set_option maxRecDepth 100000
set_option linter.unusedVariables false

theorem lt16_gt {a b : ByteArray} (h : lt16 a b = true) : lt16 b a = false := by
 cases e : lt16 b a with
 | false => rfl
 | true => exact (lt16_asymm h e).elim
theorem lt16_ne {a b : ByteArray} (h : lt16 a b = true) : a ≠ b := fun e => by rw [e, lt16_irrefl] at h; cases h
def posC (L : List Cl) (s : ByteArray) : Nat := L.countP fun c => lt16 c.1 s
def atC (L : List Cl) (s : ByteArray) : Bool := match L[posC L s]? with | some c => decide (c.1 = s) | none => false
theorem pos_le (L : List Cl) (s : ByteArray) : posC L s ≤ L.length := List.countP_le_length
theorem split16 (s : ByteArray) : ∀ {L : List Cl}, Asc16 L → ∃ A B, L = A ++ B ∧ A.length = posC L s ∧ (∀ c ∈ A, lt16 c.1 s = true) ∧ (∀ c ∈ B, lt16 c.1 s = false)
 | [], _ => ⟨[], [], rfl, rfl, fun c h => (by cases h), fun c h => (by cases h)⟩
 | c :: r, h => by
   obtain ⟨h1, h2⟩ := List.pairwise_cons.1 h
   by_cases e : lt16 c.1 s = true
   ·obtain ⟨A, B, hr, hl, ha, hb⟩ := split16 s h2
    refine ⟨c :: A, B, by rw [hr]; rfl, ?_, fun d hd => ?_, hb⟩
    ·rw [List.length_cons, hl]
     unfold posC
     rw [List.countP_cons_of_pos (by exact e)]
    ·rcases List.mem_cons.1 hd with rfl | hd
     ·exact e
     ·exact ha d hd
   ·have e' : lt16 c.1 s = false := by cases x : lt16 c.1 s with | true => exact absurd x e | false => rfl
    have hall : ∀ d ∈ c :: r, lt16 d.1 s = false := fun d hd => by
     rcases List.mem_cons.1 hd with rfl | hd
     ·exact e'
     ·cases x : lt16 d.1 s with
      | false => rfl
      | true => exact absurd (lt16_trans (h1 d hd) x) e
    refine ⟨[], c :: r, rfl, ?_, fun d hd => (by cases hd), hall⟩
    show 0 = posC (c :: r) s
    unfold posC
    rw [eq_comm, List.countP_eq_zero]
    intro d hd x
    rw [hall d hd] at x
    cases x
theorem pos_before {L : List Cl} {s : ByteArray} (h : Asc16 L) {t : Nat} {c : Cl} (ht : t < posC L s) (hc : L[t]? = some c) : lt16 c.1 s = true := by
 obtain ⟨A, B, hL, hl, ha, hb⟩ := split16 s h
 rw [hL, List.getElem?_append_left (by omega)] at hc
 exact ha c (List.mem_of_getElem? hc)
theorem pos_after {L : List Cl} {s : ByteArray} (h : Asc16 L) {t : Nat} {c : Cl} (ht : posC L s ≤ t) (hc : L[t]? = some c) : lt16 c.1 s = false := by
 obtain ⟨A, B, hL, hl, ha, hb⟩ := split16 s h
 rw [hL, List.getElem?_append_right (by omega)] at hc
 exact hb c (List.mem_of_getElem? hc)
theorem ins_ahead (n : ByteArray) (a : Nat) : ∀ (A B : List Cl), (∀ c ∈ A, lt16 c.1 n = true) → insC n a (A ++ B) = A ++ insC n a B
 | [], B, _ => rfl
 | c :: r, B, h => by
   show insC n a (c :: (r ++ B)) = c :: (r ++ insC n a B)
   conv => lhs; unfold insC
   rw [if_neg (by rw [lt16_gt (h c (List.mem_cons_self ..))]; exact Bool.noConfusion), ins_ahead n a r B fun d hd => h d (List.mem_cons_of_mem _ hd)]
theorem ins_front (n : ByteArray) (a : Nat) (B : List Cl) (h : ∀ c ∈ B, lt16 n c.1 = true) : insC n a B = (n, a) :: B := by
 cases B with
 | nil => rfl
 | cons c r => unfold insC; rw [if_pos (h c (List.mem_cons_self ..))]
theorem take_ahead (n : ByteArray) (A B : List Cl) (h : ∀ c ∈ A, lt16 c.1 n = true) : takeC (A ++ B) n = A ++ takeC B n := by
 unfold takeC
 rw [List.filter_append, List.filter_eq_self.2 fun c hc => decide_eq_true (lt16_ne (h c hc))]
theorem take_behind (n : ByteArray) (B : List Cl) (h : ∀ c ∈ B, c.1 ≠ n) : takeC B n = B := List.filter_eq_self.2 fun c hc => decide_eq_true (h c hc)
theorem gt_ne {s : ByteArray} {B : List Cl} (hb : ∀ c ∈ B, lt16 s c.1 = true) : ∀ c ∈ B, c.1 ≠ s := fun c hc e => by
 have := hb c hc
 rw [e, lt16_irrefl] at this
 cases this
theorem ways16 {L : List Cl} (s : ByteArray) (h : Asc16 L) : ∃ A B, A.length = posC L s ∧ (∀ c ∈ A, lt16 c.1 s = true) ∧ (∀ c ∈ B, lt16 s c.1 = true) ∧ ((atC L s = true ∧ ∃ a, L = A ++ (s, a) :: B) ∨ (atC L s = false ∧ L = A ++ B)) := by
 obtain ⟨A, B, hL, hl, ha, hb⟩ := split16 s h
 have hat : atC L s = match B[0]? with | some c => decide (c.1 = s) | none => false := by
  unfold atC
  rw [← hl]
  have : L[A.length]? = B[0]? := by rw [hL, List.getElem?_append_right (Nat.le_refl _), Nat.sub_self]
  rw [this]
 cases B with
 | nil => exact ⟨A, [], hl, ha, fun c hc => (by cases hc), Or.inr ⟨hat, hL⟩⟩
 | cons c r =>
  have hasc : Asc16 (c :: r) := by
   unfold Asc16 at h ⊢
   rw [hL] at h
   exact (List.pairwise_append.1 h).2.1
  obtain ⟨h1, h2⟩ := List.pairwise_cons.1 hasc
  by_cases e : c.1 = s
  ·refine ⟨A, r, hl, ha, fun d hd => ?_, Or.inl ⟨by rw [hat]; exact decide_eq_true e, c.2, ?_⟩⟩
   ·rw [← e]; exact h1 d hd
   ·rw [hL, ← e]
  ·refine ⟨A, c :: r, hl, ha, fun d hd => ?_, Or.inr ⟨by rw [hat]; exact decide_eq_false e, hL⟩⟩
   have hc := lt16_total (hb c (List.mem_cons_self ..)) e
   rcases List.mem_cons.1 hd with rfl | hd
   ·exact hc
   ·exact lt16_trans hc (h1 d hd)
theorem at_lt {L : List Cl} {s : ByteArray} (h : atC L s = true) : posC L s < L.length := by
 unfold atC at h
 cases e : L[posC L s]? with
 | none => rw [e] at h; cases h
 | some c => exact (List.getElem?_eq_some_iff.1 e).1
theorem put_there {L : List Cl} {s : ByteArray} (h : Asc16 L) (ht : atC L s = true) (a : Nat) : putC L s a = L.take (posC L s) ++ (s, a) :: L.drop (posC L s + 1) := by
 obtain ⟨A, B, hl, ha, hb, ⟨_, x, hL⟩ | ⟨hf, _⟩⟩ := ways16 s h
 ·rw [← hl]
  subst hL
  unfold putC
  rw [take_ahead s A _ ha, show takeC ((s, x) :: B) s = takeC B s from List.filter_cons_of_neg (by simp), take_behind s B (gt_ne hb),
   ins_ahead s a A B ha, ins_front s a B hb, List.take_left, show A ++ (s, x) :: B = (A ++ [(s, x)]) ++ B by simp, show A.length + 1 = (A ++ [(s, x)]).length by simp, List.drop_left]
 ·rw [ht] at hf; cases hf
theorem put_new {L : List Cl} {s : ByteArray} (h : Asc16 L) (ht : atC L s = false) (a : Nat) : putC L s a = L.take (posC L s) ++ (s, a) :: L.drop (posC L s) := by
 obtain ⟨A, B, hl, ha, hb, ⟨hf, _⟩ | ⟨_, hL⟩⟩ := ways16 s h
 ·rw [ht] at hf; cases hf
 ·rw [← hl]
  subst hL
  unfold putC
  rw [take_ahead s A _ ha, take_behind s B (gt_ne hb), ins_ahead s a A B ha, ins_front s a B hb, List.take_left, List.drop_left]
theorem take_there {L : List Cl} {s : ByteArray} (h : Asc16 L) (ht : atC L s = true) : takeC L s = L.take (posC L s) ++ L.drop (posC L s + 1) := by
 obtain ⟨A, B, hl, ha, hb, ⟨_, x, hL⟩ | ⟨hf, _⟩⟩ := ways16 s h
 ·rw [← hl]
  subst hL
  rw [take_ahead s A _ ha, show takeC ((s, x) :: B) s = takeC B s from List.filter_cons_of_neg (by simp), take_behind s B (gt_ne hb),
   List.take_left, show A ++ (s, x) :: B = (A ++ [(s, x)]) ++ B by simp, show A.length + 1 = (A ++ [(s, x)]).length by simp, List.drop_left]
 ·rw [ht] at hf; cases hf
theorem take_none {L : List Cl} {s : ByteArray} (h : Asc16 L) (ht : atC L s = false) : takeC L s = L := by
 obtain ⟨A, B, hl, ha, hb, ⟨hf, _⟩ | ⟨_, hL⟩⟩ := ways16 s h
 ·rw [ht] at hf; cases hf
 ·subst hL
  rw [take_ahead s A _ ha, take_behind s B (gt_ne hb)]
/-! ### rows of calls, cut -/
theorem rowC_take (L : List Cl) (k : Nat) : (rowC encC L).take (k * 2) = rowC encC (L.take k) := by
 rw [show rowC encC L = rowC encC (L.take k) ++ rowC encC (L.drop k) by rw [← rowC_app, List.take_append_drop]]
 by_cases h : k ≤ L.length
 ·rw [show k * 2 = (rowC encC (L.take k)).length by rw [rowC_length encC_len, List.length_take, Nat.min_eq_left h], List.take_left]
 ·rw [List.drop_of_length_le (by omega), show rowC encC ([] : List Cl) = [] from rfl, List.append_nil]
  exact List.take_of_length_le (by rw [rowC_length encC_len, List.length_take]; omega)
theorem rowC_drop (L : List Cl) (k : Nat) : (rowC encC L).drop (k * 2) = rowC encC (L.drop k) := by
 rw [show rowC encC L = rowC encC (L.take k) ++ rowC encC (L.drop k) by rw [← rowC_app, List.take_append_drop]]
 by_cases h : k ≤ L.length
 ·rw [show k * 2 = (rowC encC (L.take k)).length by rw [rowC_length encC_len, List.length_take, Nat.min_eq_left h], List.drop_left]
 ·rw [List.drop_of_length_le (show L.length ≤ k by omega), show rowC encC ([] : List Cl) = [] from rfl, List.append_nil]
  exact List.drop_of_length_le (by rw [rowC_length encC_len, List.length_take]; omega)
end Go.Proofs.YtlenjfodjkhpmaaGreatDoor
