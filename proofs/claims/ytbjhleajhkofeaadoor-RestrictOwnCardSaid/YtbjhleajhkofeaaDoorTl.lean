/- What the document's own take and Take return: the list without a call, in new memory; a list that may not be as it is. Condition: a list of at most a million calls that can be read. What the document's own Take and Put return: the list without a call, with a call; a list that may not be as it is. Condition: a list of at most a million calls that can be read. -/
import Derived.Test.YtbjhleajhkofeaaDoorTj
import Derived.Test.YtbjhleajhkofeaaDoorCk
import Derived.Deep.RegionWith
import Derived.Deep.RegionLaw
import Derived.Deep.MidRow
import Derived.BigRegion
import Derived.Test.YtbjhleajhkofeaaDoorTg
namespace Go.Proofs.YtbjhleajhkofeaaDoor
open Go.RowKit
set_option linter.unusedVariables false
set_option linter.unusedSimpArgs false
attribute [local go_sem ↓] Go.wp_at_zero Go.wp_at_succ

theorem geq16 (t : TypeId) (a b : ByteArray) : binOp .geq t (.string a) (.string b) = pure (.bool !(Go.Op.bytesLess a.toList b.toList)) := by simp [binOp, Op.stringOp]
attribute [local go_sem] geq16
theorem thn16 {u v w : World} (h : Below u.heap.size u v) (k : Below v.heap.size v w) : Below u.heap.size u w := h.trans (k.mono h.size)
end Go.Proofs.YtbjhleajhkofeaaDoor
namespace Go.Proofs.YtbjhleajhkofeaaDoor
open Go.RowKit
set_option linter.unusedVariables false
set_option linter.unusedSimpArgs false
attribute [local go_sem ↓] Go.wp_at_zero Go.wp_at_succ

theorem owns_same16 {W W' : World} {B n s : Nat} {e : TypeId} {v : Value} {xs : List Value} (h : W.ownsRow B e s v n xs) (hk : ∀ (g : Nat) (c : Array Value) (fz : Nat × Nat), B ≤ g → W.heap[g]? = some (.cells c e fz) → W'.heap[g]? = some (.cells c e fz)) : W'.ownsRow B e s v n xs :=
  ⟨h.1, h.2.imp id (fun ⟨g, cap, cur, hv, hB, hg, rest⟩ => ⟨g, cap, cur, hv, hB, hk g _ _ hB hg, rest⟩)⟩
theorem owns_low16 {W : World} {B B' n s : Nat} {e : TypeId} {v : Value} {xs : List Value} (h : W.ownsRow B e s v n xs) (hb : B' ≤ B) : W.ownsRow B' e s v n xs :=
  ⟨h.1, h.2.imp id (fun ⟨g, cap, cur, hv, hB, rest⟩ => ⟨g, cap, cur, hv, Nat.le_trans hb hB, rest⟩)⟩
theorem owns_on16 {W W' : World} {B n s : Nat} {e : TypeId} {v : Value} {xs : List Value} (h : W.ownsRow B e s v n xs) (b : Below W.heap.size W W') : W'.ownsRow B e s v n xs :=
  owns_same16 h fun g _ _ _ hg => (b.block g (Array.getElem?_eq_some_iff.1 hg).1).trans hg
/-- A list that grows: its box, and its row behind. -/
structure OutC (B b : Nat) (m : Nat) (v : Value) (P : List Cl) (W : World) : Prop where
  box : W.heap[b]? = some (.cells #[.int .u8 (m : Nat), v] 27 (0, 0))
  row : W.ownsRow B 82 2 v P.length (rowC encC P)
section
variable {B b m : Nat} {v : Value} {P : List Cl} {W : World}
theorem OutC.lt (h : OutC B b m v P W) : b < W.heap.size := (Array.getElem?_eq_some_iff.1 h.box).1
theorem OutC.x0 (h : OutC B b m v P W) : W.cell? ⟨b, 0, none⟩ = some (.int .u8 (m : Nat)) := (cell_of_row W b 0 _ _ (0, 0) h.box).trans rfl
theorem OutC.x1 (h : OutC B b m v P W) : W.cell? ⟨b, 1, none⟩ = some v := (cell_of_row W b 1 _ _ (0, 0) h.box).trans rfl
theorem OutC.frz (h : OutC B b m v P W) (j : Nat) : W.frozen? ⟨b, j, none⟩ = false := frozen_of_row W b j _ _ h.box
theorem OutC.on {W' : World} (h : OutC B b m v P W) (k : Below W.heap.size W W') : OutC B b m v P W' := ⟨(k.block b h.lt).trans h.box, owns_on16 h.row k⟩
theorem OutC.form (h : OutC B b m v P W) : ∃ q c, v = .slice q P.length c := by
  rcases h.row.2 with ⟨hv, h0⟩ | ⟨g, cap, cur, hv, _⟩
  · exact ⟨none, 0, by rw [hv, h0]⟩
  · exact ⟨_, _, hv⟩
theorem OutC.off (h : OutC B b m v P W) {g : Nat} {cs : Array Value} {fz : Nat × Nat} (hg : W.heap[g]? = some (.cells cs 82 fz)) : g ≠ b := fun e => by
  subst e
  rw [h.box] at hg
  injection hg with hg
  injection hg with _ e _
  exact absurd e (by decide)
theorem OutC.own (h : OutC B b m v P W) {k : Nat} (e : v.ownBlock = some k) : B ≤ k ∧ k ≠ b := by
  rcases h.row.2 with ⟨hv, _⟩ | ⟨g, cap, cur, hv, hB, hg, _⟩
  · rw [hv] at e; cases e
  · rw [hv] at e
    injection e with e
    subst e
    exact ⟨hB, h.off hg⟩
theorem OutC.put {wA : World} {v' : Value} {P' : List Cl} {c : Nat} (h : OutC B b m v P W) (hcB : c ≤ B) (hcb : c ≤ b) (hBW : B ≤ W.heap.size) (hg : W.grownBy wA v.ownBlock) (hO : wA.ownsRow B 82 2 v' P'.length (rowC encC P')) :
    wA.heap[b]? = some (.cells #[.int .u8 (m : Nat), v] 27 (0, 0)) ∧ OutC B b m v' P' (wA.setCell ⟨b, 1, none⟩ v') ∧ Below c W (wA.setCell ⟨b, 1, none⟩ v') := by
  have hb : wA.heap[b]? = some (.cells #[.int .u8 (m : Nat), v] 27 (0, 0)) := (hg.block b h.lt (fun e => (h.own e.symm).2 rfl)).trans h.box
  have hne : ∀ (g : Nat) (cs : Array Value) (fz : Nat × Nat), wA.heap[g]? = some (.cells cs 82 fz) → g ≠ b := fun g cs fz hg2 e => by
    subst e
    rw [hb] at hg2
    injection hg2 with hg2
    injection hg2 with _ e _
    exact absurd e (by decide)
  refine ⟨hb, ⟨?_, owns_same16 hO fun g cs fz hB hg2 => (heap_setCell_other wA ⟨b, 1, none⟩ g _ (hne g cs fz hg2)).trans hg2⟩, ?_⟩
  · simp [World.setCell, Array.getElem?_modify, hb]
  · exact ((Below.refl c W).grown hg (by have := h.lt; omega) (fun k e => Nat.le_trans hcB (h.own e).1)).setCell (p := ⟨b, 1, none⟩) hcb _
end
theorem heap_old16 (w : World) (o p : Obj) : ((w.alloc o).alloc p).heap[w.heap.size]? = some o := by
  rw [Below.heap_alloc _ _ _ (by rw [World.size_alloc]; exact Nat.lt_succ_self _)]; exact heap_alloc_new w _
theorem heap_new16 (w : World) (o p : Obj) : ((w.alloc o).alloc p).heap[w.heap.size + 1]? = some p := by
  rw [← World.size_alloc w o]; exact heap_alloc_new _ _
theorem there16 {V : World} {g : Nat} {u v : Value} (h : V.heap[g]? = some (.cells #[u, v] 27 (0, 0))) : V.there g 0 2 := fun j hj => by
  refine ⟨?_, frozen_of_row _ _ _ _ _ h⟩
  rw [cell_of_row _ _ (0 + j) _ _ (0, 0) h]
  match j, hj with
  | 0, _ => rfl
  | 1, _ => rfl
  | j + 2, hj => omega
theorem one16 (m : Int) (q : Option Addr) (n c : Nat) : (#[.int .u8 m, .slice q n c] : Array Value).all (·.oneCell') = true := by kernel_rfl
theorem below_setCells16 {w0 : World} {b : Nat} (hb : w0.heap.size ≤ b) : ∀ (vs : List Value) (o : Nat) (w : World), Below w0.heap.size w0 w → Below w0.heap.size w0 (w.setCells b o vs)
  | [], o, w, h => h
  | v :: vs, o, w, h => below_setCells16 hb vs (o + 1) (w.setCell ⟨b, o, none⟩ v) (h.setCell hb v)

/-- A list, stored into the result's own cells. -/
theorem retL16 {w V : World} {g : Nat} {u v : Value} (h : V.heap[g]? = some (.cells #[u, v] 27 (0, 0))) (hB : Below w.heap.size w V) (hg : w.heap.size ≤ g) (m : Int) (q : Option Addr) (n c : Nat) :
    (loadVar 27 ⟨g, 0, none⟩).run Tryd.prog (V.setCells g 0 [.int .u8 m, .slice q n c]) = .ok (.agg #[.int .u8 m, .slice q n c]) (V.setCells g 0 [.int .u8 m, .slice q n c]) ∧ Below w.heap.size w (V.setCells g 0 [.int .u8 m, .slice q n c]) := by
  have hinf : (Tryd.prog.info? 27).map (·.size) = some 2 := by kernel_rfl
  exact ⟨run_loadVar_mid (P := Tryd.prog) _ g 0 27 [.int .u8 m, .slice q n c] _ (World.rangeAt_setCells_same V g 0 [.int .u8 m, .slice q n c] (there16 h)) Tryd.underlying27 rfl hinf, below_setCells16 hg _ _ _ hB⟩
theorem heap_setCells16 (V : World) (g k : Nat) (hk : k ≠ g) : ∀ (l : List Value) (o : Nat), (V.setCells g o l).heap[k]? = V.heap[k]?
  | [], o => rfl
  | x :: l, o => by
    show ((V.setCell ⟨g, o, none⟩ x).setCells g (o + 1) l).heap[k]? = _
    rw [heap_setCells16 _ g k hk l (o + 1)]
    exact heap_setCell_other V ⟨g, o, none⟩ k x hk
theorem results_one16 {fn : Func} {tmps : Array Value} {w : World} {t : Nat} {ty : TypeId} {p : Addr} {v : Value} (hr : fn.results = #[.cell t ty]) (ha : tmps.getD t undef = .pointer (some p)) (hl : (loadVar ty p).run Tryd.prog w = .ok v w) : (results fn tmps).run Tryd.prog w = .ok v w := by
  have ha' : tmps[t]?.getD undef = .pointer (some p) := by simpa using ha
  simp [results, hr, asAddr, ha', hl]
theorem below16 (w : World) (o : Obj) : Below w.heap.size w (w.alloc o) := (Below.refl _ _).alloc (Nat.le_refl _) o
end Go.Proofs.YtbjhleajhkofeaaDoor
namespace Go.Proofs.YtbjhleajhkofeaaDoor
open Go.RowKit
set_option linter.unusedVariables false
set_option linter.unusedSimpArgs false
attribute [local go_sem ↓] Go.wp_at_zero Go.wp_at_succ

/-- A list as it is returned: it can be read. -/
abbrev OldL (w w' : World) (e : Ending) (m : Nat) (P : List Cl) : Prop := ∃ q n c, e = .returned (lsV m q n c) ∧ n = P.length ∧ LsAt w' q P ∧ Below w.heap.size w w'
/-- A list as it is returned: new memory. -/
abbrev NewL2 (w w' : World) (e : Ending) (m : Nat) (P : List Cl) : Prop := ∃ q n c, e = .returned (lsV m q n c) ∧ n = P.length ∧ w'.ownsRow w.heap.size 82 2 (.slice q n c) n (rowC encC P) ∧ Below w.heap.size w w'
theorem NewL2.old {w w' : World} {e : Ending} {m : Nat} {P : List Cl} (h : NewL2 w w' e m P) : OldL w w' e m P := by
  obtain ⟨q, n, c, h1, h2, h3, h4⟩ := h
  exact ⟨q, n, c, h1, h2, LsAt.of_own h3 h2, h4⟩
end Go.Proofs.YtbjhleajhkofeaaDoor
