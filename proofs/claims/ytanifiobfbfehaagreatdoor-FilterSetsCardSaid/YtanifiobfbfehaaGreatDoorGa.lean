/- The table of the groups as the document's own code lays it: each group's names in memory of their own; what a group names. No condition. What a group names, how deep it is, and the document's own Members, Deep. No condition. What the document's own Put returns: a name more in a list that rises. Condition: the list lies below, of at most a thousand. A queue of names that one owns: read off the front, appended to behind; what Expand makes of a group, as a function. No condition. -/
import Derived.Test.YtanifiobfbfehaaGreatDoorWd
import Derived.Deep.AppendLies
import Derived.Deep.DrawnRows
import Derived.RegionTactic
import Derived.BigRegion
import Derived.Deep.DeepCutAuto
import Derived.Laws.Cover1
import Derived.Maps.AppendAt
import Derived.ArgAppend
namespace Go.Proofs.YtanifiobfbfehaaGreatDoor
open Go.RowKit
set_option linter.unusedVariables false
attribute [local go_sem ↓] Go.wp_at_zero Go.wp_at_succ

/-- A group: its name, what it names. -/
abbrev Gp := ByteArray × List ByteArray
def grpT : List Gp := [(⟨#[64, 98, 97, 115, 105, 99, 45, 105, 111]⟩, [⟨#[114, 101, 97, 100]⟩, ⟨#[119, 114, 105, 116, 101]⟩, ⟨#[99, 108, 111, 115, 101]⟩]), (⟨#[64, 99, 108, 111, 99, 107]⟩, [⟨#[99, 108, 111, 99, 107, 95, 115, 101, 116, 116, 105, 109, 101]⟩, ⟨#[115, 101, 116, 116, 105, 109, 101, 111, 102, 100, 97, 121]⟩]), (⟨#[64, 100, 101, 98, 117, 103]⟩, [⟨#[112, 116, 114, 97, 99, 101]⟩, ⟨#[112, 101, 114, 115, 111, 110, 97, 108, 105, 116, 121]⟩]), (⟨#[64, 102, 105, 108, 101]⟩, [⟨#[64, 98, 97, 115, 105, 99, 45, 105, 111]⟩, ⟨#[111, 112, 101, 110]⟩, ⟨#[111, 112, 101, 110, 97, 116]⟩, ⟨#[105, 111, 99, 116, 108]⟩]), (⟨#[64, 109, 101, 109, 111, 114, 121]⟩, [⟨#[98, 114, 107]⟩, ⟨#[109, 109, 97, 112]⟩, ⟨#[109, 112, 114, 111, 116, 101, 99, 116]⟩, ⟨#[109, 117, 110, 109, 97, 112]⟩, ⟨#[112, 107, 101, 121, 95, 109, 112, 114, 111, 116, 101, 99, 116]⟩, ⟨#[115, 104, 109, 97, 116]⟩]), (⟨#[64, 109, 111, 100, 117, 108, 101]⟩, [⟨#[100, 101, 108, 101, 116, 101, 95, 109, 111, 100, 117, 108, 101]⟩, ⟨#[102, 105, 110, 105, 116, 95, 109, 111, 100, 117, 108, 101]⟩, ⟨#[105, 110, 105, 116, 95, 109, 111, 100, 117, 108, 101]⟩]), (⟨#[64, 109, 111, 117, 110, 116]⟩, [⟨#[109, 111, 117, 110, 116]⟩, ⟨#[117, 109, 111, 117, 110, 116, 50]⟩]), (⟨#[64, 110, 101, 115, 116]⟩, [⟨#[64, 110, 101, 115, 116, 45, 50]⟩, ⟨#[107, 105, 108, 108]⟩]), (⟨#[64, 110, 101, 115, 116, 45, 50]⟩, [⟨#[64, 110, 101, 115, 116, 45, 51]⟩, ⟨#[103, 101, 116, 117, 105, 100]⟩]), (⟨#[64, 110, 101, 115, 116, 45, 51]⟩, [⟨#[64, 110, 101, 115, 116, 45, 52]⟩, ⟨#[115, 101, 116, 117, 105, 100]⟩]), (⟨#[64, 110, 101, 115, 116, 45, 52]⟩, [⟨#[64, 110, 101, 115, 116, 45, 53]⟩, ⟨#[101, 120, 105, 116]⟩]), (⟨#[64, 110, 101, 115, 116, 45, 53]⟩, [⟨#[114, 101, 97, 100]⟩]), (⟨#[64, 110, 101, 116, 119, 111, 114, 107]⟩, [⟨#[98, 105, 110, 100]⟩, ⟨#[99, 111, 110, 110, 101, 99, 116]⟩, ⟨#[108, 105, 115, 116, 101, 110]⟩, ⟨#[115, 111, 99, 107, 101, 116]⟩]), (⟨#[64, 112, 114, 105, 118, 105, 108, 101, 103, 101, 100]⟩, [⟨#[64, 99, 108, 111, 99, 107]⟩, ⟨#[64, 109, 111, 100, 117, 108, 101]⟩, ⟨#[64, 109, 111, 117, 110, 116]⟩, ⟨#[64, 114, 101, 98, 111, 111, 116]⟩, ⟨#[98, 112, 102]⟩, ⟨#[115, 101, 116, 117, 105, 100]⟩]), (⟨#[64, 112, 114, 111, 99, 101, 115, 115]⟩, [⟨#[99, 108, 111, 110, 101]⟩, ⟨#[99, 108, 111, 110, 101, 51]⟩, ⟨#[101, 120, 101, 99, 118, 101]⟩, ⟨#[101, 120, 105, 116]⟩, ⟨#[102, 111, 114, 107]⟩, ⟨#[107, 105, 108, 108]⟩, ⟨#[115, 101, 116, 110, 115]⟩, ⟨#[117, 110, 115, 104, 97, 114, 101]⟩]), (⟨#[64, 114, 101, 98, 111, 111, 116]⟩, [⟨#[114, 101, 98, 111, 111, 116]⟩]), (⟨#[64, 114, 101, 115, 111, 117, 114, 99, 101, 115]⟩, [⟨#[115, 99, 104, 101, 100, 95, 115, 101, 116, 97, 116, 116, 114]⟩, ⟨#[115, 99, 104, 101, 100, 95, 115, 101, 116, 115, 99, 104, 101, 100, 117, 108, 101, 114]⟩]), (⟨#[64, 115, 121, 115, 116, 101, 109]⟩, [⟨#[64, 102, 105, 108, 101]⟩, ⟨#[64, 109, 101, 109, 111, 114, 121]⟩, ⟨#[64, 110, 101, 116, 119, 111, 114, 107]⟩, ⟨#[64, 112, 114, 111, 99, 101, 115, 115]⟩, ⟨#[103, 101, 116, 117, 105, 100]⟩])]
def gD : Gp := (⟨#[]⟩, [])
def gN (j : Nat) : ByteArray := (grpT.getD j gD).1
def gL (j : Nat) : List ByteArray := (grpT.getD j gD).2
def gRow (j : Nat) : Array Value := ((gL j).map Value.string).toArray
/-- So many groups' lists lie in memory, one behind the other. -/
structure PG (w : World) (k : Nat) (W : World) : Prop where
  size : W.heap.size = w.heap.size + k
  below : Below w.heap.size w W
  rows : ∀ j, j < k → ∀ i s, (gL j)[i]? = some s → W.cell? ⟨w.heap.size + j, i, none⟩ = some (.string s)
theorem PG.zero (w : World) : PG w 0 w := ⟨rfl, Below.refl _ _, fun j hj => absurd hj (by omega)⟩
theorem PG.next {w W : World} {k : Nat} (h : PG w k W) (t : TypeId) : PG w (k + 1) (W.alloc (.cells (gRow k) t)) := by
  refine ⟨by rw [World.size_alloc, h.size]; omega, h.below.alloc h.below.size _, fun j hj i s hi => ?_⟩
  by_cases e : j = k
  · subst e
    rw [← h.size, cell_of_row _ _ i _ _ (0, 0) (heap_alloc_new W _)]
    unfold gRow
    rw [List.getElem?_toArray, List.getElem?_map, hi]; rfl
  · rw [World.cell?_alloc_lt W _ _ (by show w.heap.size + j < _; rw [h.size]; omega)]
    exact h.rows j (by omega) i s hi
theorem wpList_row11 {ops : Array Oper} {rest : List Oper} {op : Oper} {a : Act} {w W : World} {j n : Nat} {Q : Exit → Act → World → Prop} (hp : PG w j W) (hj : j < 18) (hn : n = (gL j).length) (hgd : op.guard = none)
    (hr : (execOp a.eval op).run Tryz.prog W = .ok (.value (.slice (some ⟨W.heap.size, 0, none⟩) n n)) (W.alloc (.cells (gRow j) 9)))
    (h : ∀ W', PG w (j + 1) W' → wpList Tryz.prog ops Q rest (a.put op.dst (.slice (some ⟨w.heap.size + j, 0, none⟩) n n)) W') : wpList Tryz.prog ops Q (op :: rest) a W :=
  wpList_plain hgd fun _ hK => by
    unfold Oper.wp; rw [hr, hp.size]; exact hK _ _ (h _ (hp.next _))
theorem wpList_bld11 {ops : Array Oper} {rest : List Oper} {op : Oper} {a : Act} {w W : World} {j n : Nat} {Q : Exit → Act → World → Prop} (hp : PG w (j + 1) W) (hgd : op.guard = none)
    (hr : (execOp a.eval op).run Tryz.prog W = .ok (.value (.agg #[.string (gN j), .slice (some ⟨w.heap.size + j, 0, none⟩) n n])) W)
    (h : wpList Tryz.prog ops Q rest (a.put op.dst (.agg #[.string (gN j), .slice (some ⟨w.heap.size + j, 0, none⟩) n n])) W) : wpList Tryz.prog ops Q (op :: rest) a W :=
  wpList_plain hgd fun _ hK => by
    unfold Oper.wp; rw [hr]; exact hK _ _ h
/-- The cells of the table, its groups' lists from a block on. -/
def gC (B : Nat) : Array Value := ((List.range 18).flatMap fun j => [Value.string (gN j), .slice (some ⟨B + j, 0, none⟩) (gL j).length (gL j).length]).toArray
theorem wpList_tab11 {ops : Array Oper} {rest : List Oper} {op : Oper} {a : Act} {w W : World} {Q : Exit → Act → World → Prop} (hp : PG w 18 W) (hgd : op.guard = none)
    (hr : (execOp a.eval op).run Tryz.prog W = .ok (.value (.slice (some ⟨W.heap.size, 0, none⟩) 18 18)) (W.alloc (.cells (gC w.heap.size) 137)))
    (h : wpList Tryz.prog ops Q rest (a.put op.dst (.slice (some ⟨w.heap.size + 18, 0, none⟩) 18 18)) (W.alloc (.cells (gC w.heap.size) 137))) : wpList Tryz.prog ops Q (op :: rest) a W :=
  wpList_plain hgd fun _ hK => by
    unfold Oper.wp; rw [hr, hp.size]; exact hK _ _ h
/-- The table lies in memory: where its groups' lists lie. -/
structure GrpAt (w : World) (g B : Nat) : Prop where
  name : ∀ j, j < 18 → w.cell? ⟨g, j * 2, none⟩ = some (.string (gN j))
  row : ∀ j, j < 18 → w.cell? ⟨g, j * 2 + 1, none⟩ = some (.slice (some ⟨B + j, 0, none⟩) (gL j).length (gL j).length)
  has : ∀ j, j < 18 → ∀ i s, (gL j)[i]? = some s → w.cell? ⟨B + j, i, none⟩ = some (.string s)
  lt : g < w.heap.size ∧ B + 18 ≤ w.heap.size
theorem GrpAt.on {w w' : World} {g B : Nat} (h : GrpAt w g B) (hb : Below w.heap.size w w') : GrpAt w' g B :=
  ⟨fun j hj => (hb.cell (p := ⟨g, j * 2, none⟩) h.lt.1).trans (h.name j hj), fun j hj => (hb.cell (p := ⟨g, j * 2 + 1, none⟩) h.lt.1).trans (h.row j hj),
    fun j hj i s hi => (hb.cell (p := ⟨B + j, i, none⟩) (show B + j < _ by have := h.lt.2; omega)).trans (h.has j hj i s hi), by have := hb.size; have := h.lt; omega⟩
theorem gC_get (B : Nat) : ∀ j, j < 18 → (gC B)[j * 2]? = some (.string (gN j)) ∧ (gC B)[j * 2 + 1]? = some (.slice (some ⟨B + j, 0, none⟩) (gL j).length (gL j).length) := by
  intro j hj
  match j, hj with
  | 0, _ => exact ⟨rfl, rfl⟩
  | 1, _ => exact ⟨rfl, rfl⟩
  | 2, _ => exact ⟨rfl, rfl⟩
  | 3, _ => exact ⟨rfl, rfl⟩
  | 4, _ => exact ⟨rfl, rfl⟩
  | 5, _ => exact ⟨rfl, rfl⟩
  | 6, _ => exact ⟨rfl, rfl⟩
  | 7, _ => exact ⟨rfl, rfl⟩
  | 8, _ => exact ⟨rfl, rfl⟩
  | 9, _ => exact ⟨rfl, rfl⟩
  | 10, _ => exact ⟨rfl, rfl⟩
  | 11, _ => exact ⟨rfl, rfl⟩
  | 12, _ => exact ⟨rfl, rfl⟩
  | 13, _ => exact ⟨rfl, rfl⟩
  | 14, _ => exact ⟨rfl, rfl⟩
  | 15, _ => exact ⟨rfl, rfl⟩
  | 16, _ => exact ⟨rfl, rfl⟩
  | 17, _ => exact ⟨rfl, rfl⟩
  | j + 18, hj => omega
theorem wpList_as11 {ops : Array Oper} {rest : List Oper} {op : Oper} {a : Act} {w : World} {Q : Exit → Act → World → Prop} (hgd : op.guard = none) (v : Value) (hr : (execOp a.eval op).run Tryz.prog w = .ok (.value v) w)
    (h : wpList Tryz.prog ops Q rest (a.put op.dst v) w) : wpList Tryz.prog ops Q (op :: rest) a w :=
  wpList_plain hgd fun _ hK => by unfold Oper.wp; rw [hr]; exact hK _ _ h
theorem grp_at {w W : World} (h : PG w 18 W) (t : TypeId) : GrpAt (W.alloc (.cells (gC w.heap.size) t)) (w.heap.size + 18) w.heap.size := by
  refine ⟨fun j hj => ?_, fun j hj => ?_, fun j hj i s hi => ?_, ?_⟩
  · rw [← h.size, cell_of_row _ _ _ _ _ (0, 0) (heap_alloc_new W _)]; exact (gC_get _ j hj).1
  · rw [← h.size, cell_of_row _ _ _ _ _ (0, 0) (heap_alloc_new W _)]; exact (gC_get _ j hj).2
  · rw [World.cell?_alloc_lt W _ _ (by show w.heap.size + j < _; rw [h.size]; omega)]; exact h.rows j hj i s hi
  · rw [World.size_alloc, h.size]; omega
set_option maxRecDepth 100000 in
set_option maxHeartbeats 32000000 in
theorem table_g (w : World) : Calls Tryz.prog 75 #[] w fun e w' => e = .returned (.slice (some ⟨w.heap.size + 18, 0, none⟩) 18 18) ∧ GrpAt w' (w.heap.size + 18) w.heap.size ∧ Below w.heap.size w w' := by
  have HP := PG.zero w
  go_enter Tryz.func75, Tryz.ntmps75
  go_upto_region 1 with fail
  refine wp_region_lit ?_
  refine wpList_row11 (n := 3) HP (by decide) (by decide) rfl (by kernel_rfl) ?_
  clear HP
  intro W0 HP
  refine wpList_bld11 HP (n := 3) rfl (by kernel_rfl) ?_
  refine wpList_row11 (n := 2) HP (by decide) (by decide) rfl (by kernel_rfl) ?_
  clear HP
  intro W1 HP
  refine wpList_bld11 HP (n := 2) rfl (by kernel_rfl) ?_
  refine wpList_row11 (n := 2) HP (by decide) (by decide) rfl (by kernel_rfl) ?_
  clear HP
  intro W2 HP
  refine wpList_bld11 HP (n := 2) rfl (by kernel_rfl) ?_
  refine wpList_row11 (n := 4) HP (by decide) (by decide) rfl (by kernel_rfl) ?_
  clear HP
  intro W3 HP
  refine wpList_bld11 HP (n := 4) rfl (by kernel_rfl) ?_
  refine wpList_row11 (n := 6) HP (by decide) (by decide) rfl (by kernel_rfl) ?_
  clear HP
  intro W4 HP
  refine wpList_bld11 HP (n := 6) rfl (by kernel_rfl) ?_
  refine wpList_row11 (n := 3) HP (by decide) (by decide) rfl (by kernel_rfl) ?_
  clear HP
  intro W5 HP
  refine wpList_bld11 HP (n := 3) rfl (by kernel_rfl) ?_
  refine wpList_row11 (n := 2) HP (by decide) (by decide) rfl (by kernel_rfl) ?_
  clear HP
  intro W6 HP
  refine wpList_bld11 HP (n := 2) rfl (by kernel_rfl) ?_
  refine wpList_row11 (n := 2) HP (by decide) (by decide) rfl (by kernel_rfl) ?_
  clear HP
  intro W7 HP
  refine wpList_bld11 HP (n := 2) rfl (by kernel_rfl) ?_
  refine wpList_row11 (n := 2) HP (by decide) (by decide) rfl (by kernel_rfl) ?_
  clear HP
  intro W8 HP
  refine wpList_bld11 HP (n := 2) rfl (by kernel_rfl) ?_
  refine wpList_row11 (n := 2) HP (by decide) (by decide) rfl (by kernel_rfl) ?_
  clear HP
  intro W9 HP
  refine wpList_bld11 HP (n := 2) rfl (by kernel_rfl) ?_
  refine wpList_row11 (n := 2) HP (by decide) (by decide) rfl (by kernel_rfl) ?_
  clear HP
  intro W10 HP
  refine wpList_bld11 HP (n := 2) rfl (by kernel_rfl) ?_
  refine wpList_row11 (n := 1) HP (by decide) (by decide) rfl (by kernel_rfl) ?_
  clear HP
  intro W11 HP
  refine wpList_bld11 HP (n := 1) rfl (by kernel_rfl) ?_
  refine wpList_row11 (n := 4) HP (by decide) (by decide) rfl (by kernel_rfl) ?_
  clear HP
  intro W12 HP
  refine wpList_bld11 HP (n := 4) rfl (by kernel_rfl) ?_
  refine wpList_row11 (n := 6) HP (by decide) (by decide) rfl (by kernel_rfl) ?_
  clear HP
  intro W13 HP
  refine wpList_bld11 HP (n := 6) rfl (by kernel_rfl) ?_
  refine wpList_row11 (n := 8) HP (by decide) (by decide) rfl (by kernel_rfl) ?_
  clear HP
  intro W14 HP
  refine wpList_bld11 HP (n := 8) rfl (by kernel_rfl) ?_
  refine wpList_row11 (n := 1) HP (by decide) (by decide) rfl (by kernel_rfl) ?_
  clear HP
  intro W15 HP
  refine wpList_bld11 HP (n := 1) rfl (by kernel_rfl) ?_
  refine wpList_row11 (n := 2) HP (by decide) (by decide) rfl (by kernel_rfl) ?_
  clear HP
  intro W16 HP
  refine wpList_bld11 HP (n := 2) rfl (by kernel_rfl) ?_
  refine wpList_row11 (n := 5) HP (by decide) (by decide) rfl (by kernel_rfl) ?_
  clear HP
  intro W17 HP
  refine wpList_bld11 HP (n := 5) rfl (by kernel_rfl) ?_
  refine wpList_tab11 HP rfl (by kernel_rfl) ?_
  refine wpList_as11 rfl (.slice (some ⟨w.heap.size + 18, 0, none⟩) 18 18) (by kernel_rfl) ?_
  rename_i K hK
  show K _ _
  refine hK _ _ ?_
  have hT : GrpAt (W17.alloc (.cells (gC w.heap.size) 137)) (w.heap.size + 18) w.heap.size := grp_at HP _
  have hB : Below w.heap.size w (W17.alloc (.cells (gC w.heap.size) 137)) := HP.below.alloc HP.below.size _
  generalize W17.alloc (.cells (gC w.heap.size) 137) = W at hT hB ⊢
  refine wp_ret ?_
  show bodyPost Tryz.prog Tryz.f75 (fun e w' => e = .returned (.slice (some ⟨w.heap.size + 18, 0, none⟩) 18 18) ∧ GrpAt w' (w.heap.size + 18) w.heap.size ∧ Below w.heap.size w w') .ret _ W
  exact bodyPost_ret (v := .slice (some ⟨w.heap.size + 18, 0, none⟩) 18 18) (by kernel_rfl) (by kernel_rfl) ⟨rfl, hT, hB⟩
end Go.Proofs.YtanifiobfbfehaaGreatDoor
namespace Go.Proofs.YtanifiobfbfehaaGreatDoor
open Go.RowKit
set_option linter.unusedVariables false
set_option linter.unusedSimpArgs false
attribute [local go_sem ↓] Go.wp_at_zero Go.wp_at_succ

def memIn : List Gp → ByteArray → List ByteArray
  | [], _ => []
  | e :: r, s => if e.1 = s then e.2 else memIn r s
/-- What a group names. -/
def memR (s : ByteArray) : List ByteArray := memIn grpT s
theorem gT_at {k : Nat} (hk : k < 18) : grpT[k]? = some (gN k, gL k) := by
  have h : k < grpT.length := hk
  unfold gN gL
  rw [List.getElem?_eq_getElem h, List.getD_eq_getElem?_getD, List.getElem?_eq_getElem h]; rfl
theorem mem_at {k : Nat} (hk : k < 18) (s : ByteArray) : memIn (grpT.drop k) s = if gN k = s then gL k else memIn (grpT.drop (k + 1)) s := by
  obtain ⟨h, e⟩ := List.getElem?_eq_some_iff.1 (gT_at hk)
  rw [List.drop_eq_getElem_cons h, e]; rfl
theorem mem_from : ∀ (l : List Gp) (s : ByteArray), memIn l s = [] ∨ ∃ e ∈ l, memIn l s = e.2
  | [], s => Or.inl rfl
  | e :: r, s => by
    unfold memIn
    split
    · exact Or.inr ⟨e, List.mem_cons_self .., rfl⟩
    · rcases mem_from r s with h | ⟨x, hx, h⟩
      · exact Or.inl h
      · exact Or.inr ⟨x, List.mem_cons_of_mem _ hx, h⟩
/-- Names lie in memory, as a slice says it. -/
def StrsAt (w : World) (v : Value) (l : List ByteArray) : Prop := ∃ q c, v = .slice q l.length c ∧ ∀ k s, l[k]? = some s → ∃ g o, q = some ⟨g, o, none⟩ ∧ w.cell? ⟨g, o + k, none⟩ = some (.string s)
theorem StrsAt.on {w w' : World} {v : Value} {l : List ByteArray} (h : StrsAt w v l) (hb : Below w.heap.size w w') : StrsAt w' v l := by
  obtain ⟨q, c, rfl, hr⟩ := h
  refine ⟨q, c, rfl, fun k s hk => ?_⟩
  obtain ⟨g, o, rfl, hc⟩ := hr k s hk
  exact ⟨g, o, rfl, (hb.cell (World.block_lt_of_cell? w _ hc)).trans hc⟩
theorem StrsAt.nil (w : World) : StrsAt w (.slice none 0 0) [] := ⟨none, 0, rfl, fun k s h => by simp at h⟩
theorem StrsAt.form {w : World} {v : Value} {l : List ByteArray} (h : StrsAt w v l) (h0 : 0 < l.length) : ∃ g o c, v = .slice (some ⟨g, o, none⟩) l.length c ∧ ∀ k s, l[k]? = some s → w.cell? ⟨g, o + k, none⟩ = some (.string s) := by
  obtain ⟨q, c, rfl, hr⟩ := h
  obtain ⟨g, o, rfl, _⟩ := hr 0 l[0] (List.getElem?_eq_getElem h0)
  refine ⟨g, o, c, rfl, fun k s hk => ?_⟩
  obtain ⟨g', o', e, hc⟩ := hr k s hk
  cases e
  exact hc
theorem list_of_bytes11 {a b : ByteArray} (h : a.toList = b.toList) : a = b := by
  apply ByteArray.ext
  have h2 := congrArg List.toArray h
  simpa [ByteArray.toList_eq] using h2
set_option maxHeartbeats 4000000 in
theorem refMembers (s : ByteArray) (w : World) : Calls Tryz.prog 61 #[.string s] w fun e w' => ∃ v, e = .returned v ∧ StrsAt w' v (memR s) ∧ Below w.heap.size w w' ∧ (∀ g, v.ownBlock = some g → w.heap.size ≤ g) := by
  have HT := Lib.hid (table_g w)
  have HD := Lib.hid (show memIn (grpT.drop 0) s = memR s from rfl)
  obtain ⟨r, hr⟩ : ∃ r, r = memR s := ⟨_, rfl⟩
  rw [← hr] at HD ⊢
  clear hr
  go_enter Tryz.func61, Tryz.ntmps61
  go_wp2_with (go_at_call 75; ((with_reducible refine (HT.out).mono ?_); rintro e W ⟨rfl, t1, b1⟩); have HC := Lib.hid t1; have B1 := Lib.hid b1; clear t1 b1)
  clear HT
  go_loop [4] (fun i => ∃ k : Nat, k ≤ 18 ∧ i = .int .i64 k ∧ Hid (memIn (grpT.drop k) s = r)) (fun i => 18 - (intOf i).toNat)
  case atStart => exact ⟨0, by omega, rfl, HD⟩
  case round =>
    obtain ⟨k, hk, rfl, hm⟩ := hrel
    by_cases hlt : k < 18
    · have c0 := HC.out.name k hlt
      have c1 := HC.out.row k hlt
      have HX := Lib.hid (HC.out.has k hlt)
      have HA := Lib.hid (mem_at hlt s)
      have k1 : (k : Int) < 18 := by omega
      have k0 : (0 : Int) ≤ k := by omega
      obtain ⟨x, hx⟩ : ∃ x, x = gN k := ⟨_, rfl⟩
      obtain ⟨y, hy⟩ : ∃ y, y = gL k := ⟨_, rfl⟩
      rw [← hx] at c0 HA
      rw [← hy] at c1 HA HX
      obtain ⟨n, hn⟩ : ∃ n, n = y.length := ⟨_, rfl⟩
      have HN := Lib.hid hn
      rw [← hn] at c1
      clear hx hy hn
      by_cases hs : x = s
      · subst hs
        have hv := Lib.hid (show r = y by rw [← hm.out, HA.out, if_pos rfl])
        have t1 : (x.toList == x.toList) = true := by simp
        clear HA hm
        go_wp2
        go_ret
        refine ⟨_, rfl, ?_, B1.out, fun g hg => Option.some.inj hg ▸ Nat.le_add_right _ _⟩
        rw [hv.out, HN.out]
        exact ⟨_, _, rfl, fun i z hi => ⟨_, _, rfl, by rw [Nat.zero_add]; exact HX.out i z hi⟩⟩
      · have hv := Lib.hid (show memIn (grpT.drop (k + 1)) s = r by rw [← hm.out, HA.out, if_neg hs])
        have hb : (x.toList == s.toList) = false := beq_eq_false_iff_ne.2 (fun e => hs (list_of_bytes11 e))
        clear HA hm hs
        go_wp2
        go_round
        case rel => exact ⟨k + 1, by omega, by go_num, hv⟩
        case measure => simp [intOf]; omega
    · obtain rfl : k = 18 := by omega
      have hv := Lib.hid (show r = [] from hm.out.symm)
      go_wp2
      go_ret
      exact ⟨_, rfl, by rw [hv.out]; exact StrsAt.nil _, B1.out, fun g hg => by cases hg⟩

def upD (f : ByteArray → Nat) (n : Nat) (t : ByteArray) : Nat := if n < f t + 1 then f t + 1 else n
def deepF : Nat → ByteArray → Nat
  | 0, _ => 0
  | k + 1, s => (memR s).foldl (upD (deepF k)) 0
/-- How deep a group is. -/
def deepR (s : ByteArray) : Nat := deepF 6 s
theorem up_le (f : ByteArray → Nat) (b : Nat) : ∀ (l : List ByteArray), (∀ t ∈ l, f t + 1 ≤ b) → ∀ a, a ≤ b → l.foldl (upD f) a ≤ b
  | [], _, a, h => h
  | t :: r, hl, a, h => up_le f b r (fun t ht => hl t (List.mem_cons_of_mem _ ht)) _ (by
      unfold upD
      split
      · exact hl t (List.mem_cons_self ..)
      · exact h)
theorem deepF_le : ∀ k s, deepF k s ≤ k
  | 0, _ => Nat.le_refl _
  | k + 1, s => up_le _ _ _ (fun t _ => Nat.succ_le_succ (deepF_le k t)) 0 (Nat.zero_le _)
theorem deep_le (s : ByteArray) : deepR s ≤ 6 := deepF_le 6 s
theorem up_congr {f g : ByteArray → Nat} : ∀ {l : List ByteArray}, (∀ t ∈ l, f t = g t) → ∀ a, l.foldl (upD f) a = l.foldl (upD g) a
  | [], _, _ => rfl
  | t :: r, h, a => by
    rw [List.foldl_cons, List.foldl_cons, up_congr (fun t ht => h t (List.mem_cons_of_mem _ ht))]
    unfold upD
    rw [h t (List.mem_cons_self ..)]
theorem deep_tab : (grpT.all fun e => e.2.all fun t => decide (deepF 6 t = deepF 5 t) && decide (deepF 6 t < e.2.foldl (upD (deepF 6)) 0)) = true := by kernel_rfl
theorem deep_step (s : ByteArray) : deepR s = (memR s).foldl (upD deepR) 0 := by
  show (memR s).foldl (upD (deepF 5)) 0 = _
  refine up_congr (fun t ht => ?_) 0
  rcases mem_from grpT s with h | ⟨e, he, h⟩
  · rw [show memR s = [] from h] at ht; cases ht
  · rw [show memR s = e.2 from h] at ht
    have := List.all_eq_true.1 (List.all_eq_true.1 deep_tab e he) t ht
    simp only [Bool.and_eq_true, decide_eq_true_eq] at this
    exact this.1.symm
theorem deep_lt {s t : ByteArray} (ht : t ∈ memR s) : deepR t < deepR s := by
  rw [deep_step s]
  rcases mem_from grpT s with h | ⟨e, he, h⟩
  · rw [show memR s = [] from h] at ht; cases ht
  · rw [show memR s = e.2 from h] at ht ⊢
    have := List.all_eq_true.1 (List.all_eq_true.1 deep_tab e he) t ht
    simp only [Bool.and_eq_true, decide_eq_true_eq] at this
    exact this.2
theorem deep_none {s : ByteArray} (h : memR s = []) : deepR s = 0 := by rw [deep_step, h]; rfl
def deepTo (l : List ByteArray) (k : Nat) : Nat := (l.take k).foldl (upD deepR) 0
theorem deepTo_step {l : List ByteArray} {k : Nat} {t : ByteArray} (h : l[k]? = some t) : deepTo l (k + 1) = upD deepR (deepTo l k) t := by
  unfold deepTo
  rw [List.take_add_one, h, List.foldl_append]; rfl
theorem deepTo_le (l : List ByteArray) (k : Nat) : deepTo l k ≤ 7 := up_le _ _ _ (fun t _ => Nat.succ_le_succ (deep_le t)) 0 (Nat.zero_le _)
set_option maxHeartbeats 4000000 in
theorem refDeep_at (s : ByteArray) (w : World) (ih : ∀ t ∈ memR s, ∀ W, Calls Tryz.prog 62 #[.string t] W fun e w' => e = .returned (.int .i64 (deepR t : Nat)) ∧ Below W.heap.size W w') :
    Calls Tryz.prog 62 #[.string s] w fun e w' => e = .returned (.int .i64 (deepR s : Nat)) ∧ Below w.heap.size w w' := by
  have HM := Lib.hid (refMembers s w)
  have HI := Lib.hid ih
  have HV := Lib.hid (show deepTo (memR s) (memR s).length = deepR s by rw [deep_step]; unfold deepTo; rw [List.take_length])
  obtain ⟨dp, hdp⟩ : ∃ d, d = deepR s := ⟨_, rfl⟩
  rw [← hdp] at HV ⊢
  obtain ⟨L, hL⟩ : ∃ L, L = memR s := ⟨_, rfl⟩
  rw [← hL] at HM HI HV
  obtain ⟨n, hn⟩ : ∃ n, n = L.length := ⟨_, rfl⟩
  have HN := Lib.hid hn
  have hn2 : L.length ≤ 8 := by
    rw [hL]
    rcases mem_from grpT s with h | ⟨e, he, h⟩
    · rw [show memR s = [] from h]; exact Nat.zero_le _
    · rw [show memR s = e.2 from h]
      exact of_decide_eq_true (List.all_eq_true.1 (show (grpT.all fun e => decide (e.2.length ≤ 8)) = true by kernel_rfl) e he)
  rw [← hn] at HV hn2
  clear ih hdp hL hn
  go_enter Tryz.func62, Tryz.ntmps62
  go_wp2_with (go_at_call 61; ((with_reducible refine (HM.out).mono ?_); rintro e W ⟨v, rfl, t1, b1, _⟩); obtain ⟨q, c, rfl, t2⟩ := t1; rw [← HN.out]; have HC := Lib.hid t2; have B1 := Lib.hid b1; clear t2 b1)
  clear HM
  go_loopw [4, 5] (fun v4 v5 wr => ∃ k : Nat, k ≤ n ∧ v5 = .int .i64 k ∧ v4 = .int .i64 (deepTo L k : Nat) ∧ Hid (Below W.heap.size W wr)) (fun _ v5 _ => n - (intOf v5).toNat)
  case atStart => exact ⟨0, by omega, rfl, rfl, Lib.hid (Below.refl _ _)⟩
  case round =>
    obtain ⟨k, hk, rfl, rfl, PB⟩ := hrel
    obtain ⟨V, rfl⟩ : ∃ wo : World, wo = wr := ⟨_, rfl⟩
    by_cases hlt : k < n
    · have hx : L[k]? = some (L[k]'(by rw [← HN.out]; exact hlt)) := List.getElem?_eq_getElem _
      obtain ⟨t, ht⟩ : ∃ t, t = L[k]'(by rw [← HN.out]; exact hlt) := ⟨_, rfl⟩
      rw [← ht] at hx
      obtain ⟨g, o, rfl, hc⟩ := HC.out k t hx
      have c0 := (PB.out.cell (World.block_lt_of_cell? W _ hc)).trans hc
      have HR := Lib.hid (HI.out t (List.mem_of_getElem? hx))
      have HS := Lib.hid (deepTo_step hx)
      have d1 := deep_le t
      have d2 := deepTo_le L k
      obtain ⟨d, hd⟩ : ∃ d, d = deepR t := ⟨_, rfl⟩
      obtain ⟨m, hm⟩ : ∃ m, m = deepTo L k := ⟨_, rfl⟩
      have HS2 := Lib.hid (show deepTo L (k + 1) = if m < d + 1 then d + 1 else m by rw [hm, hd]; exact HS.out)
      rw [← hd] at HR d1
      rw [← hm] at d2 ⊢
      have k1 : (k : Int) < n := by omega
      have k0 : (0 : Int) ≤ k := by omega
      have u1 : IntKind.i64.wrap ((d : Int) + 1) = d + 1 := by rw [IntKind.wrap_i64]; omega
      have hsz := PB.out.size
      clear hx ht hc hd hm HS
      by_cases hc : m < d + 1
      · have hv := Lib.hid (show deepTo L (k + 1) = d + 1 by rw [HS2.out, if_pos hc])
        have c2 : (m : Int) < d + 1 := by omega
        clear HS2 hc
        go_wp2_with (go_at_call 62; ((with_reducible refine (HR.out _).mono ?_); rintro e X ⟨rfl, b2⟩); have B2 := Lib.hid (PB.out.trans (b2.mono hsz)); clear b2)
        go_roundw
        case rel => exact ⟨k + 1, by omega, by go_num, by rw [hv.out]; rfl, B2⟩
        case measure => simp [intOf]; omega
      · have hv := Lib.hid (show deepTo L (k + 1) = m by rw [HS2.out, if_neg hc])
        have c2 : ¬ (m : Int) < d + 1 := by omega
        clear HS2 hc
        go_wp2_with (go_at_call 62; ((with_reducible refine (HR.out _).mono ?_); rintro e X ⟨rfl, b2⟩); have B2 := Lib.hid (PB.out.trans (b2.mono hsz)); clear b2)
        go_roundw
        case rel => exact ⟨k + 1, by omega, by go_num, by rw [hv.out], B2⟩
        case measure => simp [intOf]; omega
    · obtain rfl : k = n := by omega
      have k1 : ¬ (k : Int) < k := by omega
      go_wp2
      go_ret
      exact ⟨by rw [HV.out]; rfl, B1.out.trans (PB.out.mono B1.out.size)⟩
theorem refDeep (s : ByteArray) (w : World) : Calls Tryz.prog 62 #[.string s] w fun e w' => e = .returned (.int .i64 (deepR s : Nat)) ∧ Below w.heap.size w w' := by
  have key : ∀ n s, deepR s ≤ n → ∀ w, Calls Tryz.prog 62 #[.string s] w fun e w' => e = .returned (.int .i64 (deepR s : Nat)) ∧ Below w.heap.size w w' := by
    intro n
    induction n with
    | zero => exact fun s h w => refDeep_at s w fun t ht => absurd (deep_lt ht) (by omega)
    | succ n ih => exact fun s h w => refDeep_at s w fun t ht W => ih t (by have := deep_lt ht; omega) W
  exact key _ s (Nat.le_refl _) w
end Go.Proofs.YtanifiobfbfehaaGreatDoor
namespace Go.Proofs.YtanifiobfbfehaaGreatDoor
open Go.RowKit
set_option linter.unusedVariables false
set_option linter.unusedSimpArgs false
attribute [local go_sem ↓] Go.wp_at_zero Go.wp_at_succ

def sG (l : List ByteArray) : List Value := l.map Value.string
theorem sG_length (l : List ByteArray) : (sG l).length = l.length := List.length_map _
theorem sG_one (l : List ByteArray) : ∀ u ∈ sG l, u.oneCell' = true := fun u hu => by
  obtain ⟨x, _, rfl⟩ := List.mem_map.1 hu; rfl
theorem sG_get {l : List ByteArray} {k : Nat} {s : ByteArray} (h : l[k]? = some s) : (sG l)[k]? = some (.string s) := by
  unfold sG; rw [List.getElem?_map, h]; rfl
theorem sG_app (l m : List ByteArray) : sG (l ++ m) = sG l ++ sG m := List.map_append
theorem str_info11 : (Tryz.prog.info? 9).map (fun i => (i.zero, i.size, i.bytes)) = some (some (.string ⟨#[]⟩), 1, 16) := by kernel_rfl
theorem news_g (w : World) (x : ByteArray) (t : TypeId) : ∀ j u, (sG [x])[j]? = some u → (w.alloc (.cells #[.string x] t)).cell? ((⟨w.heap.size, 0, none⟩ : Addr).add j) = some u := fun j u hu => by
  rw [Addr.add_lit, Nat.zero_add, cell_of_row _ _ j _ _ (0, 0) (heap_alloc_new w _), ← Array.getElem?_toList]
  exact hu
/-- What one owns lies there as a slice says it. -/
theorem strs_own {w : World} {B : Nat} {v : Value} {l : List ByteArray} {t : TypeId} (h : w.ownsRow B t 1 v l.length (sG l)) : StrsAt w v l := by
  rcases h.2 with ⟨rfl, h0⟩ | ⟨g, cap, cur, rfl, _⟩
  · exact ⟨none, 0, by rw [h0], fun k s hk => by rw [List.eq_nil_of_length_eq_zero h0] at hk; simp at hk⟩
  · refine ⟨_, _, rfl, fun k s hk => ⟨g, 0, rfl, ?_⟩⟩
    have hl : k < l.length := (List.getElem?_eq_some_iff.1 hk).1
    rw [Nat.zero_add, h.cellAt k (by omega)]
    exact sG_get hk
def ltB (a b : ByteArray) : Bool := Go.Op.bytesLess a.toList b.toList
def leB (a b : ByteArray) : Bool := ltB a b || a.toList == b.toList
/-- A name more in a list that rises, once: as far as so many elements; in all. -/
def putTo (l : List ByteArray) (s : ByteArray) : Nat → Bool × List ByteArray
  | 0 => (false, [])
  | k + 1 =>
    let p := putTo l s k
    let t := l.getD k ⟨#[]⟩
    if p.1 = false ∧ leB s t = true then (true, (if ltB s t = true then p.2 ++ [s] else p.2) ++ [t]) else (p.1, p.2 ++ [t])
def putR (l : List ByteArray) (s : ByteArray) : List ByteArray := if (putTo l s l.length).1 = true then (putTo l s l.length).2 else (putTo l s l.length).2 ++ [s]
theorem put_le (l : List ByteArray) (s : ByteArray) : ∀ k, (putTo l s k).2.length ≤ 2 * k
  | 0 => Nat.le_refl _
  | k + 1 => by
    have ih := put_le l s k
    unfold putTo
    simp only
    split
    · split <;> simp only [List.length_append, List.length_cons, List.length_nil] <;> omega
    · simp only [List.length_append, List.length_cons, List.length_nil]; omega
theorem put_thr {l : List ByteArray} {s : ByteArray} {k : Nat} {o : List ByteArray} {t : ByteArray} (h : putTo l s k = (true, o)) (ht : l.getD k ⟨#[]⟩ = t) : putTo l s (k + 1) = (true, o ++ [t]) := by
  rw [putTo]; simp only [h, ht]; rfl
theorem put_no {l : List ByteArray} {s : ByteArray} {k : Nat} {o : List ByteArray} {t : ByteArray} (h : putTo l s k = (false, o)) (ht : l.getD k ⟨#[]⟩ = t) (hn : leB s t = false) : putTo l s (k + 1) = (false, o ++ [t]) := by
  rw [putTo]; simp only [h, ht, hn]; rfl
theorem put_lt {l : List ByteArray} {s : ByteArray} {k : Nat} {o : List ByteArray} {t : ByteArray} (h : putTo l s k = (false, o)) (ht : l.getD k ⟨#[]⟩ = t) (hn : ltB s t = true) : putTo l s (k + 1) = (true, o ++ [s] ++ [t]) := by
  rw [putTo]; simp only [h, ht, hn, show leB s t = true by unfold leB; rw [hn]; rfl]; rfl
theorem put_eq {l : List ByteArray} {s : ByteArray} {k : Nat} {o : List ByteArray} {t : ByteArray} (h : putTo l s k = (false, o)) (ht : l.getD k ⟨#[]⟩ = t) (hn : ltB s t = false) (he : leB s t = true) : putTo l s (k + 1) = (true, o ++ [t]) := by
  rw [putTo]; simp only [h, ht, hn, he]; rfl
set_option maxRecDepth 100000 in
set_option maxHeartbeats 16000000 in
theorem refPut (v : Value) (l : List ByteArray) (s : ByteArray) (w : World) (hl : StrsAt w v l) (hn : l.length ≤ 1000) : Calls Tryz.prog 63 #[v, .string s] w fun e w' =>
    ∃ r, e = .returned r ∧ w'.ownsRow w.heap.size 9 1 r (putR l s).length (sG (putR l s)) ∧ Below w.heap.size w w' := by
  obtain ⟨i0, hi0, hz0, hz1, hz2⟩ := info_parts str_info11
  have HI := Lib.hid hi0
  have HZ0 := Lib.hid hz0
  have HZ1 := Lib.hid hz1
  have HZ2 := Lib.hid hz2
  obtain ⟨q, c, rfl, hr⟩ := hl
  have HC := Lib.hid hr
  obtain ⟨n, hnl⟩ : ∃ n, n = l.length := ⟨_, rfl⟩
  have HN := Lib.hid hnl
  rw [← hnl] at hn ⊢
  have HP := Lib.hid (show putR l s = if (putTo l s n).1 = true then (putTo l s n).2 else (putTo l s n).2 ++ [s] by rw [hnl]; rfl)
  obtain ⟨R, hR⟩ : ∃ R, R = putR l s := ⟨_, rfl⟩
  rw [← hR] at HP ⊢
  clear hi0 hz0 hz1 hz2 hr hnl hR
  go_enter Tryz.func63, Tryz.ntmps63
  go_wp2
  go_loopw [5, 6, 7] (fun v5 v6 v7 wr => ∃ (k : Nat) (th : Bool) (o : List ByteArray), k ≤ n ∧ v7 = .int .i64 k ∧ v6 = .bool th ∧ Hid (putTo l s k = (th, o)) ∧ Hid (wr.ownsRow w.heap.size 9 1 v5 o.length (sG o)) ∧ Hid (Below w.heap.size w wr)) (fun _ _ v7 _ => n - (intOf v7).toNat)
  case atStart => exact ⟨0, false, [], by omega, rfl, rfl, Lib.hid rfl, Lib.hid (World.ownsRow_nil _ _ _ _), Lib.hid (Below.refl _ _)⟩
  case round =>
    obtain ⟨k, th, o, hk, rfl, rfl, hp, PO, PB⟩ := hrel
    obtain ⟨V, rfl⟩ : ∃ wo : World, wo = wr := ⟨_, rfl⟩
    have hol : o.length ≤ 2000 := by
      have h2 := put_le l s k
      rw [hp.out] at h2
      have h3 : o.length ≤ 2 * k := h2
      omega
    obtain ⟨m, hm⟩ : ∃ m, m = o.length := ⟨_, rfl⟩
    have HM := Lib.hid hm
    rw [← hm] at hol PO
    by_cases hlt : k < n
    · have hx : l[k]? = some (l[k]'(by rw [← HN.out]; exact hlt)) := List.getElem?_eq_getElem _
      obtain ⟨t, ht⟩ : ∃ t, t = l[k]'(by rw [← HN.out]; exact hlt) := ⟨_, rfl⟩
      rw [← ht] at hx
      obtain ⟨g, f, rfl, hc⟩ := HC.out k t hx
      have HW := Lib.hid hc
      have c0 := (PB.out.cell (World.block_lt_of_cell? w _ hc)).trans hc
      have HT := Lib.hid (show l.getD k ⟨#[]⟩ = t by rw [List.getD_eq_getElem?_getD, hx]; rfl)
      have k1 : (k : Int) < n := by omega
      have k0 : (0 : Int) ≤ k := by omega
      clear hx ht hc hm
      cases th with
      | true =>
        have HS := Lib.hid (put_thr hp.out HT.out)
        clear hp HT
        go_wp2_with (first
          | (at_builtin
             refine wpList_append_own _ rfl (.tmp 34) (.tmp 39) 52 rfl w.heap.size 9 i0 _ 1 16 Tryz.underlying52 HI.out HZ0.out HZ1.out HZ2.out rfl (by omega) _ m _ rfl (PO.out.alloc _) ⟨V.heap.size, 0, none⟩ 1 1 (sG [t]) rfl rfl (news_g V t _) (sG_one _) (by unfold maxLen; omega) (by omega) (by rw [World.size_alloc]; exact Nat.le_succ_of_le PB.out.size) ?_
             intro v5 w5 o5 h5 _
             rw [← sG_app] at o5
             have O5 := Lib.hid o5
             have B5 := Lib.hid ((PB.out.alloc PB.out.size _).grown h5 (by rw [World.size_alloc]; exact Nat.le_succ_of_le PB.out.size) (fun g hg => (PO.out.lt g hg).1))
             clear o5 h5))
        go_roundw
        case rel => exact ⟨k + 1, true, o ++ [t], by omega, by go_num, rfl, HS, Lib.hid (by rw [List.length_append, ← HM.out]; exact O5.out), B5⟩
        case measure => simp [intOf]; omega
      | false =>
        cases hle : leB s t with
        | false =>
          have HS := Lib.hid (put_no hp.out HT.out hle)
          unfold leB ltB at hle
          have hle1 := (Bool.or_eq_false_iff.1 hle).1
          have hle2 := (Bool.or_eq_false_iff.1 hle).2
          clear hp HT hle
          go_wp2_with (first
            | (at_builtin
               refine wpList_append_own _ rfl (.tmp 34) (.tmp 39) 52 rfl w.heap.size 9 i0 _ 1 16 Tryz.underlying52 HI.out HZ0.out HZ1.out HZ2.out rfl (by omega) _ m _ rfl (PO.out.alloc _) ⟨V.heap.size, 0, none⟩ 1 1 (sG [t]) rfl rfl (news_g V t _) (sG_one _) (by unfold maxLen; omega) (by omega) (by rw [World.size_alloc]; exact Nat.le_succ_of_le PB.out.size) ?_
               intro v5 w5 o5 h5 _
               rw [← sG_app] at o5
               have O5 := Lib.hid o5
               have B5 := Lib.hid ((PB.out.alloc PB.out.size _).grown h5 (by rw [World.size_alloc]; exact Nat.le_succ_of_le PB.out.size) (fun g hg => (PO.out.lt g hg).1))
               clear o5 h5))
          go_roundw
          case rel => exact ⟨k + 1, false, o ++ [t], by omega, by go_num, rfl, HS, Lib.hid (by rw [List.length_append, ← HM.out]; exact O5.out), B5⟩
          case measure => simp [intOf]; omega
        | true =>
          cases hll : ltB s t with
          | true =>
            have HS := Lib.hid (put_lt hp.out HT.out hll)
            unfold ltB at hll
            clear hp HT hle
            go_wp2_with (first
              | (at_builtin
                 refine wpList_append_own _ rfl (.tmp 30) (.tmp 32) 52 rfl w.heap.size 9 i0 _ 1 16 Tryz.underlying52 HI.out HZ0.out HZ1.out HZ2.out rfl (by omega) _ m _ rfl (PO.out.alloc _) ⟨V.heap.size, 0, none⟩ 1 1 (sG [s]) rfl rfl (news_g V s _) (sG_one _) (by unfold maxLen; omega) (by omega) (by rw [World.size_alloc]; exact Nat.le_succ_of_le PB.out.size) ?_
                 intro v5 w5 o5 h5 _
                 rw [← sG_app] at o5
                 have O5 := Lib.hid o5
                 have B5 := Lib.hid ((PB.out.alloc PB.out.size _).grown h5 (by rw [World.size_alloc]; exact Nat.le_succ_of_le PB.out.size) (fun g hg => (PO.out.lt g hg).1))
                 have c5 := (B5.out.cell (World.block_lt_of_cell? w _ HW.out)).trans HW.out
                 clear o5 h5)
              | (at_builtin
                 refine wpList_append_own _ rfl (.tmp 34) (.tmp 39) 52 rfl w.heap.size 9 i0 _ 1 16 Tryz.underlying52 HI.out HZ0.out HZ1.out HZ2.out rfl (by omega) _ (m + 1) _ rfl (O5.out.alloc _) ⟨w5.heap.size, 0, none⟩ 1 1 (sG [t]) rfl rfl (news_g w5 t _) (sG_one _) (by unfold maxLen; omega) (by omega) (by rw [World.size_alloc]; exact Nat.le_succ_of_le B5.out.size) ?_
                 intro v6 w6 o6 h6 _
                 rw [← sG_app] at o6
                 have O6 := Lib.hid o6
                 have B6 := Lib.hid ((B5.out.alloc B5.out.size _).grown h6 (by rw [World.size_alloc]; exact Nat.le_succ_of_le B5.out.size) (fun g hg => (O5.out.lt g hg).1))
                 clear o6 h6))
            go_roundw
            case rel => exact ⟨k + 1, true, o ++ [s] ++ [t], by omega, by go_num, rfl, HS, Lib.hid (by rw [List.length_append, List.length_append, ← HM.out]; exact O6.out), B6⟩
            case measure => simp [intOf]; omega
          | false =>
            have HS := Lib.hid (put_eq hp.out HT.out hll hle)
            unfold leB at hle
            rw [hll, Bool.false_or] at hle
            unfold ltB at hll
            clear hp HT
            go_wp2_with (first
              | (at_builtin
                 refine wpList_append_own _ rfl (.tmp 34) (.tmp 39) 52 rfl w.heap.size 9 i0 _ 1 16 Tryz.underlying52 HI.out HZ0.out HZ1.out HZ2.out rfl (by omega) _ m _ rfl (PO.out.alloc _) ⟨V.heap.size, 0, none⟩ 1 1 (sG [t]) rfl rfl (news_g V t _) (sG_one _) (by unfold maxLen; omega) (by omega) (by rw [World.size_alloc]; exact Nat.le_succ_of_le PB.out.size) ?_
                 intro v5 w5 o5 h5 _
                 rw [← sG_app] at o5
                 have O5 := Lib.hid o5
                 have B5 := Lib.hid ((PB.out.alloc PB.out.size _).grown h5 (by rw [World.size_alloc]; exact Nat.le_succ_of_le PB.out.size) (fun g hg => (PO.out.lt g hg).1))
                 clear o5 h5))
            go_roundw
            case rel => exact ⟨k + 1, true, o ++ [t], by omega, by go_num, rfl, HS, Lib.hid (by rw [List.length_append, ← HM.out]; exact O5.out), B5⟩
            case measure => simp [intOf]; omega
    · obtain rfl : k = n := by omega
      have k1 : ¬ (k : Int) < k := by omega
      cases th with
      | true =>
        have hv := Lib.hid (show R = o by rw [HP.out, hp.out]; rfl)
        go_wp2
        go_ret
        exact ⟨_, rfl, by rw [hv.out, ← HM.out]; exact PO.out, PB.out⟩
      | false =>
        have hv := Lib.hid (show R = o ++ [s] by rw [HP.out, hp.out]; rfl)
        go_wp2_with (first
          | (at_builtin
             refine wpList_append_own _ rfl (.tmp 43) (.tmp 45) 52 rfl w.heap.size 9 i0 _ 1 16 Tryz.underlying52 HI.out HZ0.out HZ1.out HZ2.out rfl (by omega) _ m _ rfl (PO.out.alloc _) ⟨V.heap.size, 0, none⟩ 1 1 (sG [s]) rfl rfl (news_g V s _) (sG_one _) (by unfold maxLen; omega) (by omega) (by rw [World.size_alloc]; exact Nat.le_succ_of_le PB.out.size) ?_
             intro v5 w5 o5 h5 _
             rw [← sG_app] at o5
             have O5 := Lib.hid o5
             have B5 := Lib.hid ((PB.out.alloc PB.out.size _).grown h5 (by rw [World.size_alloc]; exact Nat.le_succ_of_le PB.out.size) (fun g hg => (PO.out.lt g hg).1))
             clear o5 h5))
        go_ret
        exact ⟨_, rfl, by rw [hv.out, List.length_append, ← HM.out]; exact O5.out, B5.out⟩
end Go.Proofs.YtanifiobfbfehaaGreatDoor
namespace Go.Proofs.YtanifiobfbfehaaGreatDoor
open Go.RowKit
set_option linter.unusedVariables false
set_option linter.unusedSimpArgs false

/-- A queue: names in a block of one's own, room behind them. -/
def QAt (B : Nat) (w : World) (v : Value) (l : List ByteArray) : Prop := ∃ g o c, v = .slice (some ⟨g, o, none⟩) l.length c ∧ B ≤ g ∧ g < w.heap.size ∧ l.length ≤ c ∧ c ≤ maxLen ∧
  (∀ k s, l[k]? = some s → w.cell? ⟨g, o + k, none⟩ = some (.string s)) ∧
  (∀ j, j < c - l.length → (w.cell? ⟨g, o + l.length + j, none⟩).isSome = true ∧ w.frozen? ⟨g, o + l.length + j, none⟩ = false)
theorem QAt.kept {B : Nat} {w w' : World} {v : Value} {l : List ByteArray} (h : QAt B w v l) (hs : w.heap.size ≤ w'.heap.size) (hb : ∀ g, v.ownBlock = some g → w'.heap[g]? = w.heap[g]?) : QAt B w' v l := by
  obtain ⟨g, o, c, rfl, h1, h2, h3, h4, h5, h6⟩ := h
  have hg := hb g rfl
  refine ⟨g, o, c, rfl, h1, Nat.lt_of_lt_of_le h2 hs, h3, h4, fun k s hk => ?_, fun j hj => ?_⟩
  · exact (World.cell?_of_block (a := ⟨g, o + k, none⟩) hg).trans (h5 k s hk)
  · rw [World.cell?_of_block (a := ⟨g, o + l.length + j, none⟩) hg, World.frozen?_of_block (a := ⟨g, o + l.length + j, none⟩) hg]
    exact h6 j hj
theorem QAt.lt {B : Nat} {w : World} {v : Value} {l : List ByteArray} (h : QAt B w v l) : ∀ g, v.ownBlock = some g → B ≤ g ∧ g < w.heap.size := by
  obtain ⟨g, o, c, rfl, h1, h2, _⟩ := h
  intro g' e
  have := Option.some.inj e
  subst this
  exact ⟨h1, h2⟩
theorem QAt.on {B : Nat} {w w' : World} {v : Value} {l : List ByteArray} (h : QAt B w v l) (hb : Below w.heap.size w w') : QAt B w' v l :=
  h.kept hb.size fun g hg => hb.block g (h.lt g hg).2
theorem QAt.own {B : Nat} {w : World} {v : Value} {l : List ByteArray} {t : TypeId} {n : Nat} (h : w.ownsRow B t 1 v n (sG l)) (hn : n = l.length) (h0 : 0 < n) : QAt B w v l := by
  subst hn
  rcases h.2 with ⟨_, h0'⟩ | ⟨g, cap, cur, rfl, hgB, hg, hc, hm, hs, ht⟩
  · omega
  · refine ⟨g, 0, cap, rfl, hgB, (Array.getElem?_eq_some_iff.1 hg).1, hc, hm, fun k s hk => ?_, fun j hj => ?_⟩
    · have hl : k < l.length := (List.getElem?_eq_some_iff.1 hk).1
      rw [Nat.zero_add, h.cellAt k (by omega)]
      exact sG_get hk
    · rw [Nat.zero_add, cell_of_row w g _ cur t (0, 0) hg]
      refine ⟨?_, h.frozenAt _⟩
      rw [Array.getElem?_eq_getElem (by omega)]; rfl
/-- The front taken off. -/
theorem QAt.tail {B : Nat} {w : World} {x : ByteArray} {l : List ByteArray} {g o c : Nat} (h : QAt B w (.slice (some ⟨g, o, none⟩) (l.length + 1) c) (x :: l)) : 1 ≤ c ∧ QAt B w (.slice (if c = 1 then some ⟨g, o, none⟩ else some ⟨g, o + 1, none⟩) l.length (c - 1)) l := by
  obtain ⟨g', o', c', e, h1, h2, h3, h4, h5, h6⟩ := h
  cases e
  rw [List.length_cons] at h3 h6
  refine ⟨by omega, ?_⟩
  by_cases hc : c = 1
  · rw [if_pos hc]
    have hl : l = [] := List.eq_nil_of_length_eq_zero (by omega)
    subst hl
    refine ⟨g, o, c - 1, rfl, h1, h2, Nat.zero_le _, by omega, fun k s hk => by simp at hk, fun j hj => ?_⟩
    simp only [List.length_nil] at hj
    omega
  · rw [if_neg hc]
    refine ⟨g, o + 1, c - 1, rfl, h1, h2, by omega, by omega, fun k s hk => ?_, fun j hj => ?_⟩
    · rw [show o + 1 + k = o + (k + 1) by omega]
      exact h5 (k + 1) s (by simpa using hk)
    · rw [show o + 1 + l.length + j = o + (l.length + 1) + j by omega]
      exact h6 j (by omega)
theorem grow_sz {w w' : World} {row : Option Nat} (h : w.grownBy w' row) : w.heap.size ≤ w'.heap.size := h.size
/-- append behind a queue: whatever room there is. -/
theorem wpList_append_q {P : Program} (w : World) {ops : Array Oper} {rest : List Oper} {op : Oper} {a : Act} {Q : Exit → Act → World → Prop}
    (hg : op.guard = none) (s x : Operand) (t e : TypeId) (hop : op.op = Op.call { callee := Callee.builtin Builtin.append, args := #[s, x], argTypes := #[t, t] })
    (i : TypeInfo) (z : Value) (h1 : P.underlying t = some (.slice e)) (h2 : P.info? e = some i) (h3 : i.zero = some z) (h4 : i.size = 1) (h5 : i.bytes = 16) (h6 : z.cells.size = 1)
    (B : Nat) (v : Value) (l : List ByteArray) (hq : QAt B w v l) (hs : a.eval s = v)
    (y : ByteArray) (ad : Addr) (c : Nat) (hx : a.eval x = .slice (some ad) 1 c) (hc : ∀ j u, (sG [y])[j]? = some u → w.cell? (ad.add j) = some u) (hl : l.length ≤ 1000) (hB : B ≤ w.heap.size)
    (h : ∀ v' w', QAt B w' v' (l ++ [y]) → w.heap.size ≤ w'.heap.size → Below B w w' → (∀ b, b < w.heap.size → v.ownBlock ≠ some b → w'.heap[b]? = w.heap[b]?) → (v'.ownBlock = v.ownBlock ∨ ∀ b, v'.ownBlock = some b → w.heap.size ≤ b) → wpList P ops Q rest (a.put op.dst v') w') :
    wpList P ops Q (op :: rest) a w := by
  obtain ⟨g, o, cap, rfl, q1, q2, q3, q4, q5, q6⟩ := hq
  have hlen : (sG l).length = l.length * 1 := by rw [sG_length, Nat.mul_one]
  refine wpList_append_arg w hg s x t hop e i z 1 16 h1 h2 h3 h4 h5 h6 (by omega) g o l.length cap (sG l) hs hlen (fun j u hj => ?_) ad 1 c (sG [y]) hx rfl hc (sG_one _) (fun hr j hj => ?_) (by unfold maxLen; omega) (by omega) (fun hr => ?_) (fun hr v' w' ho hgr => ?_)
  · unfold sG at hj
    rw [List.getElem?_map] at hj
    cases hk : l[j]? with
    | none => rw [hk] at hj; cases hj
    | some s' => rw [hk] at hj; cases hj; exact q5 j s' hk
  · have hj0 : j = 0 := by have : (sG [y]).length = 1 := rfl; omega
    subst hj0
    rw [Nat.mul_one]
    exact q6 0 (by omega)
  · have q60 := q6 0 (by omega)
    rw [Nat.mul_one]
    have hout : ∀ p : Addr, (p.block = g → p.spot = none → p.off < o + l.length ∨ o + l.length + 1 ≤ p.off) → (w.setCells g (o + l.length) (sG [y])).cell? p = w.cell? p := fun p hp => World.cell?_setCells_out g (sG [y]) (o + l.length) w p hp
    have hin := World.cell?_setCells_in g (sG [y]) (o + l.length) w (fun j hj => by
      have hj0 : j = 0 := by have : (sG [y]).length = 1 := rfl; omega
      subst hj0; exact q60.1) 0 (show 0 < (sG [y]).length from Nat.zero_lt_one)
    have hsz : w.heap.size ≤ (w.setCells g (o + l.length) (sG [y])).heap.size := ((Below.refl g w).setCell (p := ⟨g, o + l.length, none⟩) (Nat.le_refl _) (.string y)).size
    refine h _ _ ⟨g, o, cap, by rw [List.length_append]; rfl, q1, Nat.lt_of_lt_of_le q2 hsz, by rw [List.length_append]; exact hr, q4, fun k s' hk => ?_, fun j hj => ?_⟩ hsz ((Below.refl B w).setCell (p := ⟨g, o + l.length, none⟩) q1 (.string y)) (fun b hb hne => Below.heap_setCell w ⟨g, o + l.length, none⟩ (.string y) b (fun e => hne (by rw [e]; rfl))) (Or.inl rfl)
    · by_cases hkl : k < l.length
      · rw [hout ⟨g, o + k, none⟩ (fun _ _ => Or.inl (by show o + k < _; omega))]
        rw [List.getElem?_append_left hkl] at hk
        exact q5 k s' hk
      · have hk2 := (List.getElem?_eq_some_iff.1 hk).1
        rw [List.length_append, List.length_singleton] at hk2
        obtain rfl : k = l.length := by omega
        rw [List.getElem?_append_right (Nat.le_refl _), Nat.sub_self] at hk
        cases hk
        exact hin
    · rw [List.length_append, List.length_singleton] at hj ⊢
      have := q6 (j + 1) (by omega)
      rw [show o + l.length + (j + 1) = o + (l.length + 1) + j by omega] at this
      rw [hout ⟨g, o + (l.length + 1) + j, none⟩ (fun _ _ => Or.inr (by show _ ≤ o + (l.length + 1) + j; omega)), World.frozen?_setCells]
      exact this
  · rw [← sG_app] at ho
    have hgr2 : Below B w w' := (Below.refl B w).grown hgr hB (fun k hk => by cases hk)
    refine h v' w' ?_ (grow_sz hgr) hgr2 (fun b hb _ => hgr.block b hb (by intro e; cases e)) (Or.inr fun b hb => (ho.lt b hb).1)
    obtain ⟨g', o', c', r1, r2, r3⟩ := QAt.own ho (by rw [List.length_append]; rfl) (by omega)
    exact ⟨g', o', c', r1, Nat.le_trans hB r2, r3⟩

/-- One name of a group: a call goes into the list, a group behind the queue. -/
def inE (p : List ByteArray × List ByteArray) (t : ByteArray) : List ByteArray × List ByteArray := if memR t = [] then (p.1, putR p.2 t) else (p.1 ++ [t], p.2)
def stepE : List ByteArray × List ByteArray → List ByteArray × List ByteArray
  | ([], o) => ([], o)
  | (x :: r, o) => (memR x).foldl inE (r, o)
def iterE (s : ByteArray) : Nat → List ByteArray × List ByteArray
  | 0 => ([s], [])
  | k + 1 => stepE (iterE s k)
def expL (s : ByteArray) : List ByteArray := if memR s = [] ∨ 4 < deepR s then [] else (iterE s 24).2
def expE (s : ByteArray) : Int := if memR s = [] then 110 else if 4 < deepR s then 111 else 0
theorem exp_ends : (grpT.all fun e => (iterE e.1 24).1.isEmpty) = true := by kernel_rfl
theorem mem_some {l : List Gp} {s : ByteArray} (h : memIn l s ≠ []) : ∃ e ∈ l, e.1 = s := by
  induction l with
  | nil => exact absurd rfl h
  | cons e r ih =>
    unfold memIn at h
    split at h
    · rename_i hh; exact ⟨e, List.mem_cons_self .., hh⟩
    · obtain ⟨x, hx, p⟩ := ih h; exact ⟨x, List.mem_cons_of_mem _ hx, p⟩
theorem exp_end {s : ByteArray} (h : memR s ≠ []) : (iterE s 24).1 = [] := by
  obtain ⟨e, he, rfl⟩ := mem_some h
  exact List.isEmpty_iff.1 (List.all_eq_true.1 exp_ends e he)
theorem iter_done {s : ByteArray} {k : Nat} (h : (iterE s k).1 = []) : ∀ m, iterE s (k + m) = iterE s k
  | 0 => rfl
  | m + 1 => by
    show stepE (iterE s (k + m)) = _
    rw [iter_done h m]
    cases hp : iterE s k with
    | mk a b => rw [hp] at h; cases h; rfl
theorem putTo_le1 (l : List ByteArray) (s : ByteArray) : ∀ k, (putTo l s k).2.length ≤ k + 1 ∧ ((putTo l s k).1 = false → (putTo l s k).2.length ≤ k)
  | 0 => ⟨by simp [putTo], fun _ => by simp [putTo]⟩
  | k + 1 => by
    obtain ⟨h1, h2⟩ := putTo_le1 l s k
    unfold putTo
    simp only
    split
    · rename_i hh
      have := h2 hh.1
      refine ⟨?_, fun h => by cases h⟩
      split <;> simp only [List.length_append, List.length_cons, List.length_nil] <;> omega
    · refine ⟨by simp only [List.length_append, List.length_cons, List.length_nil]; omega, fun h => ?_⟩
      have := h2 h
      simp only [List.length_append, List.length_cons, List.length_nil]; omega
theorem putR_le (l : List ByteArray) (s : ByteArray) : (putR l s).length ≤ l.length + 1 := by
  obtain ⟨h1, h2⟩ := putTo_le1 l s l.length
  unfold putR
  split
  · exact h1
  · rename_i hh
    rw [List.length_append]
    exact Nat.succ_le_succ (h2 (by simpa using hh))
def szE (p : List ByteArray × List ByteArray) : Nat := p.1.length + p.2.length
theorem in_le (p : List ByteArray × List ByteArray) (t : ByteArray) : szE (inE p t) ≤ szE p + 1 := by
  unfold inE szE
  split
  · have := putR_le p.2 t; show p.1.length + (putR p.2 t).length ≤ _; omega
  · show (p.1 ++ [t]).length + p.2.length ≤ _; rw [List.length_append, List.length_singleton]; omega
theorem ins_le : ∀ (l : List ByteArray) (p), szE (l.foldl inE p) ≤ szE p + l.length
  | [], p => Nat.le_refl _
  | t :: r, p => by
    have h1 := ins_le r (inE p t)
    have h2 := in_le p t
    rw [List.foldl_cons, List.length_cons]; omega
theorem mem_le (s : ByteArray) : (memR s).length ≤ 8 := by
  rcases mem_from grpT s with h | ⟨e, he, h⟩
  · rw [show memR s = [] from h]; exact Nat.zero_le _
  · rw [show memR s = e.2 from h]
    exact of_decide_eq_true (List.all_eq_true.1 (show (grpT.all fun e => decide (e.2.length ≤ 8)) = true by kernel_rfl) e he)
theorem iter_le (s : ByteArray) : ∀ k, szE (iterE s k) ≤ 1 + 8 * k
  | 0 => Nat.le_refl _
  | k + 1 => by
    have ih := iter_le s k
    show szE (stepE (iterE s k)) ≤ _
    cases hp : iterE s k with
    | mk a b =>
      rw [hp] at ih
      cases a with
      | nil => show szE ([], b) ≤ _; unfold szE at ih ⊢; simp only at ih ⊢; omega
      | cons x r =>
        have h1 := ins_le (memR x) (r, b)
        have h2 := mem_le x
        show szE ((memR x).foldl inE (r, b)) ≤ _
        unfold szE at ih h1 ⊢
        simp only [List.length_cons] at ih h1 ⊢
        omega
/-- A round as far as so many names. -/
def midE (r o M : List ByteArray) (k : Nat) : List ByteArray × List ByteArray := (M.take k).foldl inE (r, o)
theorem mid_step {r o M : List ByteArray} {k : Nat} {t : ByteArray} (h : M[k]? = some t) : midE r o M (k + 1) = inE (midE r o M k) t := by
  unfold midE
  rw [List.take_add_one, h, List.foldl_append]; rfl
theorem mid_le (r o M : List ByteArray) (k : Nat) (hM : M.length ≤ 8) : szE (midE r o M k) ≤ r.length + o.length + 8 := by
  have := ins_le (M.take k) (r, o)
  rw [List.length_take] at this
  unfold midE
  unfold szE at this ⊢
  simp only at this
  omega
end Go.Proofs.YtanifiobfbfehaaGreatDoor
