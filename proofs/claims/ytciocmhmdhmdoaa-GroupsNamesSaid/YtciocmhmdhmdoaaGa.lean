/- The table of the groups as the document's own code lays it: each group's names in memory of their own; what a group names. No condition. -/
import Derived.Test.YtciocmhmdhmdoaaFr
import Derived.Deep.AppendLies
import Derived.Deep.DrawnRows
import Derived.RegionTactic
import Derived.BigRegion
import Derived.Deep.DeepCutAuto
namespace Go.Proofs.Ytciocmhmdhmdoaa
open Go.RowKit
set_option linter.unusedVariables false
attribute [local go_sem ↓] Go.wp_at_zero Go.wp_at_succ

/-- A group: its name, what it names. -/
abbrev Gp := ByteArray × List ByteArray
def grpT : List Gp := [(⟨#[64, 98, 97, 115, 105, 99, 45, 105, 111]⟩, [⟨#[114, 101, 97, 100]⟩, ⟨#[119, 114, 105, 116, 101]⟩, ⟨#[99, 108, 111, 115, 101]⟩]), (⟨#[64, 99, 108, 111, 99, 107]⟩, [⟨#[99, 108, 111, 99, 107, 95, 115, 101, 116, 116, 105, 109, 101]⟩, ⟨#[115, 101, 116, 116, 105, 109, 101, 111, 102, 100, 97, 121]⟩]), (⟨#[64, 100, 101, 98, 117, 103]⟩, [⟨#[112, 116, 114, 97, 99, 101]⟩, ⟨#[112, 101, 114, 115, 111, 110, 97, 108, 105, 116, 121]⟩]), (⟨#[64, 102, 105, 108, 101]⟩, [⟨#[64, 98, 97, 115, 105, 99, 45, 105, 111]⟩, ⟨#[111, 112, 101, 110]⟩, ⟨#[111, 112, 101, 110, 97, 116]⟩, ⟨#[105, 111, 99, 116, 108]⟩]), (⟨#[64, 109, 101, 109, 111, 114, 121]⟩, [⟨#[98, 114, 107]⟩, ⟨#[109, 109, 97, 112]⟩, ⟨#[109, 112, 114, 111, 116, 101, 99, 116]⟩, ⟨#[109, 117, 110, 109, 97, 112]⟩, ⟨#[112, 107, 101, 121, 95, 109, 112, 114, 111, 116, 101, 99, 116]⟩, ⟨#[115, 104, 109, 97, 116]⟩]), (⟨#[64, 109, 111, 100, 117, 108, 101]⟩, [⟨#[100, 101, 108, 101, 116, 101, 95, 109, 111, 100, 117, 108, 101]⟩, ⟨#[102, 105, 110, 105, 116, 95, 109, 111, 100, 117, 108, 101]⟩, ⟨#[105, 110, 105, 116, 95, 109, 111, 100, 117, 108, 101]⟩]), (⟨#[64, 109, 111, 117, 110, 116]⟩, [⟨#[109, 111, 117, 110, 116]⟩, ⟨#[117, 109, 111, 117, 110, 116, 50]⟩]), (⟨#[64, 110, 101, 115, 116]⟩, [⟨#[64, 110, 101, 115, 116, 45, 50]⟩, ⟨#[107, 105, 108, 108]⟩]), (⟨#[64, 110, 101, 115, 116, 45, 50]⟩, [⟨#[64, 110, 101, 115, 116, 45, 51]⟩, ⟨#[103, 101, 116, 117, 105, 100]⟩]), (⟨#[64, 110, 101, 115, 116, 45, 51]⟩, [⟨#[64, 110, 101, 115, 116, 45, 52]⟩, ⟨#[115, 101, 116, 117, 105, 100]⟩]), (⟨#[64, 110, 101, 115, 116, 45, 52]⟩, [⟨#[64, 110, 101, 115, 116, 45, 53]⟩, ⟨#[101, 120, 105, 116]⟩]), (⟨#[64, 110, 101, 115, 116, 45, 53]⟩, [⟨#[114, 101, 97, 100]⟩]), (⟨#[64, 110, 101, 116, 119, 111, 114, 107]⟩, [⟨#[98, 105, 110, 100]⟩, ⟨#[99, 111, 110, 110, 101, 99, 116]⟩, ⟨#[108, 105, 115, 116, 101, 110]⟩, ⟨#[115, 111, 99, 107, 101, 116]⟩]), (⟨#[64, 112, 114, 105, 118, 105, 108, 101, 103, 101, 100]⟩, [⟨#[64, 99, 108, 111, 99, 107]⟩, ⟨#[64, 109, 111, 100, 117, 108, 101]⟩, ⟨#[64, 109, 111, 117, 110, 116]⟩, ⟨#[64, 114, 101, 98, 111, 111, 116]⟩, ⟨#[98, 112, 102]⟩, ⟨#[115, 101, 116, 117, 105, 100]⟩]), (⟨#[64, 112, 114, 111, 99, 101, 115, 115]⟩, [⟨#[99, 108, 111, 110, 101]⟩, ⟨#[99, 108, 111, 110, 101, 51]⟩, ⟨#[101, 120, 101, 99, 118, 101]⟩, ⟨#[101, 120, 105, 116]⟩, ⟨#[102, 111, 114, 107]⟩, ⟨#[107, 105, 108, 108]⟩, ⟨#[115, 101, 116, 110, 115]⟩, ⟨#[117, 110, 115, 104, 97, 114, 101]⟩]), (⟨#[64, 114, 101, 98, 111, 111, 116]⟩, [⟨#[114, 101, 98, 111, 111, 116]⟩]), (⟨#[64, 114, 101, 115, 111, 117, 114, 99, 101, 115]⟩, [⟨#[115, 99, 104, 101, 100, 95, 115, 101, 116, 97, 116, 116, 114]⟩, ⟨#[115, 99, 104, 101, 100, 95, 115, 101, 116, 115, 99, 104, 101, 100, 117, 108, 101, 114]⟩]), (⟨#[64, 115, 121, 115, 116, 101, 109]⟩, [⟨#[64, 102, 105, 108, 101]⟩, ⟨#[64, 109, 101, 109, 111, 114, 121]⟩, ⟨#[64, 110, 101, 116, 119, 111, 114, 107]⟩, ⟨#[64, 112, 114, 111, 99, 101, 115, 115]⟩, ⟨#[103, 101, 116, 117, 105, 100]⟩])]
def gD : Gp := (⟨#[]⟩, [])
def gN (j : Nat) : ByteArray := (grpT.getD j gD).1
def gL (j : Nat) : List ByteArray := (grpT.getD j gD).2
def gRow (j : Nat) : Array Value := ((gL j).map Value.string).toArray
/-- So many groups' lists lie in memory, one behind the other. -/
structure PG (w : World) (k : Nat) (W : World) : Prop where
  size : W.heap.size = w.heap.size + k
  below : Below w.heap.size w W
  rows : ∀ j, j < k → ∀ i s, (gL j)[i]? = some s → W.cell? ⟨w.heap.size + j, i, none⟩ = some (.string s)
theorem PG.zero (w : World) : PG w 0 w := ⟨rfl, Below.refl _ _, fun j hj => absurd hj (by omega)⟩
theorem PG.next {w W : World} {k : Nat} (h : PG w k W) (t : TypeId) : PG w (k + 1) (W.alloc (.cells (gRow k) t)) := by
  refine ⟨by rw [World.size_alloc, h.size]; omega, h.below.alloc h.below.size _, fun j hj i s hi => ?_⟩
  by_cases e : j = k
  · subst e
    rw [← h.size, cell_of_row _ _ i _ _ (0, 0) (heap_alloc_new W _)]
    unfold gRow
    rw [List.getElem?_toArray, List.getElem?_map, hi]; rfl
  · rw [World.cell?_alloc_lt W _ _ (by show w.heap.size + j < _; rw [h.size]; omega)]
    exact h.rows j (by omega) i s hi
theorem wpList_row {ops : Array Oper} {rest : List Oper} {op : Oper} {a : Act} {w W : World} {j n : Nat} {Q : Exit → Act → World → Prop} (hp : PG w j W) (hj : j < 18) (hn : n = (gL j).length) (hgd : op.guard = none)
    (hr : (execOp a.eval op).run Try.prog W = .ok (.value (.slice (some ⟨W.heap.size, 0, none⟩) n n)) (W.alloc (.cells (gRow j) 9)))
    (h : ∀ W', PG w (j + 1) W' → wpList Try.prog ops Q rest (a.put op.dst (.slice (some ⟨w.heap.size + j, 0, none⟩) n n)) W') : wpList Try.prog ops Q (op :: rest) a W :=
  wpList_plain hgd fun _ hK => by
    unfold Oper.wp; rw [hr, hp.size]; exact hK _ _ (h _ (hp.next _))
theorem wpList_bld {ops : Array Oper} {rest : List Oper} {op : Oper} {a : Act} {w W : World} {j n : Nat} {Q : Exit → Act → World → Prop} (hp : PG w (j + 1) W) (hgd : op.guard = none)
    (hr : (execOp a.eval op).run Try.prog W = .ok (.value (.agg #[.string (gN j), .slice (some ⟨w.heap.size + j, 0, none⟩) n n])) W)
    (h : wpList Try.prog ops Q rest (a.put op.dst (.agg #[.string (gN j), .slice (some ⟨w.heap.size + j, 0, none⟩) n n])) W) : wpList Try.prog ops Q (op :: rest) a W :=
  wpList_plain hgd fun _ hK => by
    unfold Oper.wp; rw [hr]; exact hK _ _ h
/-- The cells of the table, its groups' lists from a block on. -/
def gC (B : Nat) : Array Value := ((List.range 18).flatMap fun j => [Value.string (gN j), .slice (some ⟨B + j, 0, none⟩) (gL j).length (gL j).length]).toArray
theorem wpList_tab {ops : Array Oper} {rest : List Oper} {op : Oper} {a : Act} {w W : World} {Q : Exit → Act → World → Prop} (hp : PG w 18 W) (hgd : op.guard = none)
    (hr : (execOp a.eval op).run Try.prog W = .ok (.value (.slice (some ⟨W.heap.size, 0, none⟩) 18 18)) (W.alloc (.cells (gC w.heap.size) 37)))
    (h : wpList Try.prog ops Q rest (a.put op.dst (.slice (some ⟨w.heap.size + 18, 0, none⟩) 18 18)) (W.alloc (.cells (gC w.heap.size) 37))) : wpList Try.prog ops Q (op :: rest) a W :=
  wpList_plain hgd fun _ hK => by
    unfold Oper.wp; rw [hr, hp.size]; exact hK _ _ h
/-- The table lies in memory: where its groups' lists lie. -/
structure GrpAt (w : World) (g B : Nat) : Prop where
  name : ∀ j, j < 18 → w.cell? ⟨g, j * 2, none⟩ = some (.string (gN j))
  row : ∀ j, j < 18 → w.cell? ⟨g, j * 2 + 1, none⟩ = some (.slice (some ⟨B + j, 0, none⟩) (gL j).length (gL j).length)
  has : ∀ j, j < 18 → ∀ i s, (gL j)[i]? = some s → w.cell? ⟨B + j, i, none⟩ = some (.string s)
  lt : g < w.heap.size ∧ B + 18 ≤ w.heap.size
theorem GrpAt.on {w w' : World} {g B : Nat} (h : GrpAt w g B) (hb : Below w.heap.size w w') : GrpAt w' g B :=
  ⟨fun j hj => (hb.cell (p := ⟨g, j * 2, none⟩) h.lt.1).trans (h.name j hj), fun j hj => (hb.cell (p := ⟨g, j * 2 + 1, none⟩) h.lt.1).trans (h.row j hj),
    fun j hj i s hi => (hb.cell (p := ⟨B + j, i, none⟩) (show B + j < _ by have := h.lt.2; omega)).trans (h.has j hj i s hi), by have := hb.size; have := h.lt; omega⟩
theorem gC_get (B : Nat) : ∀ j, j < 18 → (gC B)[j * 2]? = some (.string (gN j)) ∧ (gC B)[j * 2 + 1]? = some (.slice (some ⟨B + j, 0, none⟩) (gL j).length (gL j).length) := by
  intro j hj
  match j, hj with
  | 0, _ => exact ⟨rfl, rfl⟩
  | 1, _ => exact ⟨rfl, rfl⟩
  | 2, _ => exact ⟨rfl, rfl⟩
  | 3, _ => exact ⟨rfl, rfl⟩
  | 4, _ => exact ⟨rfl, rfl⟩
  | 5, _ => exact ⟨rfl, rfl⟩
  | 6, _ => exact ⟨rfl, rfl⟩
  | 7, _ => exact ⟨rfl, rfl⟩
  | 8, _ => exact ⟨rfl, rfl⟩
  | 9, _ => exact ⟨rfl, rfl⟩
  | 10, _ => exact ⟨rfl, rfl⟩
  | 11, _ => exact ⟨rfl, rfl⟩
  | 12, _ => exact ⟨rfl, rfl⟩
  | 13, _ => exact ⟨rfl, rfl⟩
  | 14, _ => exact ⟨rfl, rfl⟩
  | 15, _ => exact ⟨rfl, rfl⟩
  | 16, _ => exact ⟨rfl, rfl⟩
  | 17, _ => exact ⟨rfl, rfl⟩
  | j + 18, hj => omega
theorem wpList_as {ops : Array Oper} {rest : List Oper} {op : Oper} {a : Act} {w : World} {Q : Exit → Act → World → Prop} (hgd : op.guard = none) (v : Value) (hr : (execOp a.eval op).run Try.prog w = .ok (.value v) w)
    (h : wpList Try.prog ops Q rest (a.put op.dst v) w) : wpList Try.prog ops Q (op :: rest) a w :=
  wpList_plain hgd fun _ hK => by unfold Oper.wp; rw [hr]; exact hK _ _ h
theorem grp_at {w W : World} (h : PG w 18 W) (t : TypeId) : GrpAt (W.alloc (.cells (gC w.heap.size) t)) (w.heap.size + 18) w.heap.size := by
  refine ⟨fun j hj => ?_, fun j hj => ?_, fun j hj i s hi => ?_, ?_⟩
  · rw [← h.size, cell_of_row _ _ _ _ _ (0, 0) (heap_alloc_new W _)]; exact (gC_get _ j hj).1
  · rw [← h.size, cell_of_row _ _ _ _ _ (0, 0) (heap_alloc_new W _)]; exact (gC_get _ j hj).2
  · rw [World.cell?_alloc_lt W _ _ (by show w.heap.size + j < _; rw [h.size]; omega)]; exact h.rows j hj i s hi
  · rw [World.size_alloc, h.size]; omega
set_option maxRecDepth 100000 in
set_option maxHeartbeats 32000000 in
theorem table_g (w : World) : Calls Try.prog 11 #[] w fun e w' => e = .returned (.slice (some ⟨w.heap.size + 18, 0, none⟩) 18 18) ∧ GrpAt w' (w.heap.size + 18) w.heap.size ∧ Below w.heap.size w w' := by
  have HP := PG.zero w
  go_enter Try.func11, Try.ntmps11
  go_upto_region 1 with fail
  refine wp_region_lit ?_
  refine wpList_row (n := 3) HP (by decide) (by decide) rfl (by kernel_rfl) ?_
  clear HP
  intro W0 HP
  refine wpList_bld HP (n := 3) rfl (by kernel_rfl) ?_
  refine wpList_row (n := 2) HP (by decide) (by decide) rfl (by kernel_rfl) ?_
  clear HP
  intro W1 HP
  refine wpList_bld HP (n := 2) rfl (by kernel_rfl) ?_
  refine wpList_row (n := 2) HP (by decide) (by decide) rfl (by kernel_rfl) ?_
  clear HP
  intro W2 HP
  refine wpList_bld HP (n := 2) rfl (by kernel_rfl) ?_
  refine wpList_row (n := 4) HP (by decide) (by decide) rfl (by kernel_rfl) ?_
  clear HP
  intro W3 HP
  refine wpList_bld HP (n := 4) rfl (by kernel_rfl) ?_
  refine wpList_row (n := 6) HP (by decide) (by decide) rfl (by kernel_rfl) ?_
  clear HP
  intro W4 HP
  refine wpList_bld HP (n := 6) rfl (by kernel_rfl) ?_
  refine wpList_row (n := 3) HP (by decide) (by decide) rfl (by kernel_rfl) ?_
  clear HP
  intro W5 HP
  refine wpList_bld HP (n := 3) rfl (by kernel_rfl) ?_
  refine wpList_row (n := 2) HP (by decide) (by decide) rfl (by kernel_rfl) ?_
  clear HP
  intro W6 HP
  refine wpList_bld HP (n := 2) rfl (by kernel_rfl) ?_
  refine wpList_row (n := 2) HP (by decide) (by decide) rfl (by kernel_rfl) ?_
  clear HP
  intro W7 HP
  refine wpList_bld HP (n := 2) rfl (by kernel_rfl) ?_
  refine wpList_row (n := 2) HP (by decide) (by decide) rfl (by kernel_rfl) ?_
  clear HP
  intro W8 HP
  refine wpList_bld HP (n := 2) rfl (by kernel_rfl) ?_
  refine wpList_row (n := 2) HP (by decide) (by decide) rfl (by kernel_rfl) ?_
  clear HP
  intro W9 HP
  refine wpList_bld HP (n := 2) rfl (by kernel_rfl) ?_
  refine wpList_row (n := 2) HP (by decide) (by decide) rfl (by kernel_rfl) ?_
  clear HP
  intro W10 HP
  refine wpList_bld HP (n := 2) rfl (by kernel_rfl) ?_
  refine wpList_row (n := 1) HP (by decide) (by decide) rfl (by kernel_rfl) ?_
  clear HP
  intro W11 HP
  refine wpList_bld HP (n := 1) rfl (by kernel_rfl) ?_
  refine wpList_row (n := 4) HP (by decide) (by decide) rfl (by kernel_rfl) ?_
  clear HP
  intro W12 HP
  refine wpList_bld HP (n := 4) rfl (by kernel_rfl) ?_
  refine wpList_row (n := 6) HP (by decide) (by decide) rfl (by kernel_rfl) ?_
  clear HP
  intro W13 HP
  refine wpList_bld HP (n := 6) rfl (by kernel_rfl) ?_
  refine wpList_row (n := 8) HP (by decide) (by decide) rfl (by kernel_rfl) ?_
  clear HP
  intro W14 HP
  refine wpList_bld HP (n := 8) rfl (by kernel_rfl) ?_
  refine wpList_row (n := 1) HP (by decide) (by decide) rfl (by kernel_rfl) ?_
  clear HP
  intro W15 HP
  refine wpList_bld HP (n := 1) rfl (by kernel_rfl) ?_
  refine wpList_row (n := 2) HP (by decide) (by decide) rfl (by kernel_rfl) ?_
  clear HP
  intro W16 HP
  refine wpList_bld HP (n := 2) rfl (by kernel_rfl) ?_
  refine wpList_row (n := 5) HP (by decide) (by decide) rfl (by kernel_rfl) ?_
  clear HP
  intro W17 HP
  refine wpList_bld HP (n := 5) rfl (by kernel_rfl) ?_
  refine wpList_tab HP rfl (by kernel_rfl) ?_
  refine wpList_as rfl (.slice (some ⟨w.heap.size + 18, 0, none⟩) 18 18) (by kernel_rfl) ?_
  rename_i K hK
  show K _ _
  refine hK _ _ ?_
  have hT : GrpAt (W17.alloc (.cells (gC w.heap.size) 37)) (w.heap.size + 18) w.heap.size := grp_at HP _
  have hB : Below w.heap.size w (W17.alloc (.cells (gC w.heap.size) 37)) := HP.below.alloc HP.below.size _
  generalize W17.alloc (.cells (gC w.heap.size) 37) = W at hT hB ⊢
  refine wp_ret ?_
  show bodyPost Try.prog Try.f11 (fun e w' => e = .returned (.slice (some ⟨w.heap.size + 18, 0, none⟩) 18 18) ∧ GrpAt w' (w.heap.size + 18) w.heap.size ∧ Below w.heap.size w w') .ret _ W
  exact bodyPost_ret (v := .slice (some ⟨w.heap.size + 18, 0, none⟩) 18 18) (by kernel_rfl) (by kernel_rfl) ⟨rfl, hT, hB⟩
end Go.Proofs.Ytciocmhmdhmdoaa
