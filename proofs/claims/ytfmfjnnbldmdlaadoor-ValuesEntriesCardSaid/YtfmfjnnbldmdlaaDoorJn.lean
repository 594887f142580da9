/- What the calls of the landed names return that ask a table alone, of a world in which the tables lie as the text lays them: as the chapter says. -/
import Derived.Test.YtfmfjnnbldmdlaaDoorJm
import Derived.Test.YtfmfjnnbldmdlaaDoorJd
import Derived.Test.YtfmfjnnbldmdlaaDoorLz
import Derived.Deep.MidRow
import Derived.Deep.QuietTactic
import Derived.BigQuiet
import Derived.Laws.BitsAllLaws
import Derived.WalkSmall
import Derived.Lib.AppendIntMem
namespace Go.Proofs.YtfmfjnnbldmdlaaDoor
open Go.RowKit
set_option linter.unusedVariables false
set_option linter.unusedSimpArgs false
attribute [local go_sem ↓] Go.wp_at_zero Go.wp_at_succ

/-- A table's cells. -/
def cellsT (kd : IntKind) (l : List En10) : List Value := l.flatMap fun e => [.string e.1, .int kd (e.2 : Nat)]
theorem cellsT_get {kd : IntKind} : ∀ {l : List En10} {k : Nat} {e : En10}, l[k]? = some e → (cellsT kd l)[k * 2]? = some (.string e.1) ∧ (cellsT kd l)[k * 2 + 1]? = some (.int kd (e.2 : Nat))
  | [], k, e, h => by simp at h
  | x :: r, 0, e, h => by injection h with h; subst h; exact ⟨rfl, rfl⟩
  | x :: r, k + 1, e, h => by
    have := cellsT_get (kd := kd) (l := r) (k := k) (e := e) (by simpa using h)
    have e1 : cellsT kd (x :: r) = .string x.1 :: .int kd (x.2 : Nat) :: cellsT kd r := rfl
    rw [e1, show (k + 1) * 2 = k * 2 + 1 + 1 by omega]
    exact this
theorem cellsT_one {kd : IntKind} : ∀ {l : List En10}, ∀ v ∈ cellsT kd l, v.oneCell' = true := by
  intro l v hv
  obtain ⟨e, _, h⟩ := List.mem_flatMap.1 hv
  simp only [List.mem_cons, List.not_mem_nil, or_false] at h
  rcases h with rfl | rfl <;> rfl
theorem below_setCellsN {w0 : World} {b : Nat} (hb : w0.heap.size ≤ b) : ∀ (vs : List Value) (o : Nat) (w : World), Below w0.heap.size w0 w → Below w0.heap.size w0 (w.setCells b o vs)
  | [], o, w, h => h
  | v :: vs, o, w, h => below_setCellsN hb vs (o + 1) (w.setCell ⟨b, o, none⟩ v) (h.setCell hb v)
/-- What lies in memory: the tables, the library's table of powers of ten, its two errors. -/
structure GN (w : World) : Prop where
  errs : LaidAt w 1 (cellsT .u32 errnoT)
  pow : Lib.TabIs Tryd.prog w "internal/strconv.uint64pow10" .u64 Lib.pow10Tab
  syn : ∃ t p, w.cell? ⟨6, 0, none⟩ = some (.iface t p)
  rng : ∃ t p, w.cell? ⟨7, 0, none⟩ = some (.iface t p)
theorem tab_onN {w w' : World} (h : Lib.TabIs Tryd.prog w "internal/strconv.uint64pow10" .u64 Lib.pow10Tab) (b : Below w.heap.size w w') : Lib.TabIs Tryd.prog w' "internal/strconv.uint64pow10" .u64 Lib.pow10Tab := by
  unfold Lib.TabIs World.var? at *
  cases hg : Program.globalNamed Tryd.prog "internal/strconv.uint64pow10" with
  | none => simp [hg] at h
  | some g =>
    simp only [hg, Option.bind_some] at h ⊢
    have hlt : g < w.heap.size := by
      rcases Nat.lt_or_ge g w.heap.size with h' | h'
      · exact h'
      · rw [Array.getElem?_eq_none h'] at h; simp at h
    rw [b.block g hlt]
    exact h
theorem GN.on {w w' : World} (h : GN w) (b : Below w.heap.size w w') : GN w' := by
  obtain ⟨t0, p0, h0⟩ := h.syn
  obtain ⟨t1, p1, h1⟩ := h.rng
  exact ⟨h.errs.on (by decide) b, tab_onN h.pow b, ⟨t0, p0, (b.cell (World.block_lt_of_cell? w _ h0)).trans h0⟩, ⟨t1, p1, (b.cell (World.block_lt_of_cell? w _ h1)).trans h1⟩⟩
theorem rows32_of {w : World} {b : Nat} {l : List En10} (h : w.rangeAt b 0 (cellsT .u32 l)) : Rows_u32 w b l := fun k e hk => by
  obtain ⟨h1, h2⟩ := cellsT_get (kd := .u32) hk
  have a1 := h _ _ h1
  have a2 := h _ _ h2
  rw [Nat.zero_add] at a1 a2
  exact ⟨a1, a2⟩
theorem rows64_of {w : World} {b : Nat} {l : List En10} (h : w.rangeAt b 0 (cellsT .u64 l)) : Rows_u64 w b l := fun k e hk => by
  obtain ⟨h1, h2⟩ := cellsT_get (kd := .u64) hk
  have a1 := h _ _ h1
  have a2 := h _ _ h2
  rw [Nat.zero_add] at a1 a2
  exact ⟨a1, a2⟩
theorem range_errs {w : World} (h : GN w) : w.rangeAt 1 0 (cellsT .u32 errnoT) := fun j v hv => by rw [Nat.zero_add]; exact h.errs j v hv
def zeroT_errs : Array Value := ((List.range 15).flatMap fun _ => [.string ⟨#[]⟩, .int .u32 0]).toArray
theorem info_errs : (Tryd.prog.info? 61).map (·.size) = some (cellsT .u32 errnoT).length := by kernel_rfl
theorem infa_errs : (Tryd.prog.info? 61).map (·.size) = some (cellsT .u32 errnoT).toArray.size := by kernel_rfl
theorem one_errs : (cellsT .u32 errnoT).toArray.all (·.oneCell') = true := all_oneCell_toArray cellsT_one
theorem there_errs (W : World) : (W.alloc (.cells zeroT_errs 61)).there W.heap.size 0 (cellsT .u32 errnoT).toArray.size := fun j hj => by
  have h : zeroT_errs.size = (cellsT .u32 errnoT).toArray.size := by kernel_rfl
  refine ⟨?_, frozen_of_row _ _ _ _ _ (heap_alloc_new W _)⟩
  rw [cell_of_row _ _ (0 + j) _ _ (0, 0) (heap_alloc_new W _), Nat.zero_add, Array.getElem?_eq_getElem (by omega)]; rfl
theorem copy_errs (W : World) : Rows_u32 ((W.alloc (.cells zeroT_errs 61)).setCells W.heap.size 0 (cellsT .u32 errnoT).toArray.toList) W.heap.size errnoT ∧ Below W.heap.size W ((W.alloc (.cells zeroT_errs 61)).setCells W.heap.size 0 (cellsT .u32 errnoT).toArray.toList) :=
  ⟨rows32_of (World.rangeAt_setCells_same _ W.heap.size 0 _ (there_errs W)), below_setCellsN (Nat.le_refl _) _ _ _ ((Below.refl _ _).alloc (Nat.le_refl _) _)⟩
theorem wpList_new_errs {ops : Array Oper} {rest : List Oper} {op : Oper} {a : Act} {w : World} {Q : Exit → Act → World → Prop} (hgd : op.guard = none) (ho : op.op = .alloc 61)
    (h : wpList Tryd.prog ops Q rest (a.put op.dst (.pointer (some ⟨w.heap.size, 0, none⟩))) (w.alloc (.cells zeroT_errs 61))) : wpList Tryd.prog ops Q (op :: rest) a w :=
  wpList_plain hgd fun _ hK => by
    have hr : (execOp a.eval op).run Tryd.prog w = .ok (.value (.pointer (some ⟨w.heap.size, 0, none⟩))) (w.alloc (.cells zeroT_errs 61)) := by
      unfold execOp; rw [ho]; kernel_rfl
    unfold Oper.wp; rw [hr]; exact hK _ _ h
def zeroT_fams : Array Value := ((List.range 8).flatMap fun _ => [.string ⟨#[]⟩, .int .u32 0]).toArray
theorem one_fams : (cellsT .u32 famT).toArray.all (·.oneCell') = true := all_oneCell_toArray cellsT_one
def zeroT_spcs : Array Value := ((List.range 8).flatMap fun _ => [.string ⟨#[]⟩, .int .u64 0]).toArray
theorem one_spcs : (cellsT .u64 spcT).toArray.all (·.oneCell') = true := all_oneCell_toArray cellsT_one
end Go.Proofs.YtfmfjnnbldmdlaaDoor
