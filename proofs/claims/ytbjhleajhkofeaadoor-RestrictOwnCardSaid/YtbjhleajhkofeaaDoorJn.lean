/- What the calls of the landed names return that ask a table alone, of a world in which the tables lie as the text lays them: as the chapter says. -/
import Derived.Test.YtbjhleajhkofeaaDoorJm
import Derived.Test.YtbjhleajhkofeaaDoorJa
import Derived.Test.YtbjhleajhkofeaaDoorLz
import Derived.Deep.MidRow
import Derived.Deep.QuietTactic
import Derived.BigQuiet
import Derived.Laws.BitsAllLaws
import Derived.WalkSmall
import Derived.Lib.AppendIntMem
namespace Go.Proofs.YtbjhleajhkofeaaDoor
open Go.RowKit
set_option linter.unusedVariables false
set_option linter.unusedSimpArgs false
attribute [local go_sem ↓] Go.wp_at_zero Go.wp_at_succ

/-- A table's cells. -/
def cellsT (kd : IntKind) (l : List En10) : List Value := l.flatMap fun e => [.string e.1, .int kd (e.2 : Nat)]
theorem cellsT_get {kd : IntKind} : ∀ {l : List En10} {k : Nat} {e : En10}, l[k]? = some e → (cellsT kd l)[k * 2]? = some (.string e.1) ∧ (cellsT kd l)[k * 2 + 1]? = some (.int kd (e.2 : Nat))
  | [], k, e, h => by simp at h
  | x :: r, 0, e, h => by injection h with h; subst h; exact ⟨rfl, rfl⟩
  | x :: r, k + 1, e, h => by
    have := cellsT_get (kd := kd) (l := r) (k := k) (e := e) (by simpa using h)
    have e1 : cellsT kd (x :: r) = .string x.1 :: .int kd (x.2 : Nat) :: cellsT kd r := rfl
    rw [e1, show (k + 1) * 2 = k * 2 + 1 + 1 by omega]
    exact this
theorem cellsT_one {kd : IntKind} : ∀ {l : List En10}, ∀ v ∈ cellsT kd l, v.oneCell' = true := by
  intro l v hv
  obtain ⟨e, _, h⟩ := List.mem_flatMap.1 hv
  simp only [List.mem_cons, List.not_mem_nil, or_false] at h
  rcases h with rfl | rfl <;> rfl
theorem below_setCellsN {w0 : World} {b : Nat} (hb : w0.heap.size ≤ b) : ∀ (vs : List Value) (o : Nat) (w : World), Below w0.heap.size w0 w → Below w0.heap.size w0 (w.setCells b o vs)
  | [], o, w, h => h
  | v :: vs, o, w, h => below_setCellsN hb vs (o + 1) (w.setCell ⟨b, o, none⟩ v) (h.setCell hb v)
/-- What lies in memory: the tables, the library's table of powers of ten, its two errors. -/
structure GN (w : World) : Prop where
  fams : LaidAt w 2 (cellsT .u32 famT)
  spcs : LaidAt w 1 (cellsT .u64 spcT)
theorem GN.on {w w' : World} (h : GN w) (b : Below w.heap.size w w') : GN w' := ⟨h.fams.on (by decide) b, h.spcs.on (by decide) b⟩
theorem rows32_of {w : World} {b : Nat} {l : List En10} (h : w.rangeAt b 0 (cellsT .u32 l)) : Rows_u32 w b l := fun k e hk => by
  obtain ⟨h1, h2⟩ := cellsT_get (kd := .u32) hk
  have a1 := h _ _ h1
  have a2 := h _ _ h2
  rw [Nat.zero_add] at a1 a2
  exact ⟨a1, a2⟩
theorem rows64_of {w : World} {b : Nat} {l : List En10} (h : w.rangeAt b 0 (cellsT .u64 l)) : Rows_u64 w b l := fun k e hk => by
  obtain ⟨h1, h2⟩ := cellsT_get (kd := .u64) hk
  have a1 := h _ _ h1
  have a2 := h _ _ h2
  rw [Nat.zero_add] at a1 a2
  exact ⟨a1, a2⟩
theorem range_fams {w : World} (h : GN w) : w.rangeAt 2 0 (cellsT .u32 famT) := fun j v hv => by rw [Nat.zero_add]; exact h.fams j v hv
def zeroT_fams : Array Value := ((List.range 8).flatMap fun _ => [.string ⟨#[]⟩, .int .u32 0]).toArray
theorem info_fams : (Tryd.prog.info? 76).map (·.size) = some (cellsT .u32 famT).length := by kernel_rfl
theorem infa_fams : (Tryd.prog.info? 76).map (·.size) = some (cellsT .u32 famT).toArray.size := by kernel_rfl
theorem one_fams : (cellsT .u32 famT).toArray.all (·.oneCell') = true := all_oneCell_toArray cellsT_one
theorem there_fams (W : World) : (W.alloc (.cells zeroT_fams 76)).there W.heap.size 0 (cellsT .u32 famT).toArray.size := fun j hj => by
  have h : zeroT_fams.size = (cellsT .u32 famT).toArray.size := by kernel_rfl
  refine ⟨?_, frozen_of_row _ _ _ _ _ (heap_alloc_new W _)⟩
  rw [cell_of_row _ _ (0 + j) _ _ (0, 0) (heap_alloc_new W _), Nat.zero_add, Array.getElem?_eq_getElem (by omega)]; rfl
theorem copy_fams (W : World) : Rows_u32 ((W.alloc (.cells zeroT_fams 76)).setCells W.heap.size 0 (cellsT .u32 famT).toArray.toList) W.heap.size famT ∧ Below W.heap.size W ((W.alloc (.cells zeroT_fams 76)).setCells W.heap.size 0 (cellsT .u32 famT).toArray.toList) :=
  ⟨rows32_of (World.rangeAt_setCells_same _ W.heap.size 0 _ (there_fams W)), below_setCellsN (Nat.le_refl _) _ _ _ ((Below.refl _ _).alloc (Nat.le_refl _) _)⟩
theorem wpList_new_fams {ops : Array Oper} {rest : List Oper} {op : Oper} {a : Act} {w : World} {Q : Exit → Act → World → Prop} (hgd : op.guard = none) (ho : op.op = .alloc 76)
    (h : wpList Tryd.prog ops Q rest (a.put op.dst (.pointer (some ⟨w.heap.size, 0, none⟩))) (w.alloc (.cells zeroT_fams 76))) : wpList Tryd.prog ops Q (op :: rest) a w :=
  wpList_plain hgd fun _ hK => by
    have hr : (execOp a.eval op).run Tryd.prog w = .ok (.value (.pointer (some ⟨w.heap.size, 0, none⟩))) (w.alloc (.cells zeroT_fams 76)) := by
      unfold execOp; rw [ho]; kernel_rfl
    unfold Oper.wp; rw [hr]; exact hK _ _ h
theorem range_spcs {w : World} (h : GN w) : w.rangeAt 1 0 (cellsT .u64 spcT) := fun j v hv => by rw [Nat.zero_add]; exact h.spcs j v hv
def zeroT_spcs : Array Value := ((List.range 8).flatMap fun _ => [.string ⟨#[]⟩, .int .u64 0]).toArray
theorem info_spcs : (Tryd.prog.info? 73).map (·.size) = some (cellsT .u64 spcT).length := by kernel_rfl
theorem infa_spcs : (Tryd.prog.info? 73).map (·.size) = some (cellsT .u64 spcT).toArray.size := by kernel_rfl
theorem one_spcs : (cellsT .u64 spcT).toArray.all (·.oneCell') = true := all_oneCell_toArray cellsT_one
theorem there_spcs (W : World) : (W.alloc (.cells zeroT_spcs 73)).there W.heap.size 0 (cellsT .u64 spcT).toArray.size := fun j hj => by
  have h : zeroT_spcs.size = (cellsT .u64 spcT).toArray.size := by kernel_rfl
  refine ⟨?_, frozen_of_row _ _ _ _ _ (heap_alloc_new W _)⟩
  rw [cell_of_row _ _ (0 + j) _ _ (0, 0) (heap_alloc_new W _), Nat.zero_add, Array.getElem?_eq_getElem (by omega)]; rfl
theorem copy_spcs (W : World) : Rows_u64 ((W.alloc (.cells zeroT_spcs 73)).setCells W.heap.size 0 (cellsT .u64 spcT).toArray.toList) W.heap.size spcT ∧ Below W.heap.size W ((W.alloc (.cells zeroT_spcs 73)).setCells W.heap.size 0 (cellsT .u64 spcT).toArray.toList) :=
  ⟨rows64_of (World.rangeAt_setCells_same _ W.heap.size 0 _ (there_spcs W)), below_setCellsN (Nat.le_refl _) _ _ _ ((Below.refl _ _).alloc (Nat.le_refl _) _)⟩
theorem wpList_new_spcs {ops : Array Oper} {rest : List Oper} {op : Oper} {a : Act} {w : World} {Q : Exit → Act → World → Prop} (hgd : op.guard = none) (ho : op.op = .alloc 73)
    (h : wpList Tryd.prog ops Q rest (a.put op.dst (.pointer (some ⟨w.heap.size, 0, none⟩))) (w.alloc (.cells zeroT_spcs 73))) : wpList Tryd.prog ops Q (op :: rest) a w :=
  wpList_plain hgd fun _ hK => by
    have hr : (execOp a.eval op).run Tryd.prog w = .ok (.value (.pointer (some ⟨w.heap.size, 0, none⟩))) (w.alloc (.cells zeroT_spcs 73)) := by
      unfold execOp; rw [ho]; kernel_rfl
    unfold Oper.wp; rw [hr]; exact hK _ _ h
set_option maxHeartbeats 1600000 in
theorem familyN (s : ByteArray) (w : World) (hG : GN w) : Calls Tryd.prog 59 #[.string s] w fun e w' =>
    e = .returned (.tuple #[.int .u32 ((findR famT s).getD 0 : Nat), .int .i64 (if (findR famT s).isSome = true then 0 else 180)]) ∧ Below w.heap.size w w' := by
  have HF := Lib.hid (fun (W : World) (h : Rows_u32 W w.heap.size famT) => numOf_u32 famT w.heap.size s 180 W (by decide) h)
  rw [show famT.length = 8 from rfl] at HF
  obtain ⟨x, hx⟩ : ∃ x, x = (findR famT s).getD 0 := ⟨_, rfl⟩
  obtain ⟨y, hy⟩ : ∃ y : Int, y = if (findR famT s).isSome = true then 0 else 180 := ⟨_, rfl⟩
  rw [← hx, ← hy] at HF ⊢
  have GX := Lib.hid hG
  have HI_fams := Lib.hid info_fams
  have HJ_fams := Lib.hid infa_fams
  clear hx hy hG
  go_enter Tryd.func59, Tryd.ntmps59
  go_wp2_with (first
    | ((with_reducible show wpList _ _ _ (⟨some 5, .load 76 _, _, _, _, _⟩ :: _) _ _)
       refine wpList_load_mid rfl 76 (.global 2) rfl 2 0 rfl (cellsT .u32 famT) _ (range_fams GX.out) Tryd.underlying76 rfl HI_fams.out ?_)
    | ((with_reducible show wpList _ _ _ (⟨some 4, .alloc 76, _, _, _, _⟩ :: _) _ _)
       refine wpList_new_fams rfl rfl ?_)
    | ((with_reducible show wpList _ _ _ (⟨none, .store 76 (.tmp 4) (.tmp 5), _, _, _, _⟩ :: _) _ _)
       refine wpList_store_mid rfl 76 (.tmp 4) (.tmp 5) rfl w.heap.size 0 (cellsT .u32 famT).toArray rfl rfl (there_fams w) HJ_fams.out (one_fams) ?_
       obtain ⟨rV, bV⟩ := copy_fams w
       generalize (w.alloc (.cells (zeroT_fams) 76)).setCells w.heap.size 0 (cellsT .u32 famT).toArray.toList = V at rV bV ⊢)
    | (go_at_call 74; ((with_reducible refine (HF.out _ rV).mono ?_); rintro e w2 ⟨rfl, b2⟩)))
  go_ret2
  exact ⟨rfl, thnJ bV b2⟩
set_option maxHeartbeats 1600000 in
theorem spaceN (s : ByteArray) (w : World) (hG : GN w) : Calls Tryd.prog 60 #[.string s] w fun e w' =>
    e = .returned (.tuple #[.int .u64 ((findR spcT s).getD 0 : Nat), .int .i64 (if (findR spcT s).isSome = true then 0 else 181)]) ∧ Below w.heap.size w w' := by
  have HF := Lib.hid (fun (W : World) (h : Rows_u64 W w.heap.size spcT) => numOf_u64 spcT w.heap.size s 181 W (by decide) h)
  rw [show spcT.length = 8 from rfl] at HF
  obtain ⟨x, hx⟩ : ∃ x, x = (findR spcT s).getD 0 := ⟨_, rfl⟩
  obtain ⟨y, hy⟩ : ∃ y : Int, y = if (findR spcT s).isSome = true then 0 else 181 := ⟨_, rfl⟩
  rw [← hx, ← hy] at HF ⊢
  have GX := Lib.hid hG
  have HI_spcs := Lib.hid info_spcs
  have HJ_spcs := Lib.hid infa_spcs
  clear hx hy hG
  go_enter Tryd.func60, Tryd.ntmps60
  go_wp2_with (first
    | ((with_reducible show wpList _ _ _ (⟨some 5, .load 73 _, _, _, _, _⟩ :: _) _ _)
       refine wpList_load_mid rfl 73 (.global 1) rfl 1 0 rfl (cellsT .u64 spcT) _ (range_spcs GX.out) Tryd.underlying73 rfl HI_spcs.out ?_)
    | ((with_reducible show wpList _ _ _ (⟨some 4, .alloc 73, _, _, _, _⟩ :: _) _ _)
       refine wpList_new_spcs rfl rfl ?_)
    | ((with_reducible show wpList _ _ _ (⟨none, .store 73 (.tmp 4) (.tmp 5), _, _, _, _⟩ :: _) _ _)
       refine wpList_store_mid rfl 73 (.tmp 4) (.tmp 5) rfl w.heap.size 0 (cellsT .u64 spcT).toArray rfl rfl (there_spcs w) HJ_spcs.out (one_spcs) ?_
       obtain ⟨rV, bV⟩ := copy_spcs w
       generalize (w.alloc (.cells (zeroT_spcs) 73)).setCells w.heap.size 0 (cellsT .u64 spcT).toArray.toList = V at rV bV ⊢)
    | (go_at_call 75; ((with_reducible refine (HF.out _ rV).mono ?_); rintro e w2 ⟨rfl, b2⟩)))
  go_ret2
  exact ⟨rfl, thnJ bV b2⟩
set_option maxHeartbeats 1600000 in
theorem familyNameN (n : Nat) (w : World) (hG : GN w) : Calls Tryd.prog 20 #[.int .u32 n] w fun e w' =>
    e = .returned (.string ((nameR famT n).getD ⟨#[]⟩)) ∧ Below w.heap.size w w' := by
  have HF := Lib.hid (fun (W : World) (h : Rows_u32 W w.heap.size famT) => namOf_u32 famT w.heap.size n W (by decide) h)
  rw [show famT.length = 8 from rfl] at HF
  obtain ⟨x, hx⟩ : ∃ x, x = (nameR famT n).getD ⟨#[]⟩ := ⟨_, rfl⟩
  rw [← hx] at HF ⊢
  have GX := Lib.hid hG
  have HI_fams := Lib.hid info_fams
  have HJ_fams := Lib.hid infa_fams
  clear hx hG
  go_enter Tryd.func20, Tryd.ntmps20
  go_wp2_with (first
    | ((with_reducible show wpList _ _ _ (⟨some 4, .load 76 _, _, _, _, _⟩ :: _) _ _)
       refine wpList_load_mid rfl 76 (.global 2) rfl 2 0 rfl (cellsT .u32 famT) _ (range_fams GX.out) Tryd.underlying76 rfl HI_fams.out ?_)
    | ((with_reducible show wpList _ _ _ (⟨some 3, .alloc 76, _, _, _, _⟩ :: _) _ _)
       refine wpList_new_fams rfl rfl ?_)
    | ((with_reducible show wpList _ _ _ (⟨none, .store 76 (.tmp 3) (.tmp 4), _, _, _, _⟩ :: _) _ _)
       refine wpList_store_mid rfl 76 (.tmp 3) (.tmp 4) rfl w.heap.size 0 (cellsT .u32 famT).toArray rfl rfl (there_fams w) HJ_fams.out (one_fams) ?_
       obtain ⟨rV, bV⟩ := copy_fams w
       generalize (w.alloc (.cells (zeroT_fams) 76)).setCells w.heap.size 0 (cellsT .u32 famT).toArray.toList = V at rV bV ⊢)
    | (go_at_call 29; ((with_reducible refine (HF.out _ rV).mono ?_); rintro e w2 ⟨rfl, b2⟩)))
  go_ret
  exact ⟨rfl, thnJ bV b2⟩
end Go.Proofs.YtbjhleajhkofeaaDoor
