/- What Spaces and Flags of the landed names return: all flags together; those that are set in a number, in order. Condition: the table of namespaces lies as the text lays it. -/
import Derived.Test.YtlenjfodjkhpmaaGreatDoorLz
import Derived.Test.YtlenjfodjkhpmaaGreatDoorJa
import Derived.Deep.MidRow
import Derived.Deep.QuietTactic
import Derived.BigQuiet
import Derived.Laws.BitsAllLaws
import Derived.WalkSmall
import Derived.Lib.AppendIntMem
namespace Go.Proofs.YtlenjfodjkhpmaaGreatDoor
set_option maxRecDepth 100000
open Go.Lib (hid)
open Go.RowKit
set_option linter.unusedVariables false
set_option linter.unusedSimpArgs false
attribute [local go_sem ↓] Go.wp_at_zero Go.wp_at_succ

def cellsT (kd : IntKind) (l : List En10) : List Value := l.flatMap fun e => [.string e.1, .int kd (e.2 : Nat)]
theorem cellsT_get {kd : IntKind} : ∀ {l : List En10} {k : Nat} {e : En10}, l[k]? = some e → (cellsT kd l)[k * 2]? = some (.string e.1) ∧ (cellsT kd l)[k * 2 + 1]? = some (.int kd (e.2 : Nat))
 | [], k, e, h => by simp at h
 | x :: r, 0, e, h => by injection h with h; subst h; exact ⟨rfl, rfl⟩
 | x :: r, k + 1, e, h => by
   have := cellsT_get (kd := kd) (l := r) (k := k) (e := e) (by simpa using h)
   have e1 : cellsT kd (x :: r) = .string x.1 :: .int kd (x.2 : Nat) :: cellsT kd r := rfl
   rw [e1, show (k + 1) * 2 = k * 2 + 1 + 1 by omega]
   exact this
theorem cellsT_one {kd : IntKind} : ∀ {l : List En10}, ∀ v ∈ cellsT kd l, v.oneCell' = true := by
 intro l v hv
 obtain ⟨e, _, h⟩ := List.mem_flatMap.1 hv
 simp only [List.mem_cons, List.not_mem_nil, or_false] at h
 rcases h with rfl | rfl <;> rfl
theorem below_setCellsN {w0 : World} {b : Nat} (hb : w0.heap.size ≤ b) : ∀ (vs : List Value) (o : Nat) (w : World), Below w0.heap.size w0 w → Below w0.heap.size w0 (w.setCells b o vs)
 | [], o, w, h => h
 | v :: vs, o, w, h => below_setCellsN hb vs (o + 1) (w.setCell ⟨b, o, none⟩ v) (h.setCell hb v)
structure GN (w : World) : Prop where
 errs : LaidAt w 2 (cellsT .u32 errnoT)
 fams : LaidAt w 3 (cellsT .u32 famT)
 spcs : LaidAt w 0 (cellsT .u64 spcT)
 pow : Lib.TabIs Tryz.prog w "internal/strconv.uint64pow10" .u64 Lib.pow10Tab
 syn : ∃ t p, w.cell? ⟨9, 0, none⟩ = some (.iface t p)
 rng : ∃ t p, w.cell? ⟨10, 0, none⟩ = some (.iface t p)
theorem tab_onN {w w' : World} (h : Lib.TabIs Tryz.prog w "internal/strconv.uint64pow10" .u64 Lib.pow10Tab) (b : Below w.heap.size w w') : Lib.TabIs Tryz.prog w' "internal/strconv.uint64pow10" .u64 Lib.pow10Tab := by
 unfold Lib.TabIs World.var? at *
 cases hg : Program.globalNamed Tryz.prog "internal/strconv.uint64pow10" with
 | none => simp [hg] at h
 | some g =>
  simp only [hg, Option.bind_some] at h ⊢
  have hlt : g < w.heap.size := by
   rcases Nat.lt_or_ge g w.heap.size with h' | h'
   ·exact h'
   ·rw [Array.getElem?_eq_none h'] at h; simp at h
  rw [b.block g hlt]
  exact h
theorem GN.on {w w' : World} (h : GN w) (b : Below w.heap.size w w') : GN w' := by
 obtain ⟨t0, p0, h0⟩ := h.syn
 obtain ⟨t1, p1, h1⟩ := h.rng
 exact ⟨h.errs.on (by decide) b, h.fams.on (by decide) b, h.spcs.on (by decide) b, tab_onN h.pow b, ⟨t0, p0, (b.cell (World.block_lt_of_cell? w _ h0)).trans h0⟩, ⟨t1, p1, (b.cell (World.block_lt_of_cell? w _ h1)).trans h1⟩⟩
theorem rows32_of {w : World} {b : Nat} {l : List En10} (h : w.rangeAt b 0 (cellsT .u32 l)) : Rows_u32 w b l := fun k e hk => by
 obtain ⟨h1, h2⟩ := cellsT_get (kd := .u32) hk
 have a1 := h _ _ h1
 have a2 := h _ _ h2
 rw [Nat.zero_add] at a1 a2
 exact ⟨a1, a2⟩
theorem rows64_of {w : World} {b : Nat} {l : List En10} (h : w.rangeAt b 0 (cellsT .u64 l)) : Rows_u64 w b l := fun k e hk => by
 obtain ⟨h1, h2⟩ := cellsT_get (kd := .u64) hk
 have a1 := h _ _ h1
 have a2 := h _ _ h2
 rw [Nat.zero_add] at a1 a2
 exact ⟨a1, a2⟩
theorem range_errs {w : World} (h : GN w) : w.rangeAt 2 0 (cellsT .u32 errnoT) := fun j v hv => by rw [Nat.zero_add]; exact h.errs j v hv
def zeroT_errs : Array Value := ((List.range 15).flatMap fun _ => [.string ⟨#[]⟩, .int .u32 0]).toArray
theorem info_errs : (Tryz.prog.info? 154).map (·.size) = some (cellsT .u32 errnoT).length := by kernel_rfl
theorem infa_errs : (Tryz.prog.info? 154).map (·.size) = some (cellsT .u32 errnoT).toArray.size := by kernel_rfl
theorem one_errs : (cellsT .u32 errnoT).toArray.all (·.oneCell') = true := all_oneCell_toArray cellsT_one
theorem there_errs (W : World) : (W.alloc (.cells zeroT_errs 154)).there W.heap.size 0 (cellsT .u32 errnoT).toArray.size := fun j hj => by
 have h : zeroT_errs.size = (cellsT .u32 errnoT).toArray.size := by kernel_rfl
 refine ⟨?_, frozen_of_row _ _ _ _ _ (heap_alloc_new W _)⟩
 rw [cell_of_row _ _ (0 + j) _ _ (0, 0) (heap_alloc_new W _), Nat.zero_add, Array.getElem?_eq_getElem (by omega)]; rfl
theorem copy_errs (W : World) : Rows_u32 ((W.alloc (.cells zeroT_errs 154)).setCells W.heap.size 0 (cellsT .u32 errnoT).toArray.toList) W.heap.size errnoT ∧ Below W.heap.size W ((W.alloc (.cells zeroT_errs 154)).setCells W.heap.size 0 (cellsT .u32 errnoT).toArray.toList) :=
 ⟨rows32_of (World.rangeAt_setCells_same _ W.heap.size 0 _ (there_errs W)), below_setCellsN (Nat.le_refl _) _ _ _ ((Below.refl _ _).alloc (Nat.le_refl _) _)⟩
theorem wpList_new_errs {ops : Array Oper} {rest : List Oper} {op : Oper} {a : Act} {w : World} {Q : Exit → Act → World → Prop} (hgd : op.guard = none) (ho : op.op = .alloc 154)
 (h : wpList Tryz.prog ops Q rest (a.put op.dst (.pointer (some ⟨w.heap.size, 0, none⟩))) (w.alloc (.cells zeroT_errs 154))) : wpList Tryz.prog ops Q (op :: rest) a w :=
 wpList_plain hgd fun _ hK => by
  have hr : (execOp a.eval op).run Tryz.prog w = .ok (.value (.pointer (some ⟨w.heap.size, 0, none⟩))) (w.alloc (.cells zeroT_errs 154)) := by
   unfold execOp; rw [ho]; kernel_rfl
  unfold Oper.wp; rw [hr]; exact hK _ _ h
theorem range_fams {w : World} (h : GN w) : w.rangeAt 3 0 (cellsT .u32 famT) := fun j v hv => by rw [Nat.zero_add]; exact h.fams j v hv
def zeroT_fams : Array Value := ((List.range 8).flatMap fun _ => [.string ⟨#[]⟩, .int .u32 0]).toArray
theorem info_fams : (Tryz.prog.info? 158).map (·.size) = some (cellsT .u32 famT).length := by kernel_rfl
theorem infa_fams : (Tryz.prog.info? 158).map (·.size) = some (cellsT .u32 famT).toArray.size := by kernel_rfl
theorem one_fams : (cellsT .u32 famT).toArray.all (·.oneCell') = true := all_oneCell_toArray cellsT_one
theorem there_fams (W : World) : (W.alloc (.cells zeroT_fams 158)).there W.heap.size 0 (cellsT .u32 famT).toArray.size := fun j hj => by
 have h : zeroT_fams.size = (cellsT .u32 famT).toArray.size := by kernel_rfl
 refine ⟨?_, frozen_of_row _ _ _ _ _ (heap_alloc_new W _)⟩
 rw [cell_of_row _ _ (0 + j) _ _ (0, 0) (heap_alloc_new W _), Nat.zero_add, Array.getElem?_eq_getElem (by omega)]; rfl
theorem copy_fams (W : World) : Rows_u32 ((W.alloc (.cells zeroT_fams 158)).setCells W.heap.size 0 (cellsT .u32 famT).toArray.toList) W.heap.size famT ∧ Below W.heap.size W ((W.alloc (.cells zeroT_fams 158)).setCells W.heap.size 0 (cellsT .u32 famT).toArray.toList) :=
 ⟨rows32_of (World.rangeAt_setCells_same _ W.heap.size 0 _ (there_fams W)), below_setCellsN (Nat.le_refl _) _ _ _ ((Below.refl _ _).alloc (Nat.le_refl _) _)⟩
theorem wpList_new_fams {ops : Array Oper} {rest : List Oper} {op : Oper} {a : Act} {w : World} {Q : Exit → Act → World → Prop} (hgd : op.guard = none) (ho : op.op = .alloc 158)
 (h : wpList Tryz.prog ops Q rest (a.put op.dst (.pointer (some ⟨w.heap.size, 0, none⟩))) (w.alloc (.cells zeroT_fams 158))) : wpList Tryz.prog ops Q (op :: rest) a w :=
 wpList_plain hgd fun _ hK => by
  have hr : (execOp a.eval op).run Tryz.prog w = .ok (.value (.pointer (some ⟨w.heap.size, 0, none⟩))) (w.alloc (.cells zeroT_fams 158)) := by
   unfold execOp; rw [ho]; kernel_rfl
  unfold Oper.wp; rw [hr]; exact hK _ _ h
theorem range_spcs {w : World} (h : GN w) : w.rangeAt 0 0 (cellsT .u64 spcT) := fun j v hv => by rw [Nat.zero_add]; exact h.spcs j v hv
def zeroT_spcs : Array Value := ((List.range 8).flatMap fun _ => [.string ⟨#[]⟩, .int .u64 0]).toArray
theorem info_spcs : (Tryz.prog.info? 113).map (·.size) = some (cellsT .u64 spcT).length := by kernel_rfl
theorem infa_spcs : (Tryz.prog.info? 113).map (·.size) = some (cellsT .u64 spcT).toArray.size := by kernel_rfl
theorem one_spcs : (cellsT .u64 spcT).toArray.all (·.oneCell') = true := all_oneCell_toArray cellsT_one
theorem there_spcs (W : World) : (W.alloc (.cells zeroT_spcs 113)).there W.heap.size 0 (cellsT .u64 spcT).toArray.size := fun j hj => by
 have h : zeroT_spcs.size = (cellsT .u64 spcT).toArray.size := by kernel_rfl
 refine ⟨?_, frozen_of_row _ _ _ _ _ (heap_alloc_new W _)⟩
 rw [cell_of_row _ _ (0 + j) _ _ (0, 0) (heap_alloc_new W _), Nat.zero_add, Array.getElem?_eq_getElem (by omega)]; rfl
theorem copy_spcs (W : World) : Rows_u64 ((W.alloc (.cells zeroT_spcs 113)).setCells W.heap.size 0 (cellsT .u64 spcT).toArray.toList) W.heap.size spcT ∧ Below W.heap.size W ((W.alloc (.cells zeroT_spcs 113)).setCells W.heap.size 0 (cellsT .u64 spcT).toArray.toList) :=
 ⟨rows64_of (World.rangeAt_setCells_same _ W.heap.size 0 _ (there_spcs W)), below_setCellsN (Nat.le_refl _) _ _ _ ((Below.refl _ _).alloc (Nat.le_refl _) _)⟩
theorem wpList_new_spcs {ops : Array Oper} {rest : List Oper} {op : Oper} {a : Act} {w : World} {Q : Exit → Act → World → Prop} (hgd : op.guard = none) (ho : op.op = .alloc 113)
 (h : wpList Tryz.prog ops Q rest (a.put op.dst (.pointer (some ⟨w.heap.size, 0, none⟩))) (w.alloc (.cells zeroT_spcs 113))) : wpList Tryz.prog ops Q (op :: rest) a w :=
 wpList_plain hgd fun _ hK => by
  have hr : (execOp a.eval op).run Tryz.prog w = .ok (.value (.pointer (some ⟨w.heap.size, 0, none⟩))) (w.alloc (.cells zeroT_spcs 113)) := by
   unfold execOp; rw [ho]; kernel_rfl
  unfold Oper.wp; rw [hr]; exact hK _ _ h
set_option maxHeartbeats 1600000 in
theorem familyN (s : ByteArray) (w : World) (hG : GN w) : Calls Tryz.prog 191 #[.string s] w fun e w' =>
 e = .returned (.tuple #[.int .u32 ((findR famT s).getD 0 : Nat), .int .i64 (if (findR famT s).isSome = true then 0 else 180)]) ∧ Below w.heap.size w w' := by
 have HF := hid (fun (W : World) (h : Rows_u32 W w.heap.size famT) => numOf_u32 famT w.heap.size s 180 W (by decide) h)
 rw [show famT.length = 8 from rfl] at HF
 obtain ⟨x, hx⟩ : ∃ x, x = (findR famT s).getD 0 := ⟨_, rfl⟩
 obtain ⟨y, hy⟩ : ∃ y : Int, y = if (findR famT s).isSome = true then 0 else 180 := ⟨_, rfl⟩
 rw [← hx, ← hy] at HF ⊢
 have GX := hid hG
 have HI_fams := hid info_fams
 have HJ_fams := hid infa_fams
 clear hx hy hG
 go_enter Tryz.func191, Tryz.ntmps191
 go_wp2_with (first
  | ((with_reducible show wpList _ _ _ (⟨some 5, .load 158 _, _, _, _, _⟩ :: _) _ _)
     refine wpList_load_mid rfl 158 (.global 3) rfl 3 0 rfl (cellsT .u32 famT) _ (range_fams GX.out) Tryz.underlying158 rfl HI_fams.out ?_)
  | ((with_reducible show wpList _ _ _ (⟨some 4, .alloc 158, _, _, _, _⟩ :: _) _ _)
     refine wpList_new_fams rfl rfl ?_)
  | ((with_reducible show wpList _ _ _ (⟨none, .store 158 (.tmp 4) (.tmp 5), _, _, _, _⟩ :: _) _ _)
     refine wpList_store_mid rfl 158 (.tmp 4) (.tmp 5) rfl w.heap.size 0 (cellsT .u32 famT).toArray rfl rfl (there_fams w) HJ_fams.out (one_fams) ?_
     obtain ⟨rV, bV⟩ := copy_fams w
     generalize (w.alloc (.cells (zeroT_fams) 158)).setCells w.heap.size 0 (cellsT .u32 famT).toArray.toList = V at rV bV ⊢)
  | (go_at_call 208; ((with_reducible refine (HF.out _ rV).mono ?_); rintro e w2 ⟨rfl, b2⟩)))
 go_ret2
 exact ⟨rfl, thnJ bV b2⟩
set_option maxHeartbeats 1600000 in
theorem spaceN (s : ByteArray) (w : World) (hG : GN w) : Calls Tryz.prog 192 #[.string s] w fun e w' =>
 e = .returned (.tuple #[.int .u64 ((findR spcT s).getD 0 : Nat), .int .i64 (if (findR spcT s).isSome = true then 0 else 181)]) ∧ Below w.heap.size w w' := by
 have HF := hid (fun (W : World) (h : Rows_u64 W w.heap.size spcT) => numOf_u64 spcT w.heap.size s 181 W (by decide) h)
 rw [show spcT.length = 8 from rfl] at HF
 obtain ⟨x, hx⟩ : ∃ x, x = (findR spcT s).getD 0 := ⟨_, rfl⟩
 obtain ⟨y, hy⟩ : ∃ y : Int, y = if (findR spcT s).isSome = true then 0 else 181 := ⟨_, rfl⟩
 rw [← hx, ← hy] at HF ⊢
 have GX := hid hG
 have HI_spcs := hid info_spcs
 have HJ_spcs := hid infa_spcs
 clear hx hy hG
 go_enter Tryz.func192, Tryz.ntmps192
 go_wp2_with (first
  | ((with_reducible show wpList _ _ _ (⟨some 5, .load 113 _, _, _, _, _⟩ :: _) _ _)
     refine wpList_load_mid rfl 113 (.global 0) rfl 0 0 rfl (cellsT .u64 spcT) _ (range_spcs GX.out) Tryz.underlying113 rfl HI_spcs.out ?_)
  | ((with_reducible show wpList _ _ _ (⟨some 4, .alloc 113, _, _, _, _⟩ :: _) _ _)
     refine wpList_new_spcs rfl rfl ?_)
  | ((with_reducible show wpList _ _ _ (⟨none, .store 113 (.tmp 4) (.tmp 5), _, _, _, _⟩ :: _) _ _)
     refine wpList_store_mid rfl 113 (.tmp 4) (.tmp 5) rfl w.heap.size 0 (cellsT .u64 spcT).toArray rfl rfl (there_spcs w) HJ_spcs.out (one_spcs) ?_
     obtain ⟨rV, bV⟩ := copy_spcs w
     generalize (w.alloc (.cells (zeroT_spcs) 113)).setCells w.heap.size 0 (cellsT .u64 spcT).toArray.toList = V at rV bV ⊢)
  | (go_at_call 221; ((with_reducible refine (HF.out _ rV).mono ?_); rintro e w2 ⟨rfl, b2⟩)))
 go_ret2
 exact ⟨rfl, thnJ bV b2⟩
set_option maxHeartbeats 1600000 in
theorem familyNameN (n : Nat) (w : World) (hG : GN w) : Calls Tryz.prog 87 #[.int .u32 n] w fun e w' =>
 e = .returned (.string ((nameR famT n).getD ⟨#[]⟩)) ∧ Below w.heap.size w w' := by
 have HF := hid (fun (W : World) (h : Rows_u32 W w.heap.size famT) => namOf_u32 famT w.heap.size n W (by decide) h)
 rw [show famT.length = 8 from rfl] at HF
 obtain ⟨x, hx⟩ : ∃ x, x = (nameR famT n).getD ⟨#[]⟩ := ⟨_, rfl⟩
 rw [← hx] at HF ⊢
 have GX := hid hG
 have HI_fams := hid info_fams
 have HJ_fams := hid infa_fams
 clear hx hG
 go_enter Tryz.func87, Tryz.ntmps87
 go_wp2_with (first
  | ((with_reducible show wpList _ _ _ (⟨some 4, .load 158 _, _, _, _, _⟩ :: _) _ _)
     refine wpList_load_mid rfl 158 (.global 3) rfl 3 0 rfl (cellsT .u32 famT) _ (range_fams GX.out) Tryz.underlying158 rfl HI_fams.out ?_)
  | ((with_reducible show wpList _ _ _ (⟨some 3, .alloc 158, _, _, _, _⟩ :: _) _ _)
     refine wpList_new_fams rfl rfl ?_)
  | ((with_reducible show wpList _ _ _ (⟨none, .store 158 (.tmp 3) (.tmp 4), _, _, _, _⟩ :: _) _ _)
     refine wpList_store_mid rfl 158 (.tmp 3) (.tmp 4) rfl w.heap.size 0 (cellsT .u32 famT).toArray rfl rfl (there_fams w) HJ_fams.out (one_fams) ?_
     obtain ⟨rV, bV⟩ := copy_fams w
     generalize (w.alloc (.cells (zeroT_fams) 158)).setCells w.heap.size 0 (cellsT .u32 famT).toArray.toList = V at rV bV ⊢)
  | (go_at_call 115; ((with_reducible refine (HF.out _ rV).mono ?_); rintro e w2 ⟨rfl, b2⟩)))
 go_ret
 exact ⟨rfl, thnJ bV b2⟩
set_option maxHeartbeats 1600000 in
theorem spaceNameN (n : Nat) (w : World) (hG : GN w) : Calls Tryz.prog 44 #[.int .u64 n] w fun e w' =>
 e = .returned (.string ((nameR spcT n).getD ⟨#[]⟩)) ∧ Below w.heap.size w w' := by
 have HF := hid (fun (W : World) (h : Rows_u64 W w.heap.size spcT) => namOf_u64 spcT w.heap.size n W (by decide) h)
 rw [show spcT.length = 8 from rfl] at HF
 obtain ⟨x, hx⟩ : ∃ x, x = (nameR spcT n).getD ⟨#[]⟩ := ⟨_, rfl⟩
 rw [← hx] at HF ⊢
 have GX := hid hG
 have HI_spcs := hid info_spcs
 have HJ_spcs := hid infa_spcs
 clear hx hG
 go_enter Tryz.func44, Tryz.ntmps44
 go_wp2_with (first
  | ((with_reducible show wpList _ _ _ (⟨some 4, .load 113 _, _, _, _, _⟩ :: _) _ _)
     refine wpList_load_mid rfl 113 (.global 0) rfl 0 0 rfl (cellsT .u64 spcT) _ (range_spcs GX.out) Tryz.underlying113 rfl HI_spcs.out ?_)
  | ((with_reducible show wpList _ _ _ (⟨some 3, .alloc 113, _, _, _, _⟩ :: _) _ _)
     refine wpList_new_spcs rfl rfl ?_)
  | ((with_reducible show wpList _ _ _ (⟨none, .store 113 (.tmp 3) (.tmp 4), _, _, _, _⟩ :: _) _ _)
     refine wpList_store_mid rfl 113 (.tmp 3) (.tmp 4) rfl w.heap.size 0 (cellsT .u64 spcT).toArray rfl rfl (there_spcs w) HJ_spcs.out (one_spcs) ?_
     obtain ⟨rV, bV⟩ := copy_spcs w
     generalize (w.alloc (.cells (zeroT_spcs) 113)).setCells w.heap.size 0 (cellsT .u64 spcT).toArray.toList = V at rV bV ⊢)
  | (go_at_call 88; ((with_reducible refine (HF.out _ rV).mono ?_); rintro e w2 ⟨rfl, b2⟩)))
 go_ret
 exact ⟨rfl, thnJ bV b2⟩
set_option maxRecDepth 100000
open Go.Lib (hid)
open Go.RowKit
set_option linter.unusedVariables false
set_option linter.unusedSimpArgs false
attribute [local go_sem ↓] Go.wp_at_zero Go.wp_at_succ

def spcV : Array Value := (cellsT .u64 spcT).toArray
theorem run_row_spc (k : Nat) (hk : k < 8) (e : En10) (he : spcT[k]? = some e) (w : World) : (Instr.index 113 (.agg spcV) (.int .i64 k)).run Tryz.prog w = .ok (.agg #[.string e.1, .int .u64 (e.2 : Nat)]) w := by
 match k, hk, he with
 | 0, _, he => injection he with he; subst he; show _ = _; kernel_rfl
 | 1, _, he => injection he with he; subst he; show _ = _; kernel_rfl
 | 2, _, he => injection he with he; subst he; show _ = _; kernel_rfl
 | 3, _, he => injection he with he; subst he; show _ = _; kernel_rfl
 | 4, _, he => injection he with he; subst he; show _ = _; kernel_rfl
 | 5, _, he => injection he with he; subst he; show _ = _; kernel_rfl
 | 6, _, he => injection he with he; subst he; show _ = _; kernel_rfl
 | 7, _, he => injection he with he; subst he; show _ = _; kernel_rfl
 | k + 8, hk, _ => omega
theorem wpList_row_spc {ops : Array Oper} {rest : List Oper} {op : Oper} {a : Act} {w : World} {Q : Exit → Act → World → Prop} (hgd : op.guard = none) (x y : Operand) (ho : op.op = .index 113 x y) (k : Nat) (hk : k < 8) (e : En10) (he : spcT[k]? = some e)
 (hx : a.eval x = .agg spcV) (hy : a.eval y = .int .i64 k) (h : wpList Tryz.prog ops Q rest (a.put op.dst (.agg #[.string e.1, .int .u64 (e.2 : Nat)])) w) : wpList Tryz.prog ops Q (op :: rest) a w :=
 wpList_plain hgd fun _ hK => by
  unfold Oper.wp execOp
  simp only [ho, hx, hy, Sem.run_bind, Sem.run_pure, Result.andThen_ok, run_row_spc k hk e he w]
  exact hK _ _ h
theorem spc_bit : ∀ e ∈ spcT, e.2 = 2 ^ e.2.log2 := by decide +kernel
theorem spc_and (y : Nat) {e : En10} (he : e ∈ spcT) : y &&& e.2 = y / e.2 % 2 * e.2 := by
 have := nat_bit e.2.log2 y
 rw [← spc_bit e he] at this
 exact this
theorem sum_or : ∀ k, k < 8 → ∀ e, spcT[k]? = some e → sumTo k ||| e.2 = sumTo k + e.2 := by
 have h : (List.range 8).all (fun k => match spcT[k]? with | some e => decide (sumTo k ||| e.2 = sumTo k + e.2) | none => false) = true := by decide +kernel
 intro k hk e he
 have := List.all_eq_true.1 h k (List.mem_range.2 hk)
 rw [he] at this
 exact of_decide_eq_true this
set_option maxHeartbeats 1600000 in
theorem spacesN (w : World) (hG : GN w) : Calls Tryz.prog 61 #[] w fun e w' => e = .returned (.int .u64 allN) ∧ Below w.heap.size w w' := by
 have GX := hid hG
 have HI_spcs := hid info_spcs
 clear hG
 go_enter Tryz.func61, Tryz.ntmps61
 go_wp2_with ((with_reducible show wpList _ _ _ (⟨some 4, .load 113 _, _, _, _, _⟩ :: _) _ _)
              refine wpList_load_mid rfl 113 (.global 0) rfl 0 0 rfl (cellsT .u64 spcT) _ (range_spcs GX.out) Tryz.underlying113 rfl HI_spcs.out ?_
              rw [show (cellsT .u64 spcT).toArray = spcV from rfl])
 go_loopw [1, 5] (fun v1 v5 wr => ∃ k : Nat, k ≤ 8 ∧ v5 = .int .i64 k ∧ v1 = .int .u64 (sumTo k : Nat) ∧ Hid (Below w.heap.size w wr)) (fun _ v5 _ => 8 - (intOf v5).toNat)
 case atStart => exact ⟨0, by omega, rfl, rfl, hid (Below.refl _ _)⟩
 case round =>
  obtain ⟨k, hk, rfl, rfl, hB⟩ := hrel
  have hsz := hB.out.size
  by_cases hlt : k < 8
  ·obtain ⟨⟨t, x⟩, he, h0, h1⟩ := spc_at k hlt
   simp only at h0 h1
   have HE := hid he
   have HS := hid (sum_step he)
   have HO := hid (sum_or k hlt _ he)
   have hsl := sum_lt k (by omega)
   simp only at HS HO
   obtain ⟨a, ha⟩ : ∃ a, a = sumTo k := ⟨_, rfl⟩
   rw [← ha] at hsl HS HO ⊢
   have hor : bits .or .u64 (a : Int) (x : Int) = ((a + x : Nat) : Int) := by rw [u64_or_nat _ _ (by omega) (by omega), HO.out]
   have k1 : (k : Int) < 8 := by omega
   have k0 : (0 : Int) ≤ k := by omega
   have HB2 := hid (hB.out.alloc hsz (.cells #[.string t, .int .u64 (x : Nat)] 112))
   clear he ha
   go_wp2_with ((with_reducible show wpList _ _ _ (⟨some 7, _, _, _, _, _⟩ :: _) _ _)
                refine wpList_row_spc rfl (.tmp 4) (.tmp 5) rfl k hlt _ HE.out rfl rfl ?_)
   go_roundw
   case rel => exact ⟨k + 1, by omega, by go_num, by rw [HS.out, Int.natCast_add], HB2⟩
   case measure => simp [intOf]; omega
  ·obtain rfl : k = 8 := by omega
   go_wp2
   go_ret
   exact ⟨rfl, hB.out⟩
set_option maxHeartbeats 4000000 in
theorem flagsN (y : Nat) (hy : y < 18446744073709551616) (w : World) (hG : GN w) : Calls Tryz.prog 43 #[.int .u64 y] w fun e w' => ∃ q c, e = .returned (.slice q (flagsR y).length c) ∧ w'.ownsRow w.heap.size 30 1 (.slice q (flagsR y).length c) (flagsR y).length (u64N (flagsR y)) ∧ Below w.heap.size w w' := by
 obtain ⟨i0, hi0, hz0, hz1, hz2⟩ := info_parts u64_info10
 have HI := hid hi0
 have H0 := hid hz0
 have H1 := hid hz1
 have H2 := hid hz2
 have GX := hid hG
 have HI_spcs := hid info_spcs
 clear hi0 hz0 hz1 hz2 hG
 go_enter Tryz.func43, Tryz.ntmps43
 go_wp2_with ((with_reducible show wpList _ _ _ (⟨some 6, .load 113 _, _, _, _, _⟩ :: _) _ _)
              refine wpList_load_mid rfl 113 (.global 0) rfl 0 0 rfl (cellsT .u64 spcT) _ (range_spcs GX.out) Tryz.underlying113 rfl HI_spcs.out ?_
              rw [show (cellsT .u64 spcT).toArray = spcV from rfl])
 go_loopw [3, 7] (fun v3 v7 wr => ∃ k : Nat, k ≤ 8 ∧ v7 = .int .i64 k ∧ Hid (wr.ownsRow w.heap.size 30 1 v3 (flagsTo y k).length (u64N (flagsTo y k))) ∧ Hid (Below w.heap.size w wr)) (fun _ v7 _ => 8 - (intOf v7).toNat)
 case atStart => exact ⟨0, by omega, rfl, hid (World.ownsRow_nil _ _ _ _), hid (Below.refl _ _)⟩
 case round =>
  obtain ⟨k, hk, rfl, HO, PB⟩ := hrel
  obtain ⟨W, rfl⟩ : ∃ wo : World, wo = wr := ⟨_, rfl⟩
  by_cases hlt : k < 8
  ·obtain ⟨⟨t, x⟩, he, h0, h1⟩ := spc_at k hlt
   simp only at h0 h1
   have HE := hid he
   have HS := hid (flags_step (x := y) he)
   simp only at HS
   have hle := flags_le y k
   have hand : bits .and .u64 (y : Int) (x : Int) = ((y / x % 2 * x : Nat) : Int) := by rw [u64_and_nat _ _ hy (by omega), spc_and y (List.mem_of_getElem? he)]
   obtain ⟨F, hF⟩ : ∃ F, F = flagsTo y k := ⟨_, rfl⟩
   rw [← hF] at hle HS HO
   obtain ⟨m, hm⟩ : ∃ m, m = F.length := ⟨_, rfl⟩
   rw [← hm] at hle HO
   have HM := hid hm
   obtain ⟨z, hz⟩ : ∃ z, z = y / x := ⟨_, rfl⟩
   rw [← hz] at hand HS
   have k1 : (k : Int) < 8 := by omega
   have k0 : (0 : Int) ≤ k := by omega
   have x0 : ((x : Int) == 0) = false := beq_eq_false_iff_ne.2 (by omega)
   clear he hF hm hz
   have HB1 := hid (PB.out.alloc PB.out.size (.cells #[.string t, .int .u64 (x : Nat)] 112))
   have HO1 := hid (HO.out.alloc (.cells #[.string t, .int .u64 (x : Nat)] 112))
   by_cases hb : z % 2 = 1
   ·have HS2 := hid (show flagsTo y (k + 1) = F ++ [x] by rw [HS.out, if_pos hb])
    rw [hb, Nat.one_mul] at hand
    clear HS hb HO
    go_wp2_with (first
     | ((with_reducible show wpList _ _ _ (⟨some 9, _, _, _, _, _⟩ :: _) _ _)
        refine wpList_row_spc rfl (.tmp 6) (.tmp 7) rfl k hlt _ HE.out rfl rfl ?_)
     | (at_builtin
        refine wpList_append_own _ rfl (.tmp 15) (.tmp 18) 79 rfl w.heap.size 30 i0 _ 1 8 Tryz.underlying79 HI.out H0.out H1.out H2.out rfl Nat.one_pos _ m (u64N F) rfl (HO1.out.alloc _) ⟨W.heap.size + 1, 0, none⟩ 1 1 [.int .u64 (x : Nat)] rfl (by first | rfl | simp [World.size_alloc]) (by have := news_one10 (W.alloc (.cells #[.string t, .int .u64 (x : Nat)] 112)) (.int .u64 (x : Nat)) 30; rw [World.size_alloc] at this; exact this) (by intro v hv; rw [List.mem_singleton.1 hv]; rfl) (by unfold maxLen; omega) (by omega) (by rw [World.size_alloc, World.size_alloc]; exact Nat.le_succ_of_le (Nat.le_succ_of_le PB.out.size)) ?_
        intro v5 w5 o5 hg5 _
        have O5 := hid o5
        have B5 := hid ((HB1.out.alloc (HB1.out.size) (.cells #[.int .u64 (x : Nat)] 30)).grown hg5 (by rw [World.size_alloc]; exact Nat.le_succ_of_le HB1.out.size) (fun g hg => ((HO1.out.alloc (.cells #[.int .u64 (x : Nat)] 30)).lt g hg).1))
        clear o5 hg5))
    go_roundw
    case rel =>
     exact ⟨k + 1, by omega, by go_num, hid (by rw [HS2.out, List.length_append, u64N_snoc, ← HM.out]; exact O5.out), B5⟩
    case measure => simp [intOf]; omega
   ·have hb2 : z % 2 = 0 := by omega
    have HS2 := hid (show flagsTo y (k + 1) = F by rw [HS.out, if_neg hb, List.append_nil])
    rw [hb2, Nat.zero_mul] at hand
    clear HS hb hb2
    go_wp2_with ((with_reducible show wpList _ _ _ (⟨some 9, _, _, _, _, _⟩ :: _) _ _)
                 refine wpList_row_spc rfl (.tmp 6) (.tmp 7) rfl k hlt _ HE.out rfl rfl ?_)
    go_roundw
    case rel =>
     exact ⟨k + 1, by omega, by go_num, hid (by rw [HS2.out, ← HM.out]; exact HO1.out), HB1⟩
    case measure => simp [intOf]; omega
  ·obtain rfl : k = 8 := by omega
   obtain ⟨q, c, rfl⟩ := own_sl10 HO.out
   go_wp2
   go_ret
   exact ⟨q, c, rfl, HO.out, PB.out⟩
end Go.Proofs.YtlenjfodjkhpmaaGreatDoor
