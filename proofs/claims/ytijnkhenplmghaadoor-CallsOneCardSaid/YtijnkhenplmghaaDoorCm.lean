/- The table of the landed package calls, as one value: forty rows of seven cells. No condition. -/
import Derived.Test.YtijnkhenplmghaaDoorCg
import Derived.Deep.MidRow
namespace Go.Proofs.YtijnkhenplmghaaDoor
open Go.RowKit
set_option linter.unusedVariables false
attribute [local go_sem ↓] Go.wp_at_zero Go.wp_at_succ

/-- A row's numbers, as the table holds them, and its cells. -/
def nrL (j : Nat) : List Value := (callR.getD j []).map fun x => Value.int .i16 (if 1073741824 ≤ x then x - 1073741824 else x)
def rL (j : Nat) : List Value := .string (nmT j) :: nrL j
def tabL9 : List Value := (List.range 40).flatMap rL
def tabV9 : Array Value := tabL9.toArray
def zeroL9 : List Value := (List.range 40).flatMap fun _ => [.string ⟨#[]⟩, .int .i16 0, .int .i16 0, .int .i16 0, .int .i16 0, .int .i16 0, .int .i16 0]
def Z9 : Array Value := zeroL9.toArray
theorem wpList_val9 {ops : Array Oper} {rest : List Oper} {op : Oper} {a : Act} {w : World} {Q : Exit → Act → World → Prop} (hgd : op.guard = none) (v : Value) (hr : (execOp a.eval op).run Tryd.prog w = .ok (.value v) w)
    (h : wpList Tryd.prog ops Q rest (a.put op.dst v) w) : wpList Tryd.prog ops Q (op :: rest) a w :=
  wpList_plain hgd fun _ hK => by unfold Oper.wp; rw [hr]; exact hK _ _ h
theorem wpList_new9 {ops : Array Oper} {rest : List Oper} {op : Oper} {a : Act} {w : World} {Q : Exit → Act → World → Prop} (hgd : op.guard = none) (hr : (execOp a.eval op).run Tryd.prog w = .ok (.value (.pointer (some ⟨w.heap.size, 0, none⟩))) (w.alloc (.cells Z9 56)))
    (h : wpList Tryd.prog ops Q rest (a.put op.dst (.pointer (some ⟨w.heap.size, 0, none⟩))) (w.alloc (.cells Z9 56))) : wpList Tryd.prog ops Q (op :: rest) a w :=
  wpList_plain hgd fun _ hK => by unfold Oper.wp; rw [hr]; exact hK _ _ h
theorem results_row9 {fn : Func} {tmps : Array Value} {w : World} {t : Nat} {ty : TypeId} {p : Addr} {v : Value} (hr : fn.results = #[.cell t ty]) (ha : tmps.getD t undef = .pointer (some p)) (hl : (loadVar ty p).run Tryd.prog w = .ok v w) : (results fn tmps).run Tryd.prog w = .ok v w := by
  have ha' : tmps[t]?.getD undef = .pointer (some p) := by simpa using ha
  simp [results, hr, asAddr, ha', hl]
theorem below_setCells9 {w0 : World} {b : Nat} (hb : w0.heap.size ≤ b) : ∀ (vs : List Value) (o : Nat) (w : World), Below w0.heap.size w0 w → Below w0.heap.size w0 (w.setCells b o vs)
  | [], o, w, h => h
  | v :: vs, o, w, h => below_setCells9 hb vs (o + 1) (w.setCell ⟨b, o, none⟩ v) (h.setCell hb v)
theorem Z9_some : ∀ j, j < 280 → (Z9[j]?).isSome = true := fun j hj => by
  have h : Z9.size = 280 := by kernel_rfl
  rw [Array.getElem?_eq_getElem (by omega)]; rfl
theorem Z9_there (W : World) : (W.alloc (.cells Z9 56)).there W.heap.size 0 280 := fun j hj => by
  refine ⟨?_, frozen_of_row _ _ _ _ _ (heap_alloc_new W _)⟩
  rw [cell_of_row _ _ (0 + j) _ _ (0, 0) (heap_alloc_new W _), Nat.zero_add]
  exact Z9_some j hj
set_option maxRecDepth 100000 in
set_option maxHeartbeats 32000000 in
theorem table9 (w : World) : Calls Tryd.prog 21 #[] w fun e w' => e = .returned (.agg tabV9) ∧ Below w.heap.size w w' := by
  have hsz : tabV9.size = 280 := by kernel_rfl
  have hth : (w.alloc (.cells Z9 56)).there w.heap.size 0 tabV9.size := by rw [hsz]; exact Z9_there w
  have hinf : (Tryd.prog.info? 56).map (·.size) = some tabV9.size := by kernel_rfl
  have hone : tabV9.all (·.oneCell') = true := by kernel_rfl
  have hrg := World.rangeAt_setCells_same (w.alloc (.cells Z9 56)) w.heap.size 0 tabV9.toList hth
  have hBl : Below w.heap.size w ((w.alloc (.cells Z9 56)).setCells w.heap.size 0 tabV9.toList) := below_setCells9 (Nat.le_refl _) _ _ _ ((Below.refl _ _).alloc (Nat.le_refl _) _)
  have HTH := Lib.hid hth
  have HIN := Lib.hid hinf
  have HON := Lib.hid hone
  have HRG := Lib.hid hrg
  have HBL := Lib.hid hBl
  clear hth hinf hone hrg hBl
  go_enter Tryd.func21, Tryd.ntmps21
  go_upto_region 0 with fail
  refine wp_region_lit ?_
  refine wpList_new9 rfl (by kernel_rfl) ?_
  refine wpList_nil ?_
  go_upto_region 1 with fail
  refine wp_region_lit ?_
  refine wpList_val9 rfl (.agg (nrL 0).toArray) (by kernel_rfl) ?_
  refine wpList_val9 rfl (.agg (rL 0).toArray) (by kernel_rfl) ?_
  refine wpList_val9 rfl (.agg (nrL 1).toArray) (by kernel_rfl) ?_
  refine wpList_val9 rfl (.agg (rL 1).toArray) (by kernel_rfl) ?_
  refine wpList_val9 rfl (.agg (nrL 2).toArray) (by kernel_rfl) ?_
  refine wpList_val9 rfl (.agg (rL 2).toArray) (by kernel_rfl) ?_
  refine wpList_val9 rfl (.agg (nrL 3).toArray) (by kernel_rfl) ?_
  refine wpList_val9 rfl (.agg (rL 3).toArray) (by kernel_rfl) ?_
  refine wpList_val9 rfl (.agg (nrL 4).toArray) (by kernel_rfl) ?_
  refine wpList_val9 rfl (.agg (rL 4).toArray) (by kernel_rfl) ?_
  refine wpList_val9 rfl (.agg (nrL 5).toArray) (by kernel_rfl) ?_
  refine wpList_val9 rfl (.agg (rL 5).toArray) (by kernel_rfl) ?_
  refine wpList_val9 rfl (.agg (nrL 6).toArray) (by kernel_rfl) ?_
  refine wpList_val9 rfl (.agg (rL 6).toArray) (by kernel_rfl) ?_
  refine wpList_val9 rfl (.agg (nrL 7).toArray) (by kernel_rfl) ?_
  refine wpList_val9 rfl (.agg (rL 7).toArray) (by kernel_rfl) ?_
  refine wpList_val9 rfl (.agg (nrL 8).toArray) (by kernel_rfl) ?_
  refine wpList_val9 rfl (.agg (rL 8).toArray) (by kernel_rfl) ?_
  refine wpList_val9 rfl (.agg (nrL 9).toArray) (by kernel_rfl) ?_
  refine wpList_val9 rfl (.agg (rL 9).toArray) (by kernel_rfl) ?_
  refine wpList_val9 rfl (.agg (nrL 10).toArray) (by kernel_rfl) ?_
  refine wpList_val9 rfl (.agg (rL 10).toArray) (by kernel_rfl) ?_
  refine wpList_val9 rfl (.agg (nrL 11).toArray) (by kernel_rfl) ?_
  refine wpList_val9 rfl (.agg (rL 11).toArray) (by kernel_rfl) ?_
  refine wpList_val9 rfl (.agg (nrL 12).toArray) (by kernel_rfl) ?_
  refine wpList_val9 rfl (.agg (rL 12).toArray) (by kernel_rfl) ?_
  refine wpList_val9 rfl (.agg (nrL 13).toArray) (by kernel_rfl) ?_
  refine wpList_val9 rfl (.agg (rL 13).toArray) (by kernel_rfl) ?_
  refine wpList_val9 rfl (.agg (nrL 14).toArray) (by kernel_rfl) ?_
  refine wpList_val9 rfl (.agg (rL 14).toArray) (by kernel_rfl) ?_
  refine wpList_val9 rfl (.agg (nrL 15).toArray) (by kernel_rfl) ?_
  refine wpList_val9 rfl (.agg (rL 15).toArray) (by kernel_rfl) ?_
  refine wpList_val9 rfl (.agg (nrL 16).toArray) (by kernel_rfl) ?_
  refine wpList_val9 rfl (.agg (rL 16).toArray) (by kernel_rfl) ?_
  refine wpList_val9 rfl (.agg (nrL 17).toArray) (by kernel_rfl) ?_
  refine wpList_val9 rfl (.agg (rL 17).toArray) (by kernel_rfl) ?_
  refine wpList_val9 rfl (.agg (nrL 18).toArray) (by kernel_rfl) ?_
  refine wpList_val9 rfl (.agg (rL 18).toArray) (by kernel_rfl) ?_
  refine wpList_val9 rfl (.agg (nrL 19).toArray) (by kernel_rfl) ?_
  refine wpList_val9 rfl (.agg (rL 19).toArray) (by kernel_rfl) ?_
  refine wpList_val9 rfl (.agg (nrL 20).toArray) (by kernel_rfl) ?_
  refine wpList_val9 rfl (.agg (rL 20).toArray) (by kernel_rfl) ?_
  refine wpList_val9 rfl (.agg (nrL 21).toArray) (by kernel_rfl) ?_
  refine wpList_val9 rfl (.agg (rL 21).toArray) (by kernel_rfl) ?_
  refine wpList_val9 rfl (.agg (nrL 22).toArray) (by kernel_rfl) ?_
  refine wpList_val9 rfl (.agg (rL 22).toArray) (by kernel_rfl) ?_
  refine wpList_val9 rfl (.agg (nrL 23).toArray) (by kernel_rfl) ?_
  refine wpList_val9 rfl (.agg (rL 23).toArray) (by kernel_rfl) ?_
  refine wpList_val9 rfl (.agg (nrL 24).toArray) (by kernel_rfl) ?_
  refine wpList_val9 rfl (.agg (rL 24).toArray) (by kernel_rfl) ?_
  refine wpList_val9 rfl (.agg (nrL 25).toArray) (by kernel_rfl) ?_
  refine wpList_val9 rfl (.agg (rL 25).toArray) (by kernel_rfl) ?_
  refine wpList_val9 rfl (.agg (nrL 26).toArray) (by kernel_rfl) ?_
  refine wpList_val9 rfl (.agg (rL 26).toArray) (by kernel_rfl) ?_
  refine wpList_val9 rfl (.agg (nrL 27).toArray) (by kernel_rfl) ?_
  refine wpList_val9 rfl (.agg (rL 27).toArray) (by kernel_rfl) ?_
  refine wpList_val9 rfl (.agg (nrL 28).toArray) (by kernel_rfl) ?_
  refine wpList_val9 rfl (.agg (rL 28).toArray) (by kernel_rfl) ?_
  refine wpList_val9 rfl (.agg (nrL 29).toArray) (by kernel_rfl) ?_
  refine wpList_val9 rfl (.agg (rL 29).toArray) (by kernel_rfl) ?_
  refine wpList_val9 rfl (.agg (nrL 30).toArray) (by kernel_rfl) ?_
  refine wpList_val9 rfl (.agg (rL 30).toArray) (by kernel_rfl) ?_
  refine wpList_val9 rfl (.agg (nrL 31).toArray) (by kernel_rfl) ?_
  refine wpList_val9 rfl (.agg (rL 31).toArray) (by kernel_rfl) ?_
  refine wpList_val9 rfl (.agg (nrL 32).toArray) (by kernel_rfl) ?_
  refine wpList_val9 rfl (.agg (rL 32).toArray) (by kernel_rfl) ?_
  refine wpList_val9 rfl (.agg (nrL 33).toArray) (by kernel_rfl) ?_
  refine wpList_val9 rfl (.agg (rL 33).toArray) (by kernel_rfl) ?_
  refine wpList_val9 rfl (.agg (nrL 34).toArray) (by kernel_rfl) ?_
  refine wpList_val9 rfl (.agg (rL 34).toArray) (by kernel_rfl) ?_
  refine wpList_val9 rfl (.agg (nrL 35).toArray) (by kernel_rfl) ?_
  refine wpList_val9 rfl (.agg (rL 35).toArray) (by kernel_rfl) ?_
  refine wpList_val9 rfl (.agg (nrL 36).toArray) (by kernel_rfl) ?_
  refine wpList_val9 rfl (.agg (rL 36).toArray) (by kernel_rfl) ?_
  refine wpList_val9 rfl (.agg (nrL 37).toArray) (by kernel_rfl) ?_
  refine wpList_val9 rfl (.agg (rL 37).toArray) (by kernel_rfl) ?_
  refine wpList_val9 rfl (.agg (nrL 38).toArray) (by kernel_rfl) ?_
  refine wpList_val9 rfl (.agg (rL 38).toArray) (by kernel_rfl) ?_
  refine wpList_val9 rfl (.agg (nrL 39).toArray) (by kernel_rfl) ?_
  refine wpList_val9 rfl (.agg (rL 39).toArray) (by kernel_rfl) ?_
  refine wpList_val9 rfl (.agg tabV9) (by kernel_rfl) ?_
  refine wpList_store_mid rfl 56 (.tmp 0) (.tmp 81) rfl w.heap.size 0 tabV9 (by kernel_rfl) (by kernel_rfl) HTH.out HIN.out HON.out ?_
  generalize hV : (w.alloc (.cells Z9 56)).setCells w.heap.size 0 tabV9.toList = V at HRG HBL ⊢
  clear hV
  rename_i K hK
  show K _ _
  refine hK _ _ ?_
  have hld := run_loadVar_mid (P := Tryd.prog) V w.heap.size 0 56 tabV9.toList _ HRG.out Tryd.underlying56 rfl HIN.out
  refine wp_ret ?_
  exact bodyPost_ret (v := .agg tabV9) (results_row9 Tryd.results21 (by kernel_rfl) hld) (by kernel_rfl) ⟨rfl, HBL.out⟩
set_option maxRecDepth 100000 in
theorem run_row9 (k : Nat) (hk : k < 40) (w : World) : (Instr.index 56 (.agg tabV9) (.int .i64 k)).run Tryd.prog w = .ok (.agg (rL k).toArray) w := by
  match k, hk with
  | 0, _ => show _ = _; kernel_rfl
  | 1, _ => show _ = _; kernel_rfl
  | 2, _ => show _ = _; kernel_rfl
  | 3, _ => show _ = _; kernel_rfl
  | 4, _ => show _ = _; kernel_rfl
  | 5, _ => show _ = _; kernel_rfl
  | 6, _ => show _ = _; kernel_rfl
  | 7, _ => show _ = _; kernel_rfl
  | 8, _ => show _ = _; kernel_rfl
  | 9, _ => show _ = _; kernel_rfl
  | 10, _ => show _ = _; kernel_rfl
  | 11, _ => show _ = _; kernel_rfl
  | 12, _ => show _ = _; kernel_rfl
  | 13, _ => show _ = _; kernel_rfl
  | 14, _ => show _ = _; kernel_rfl
  | 15, _ => show _ = _; kernel_rfl
  | 16, _ => show _ = _; kernel_rfl
  | 17, _ => show _ = _; kernel_rfl
  | 18, _ => show _ = _; kernel_rfl
  | 19, _ => show _ = _; kernel_rfl
  | 20, _ => show _ = _; kernel_rfl
  | 21, _ => show _ = _; kernel_rfl
  | 22, _ => show _ = _; kernel_rfl
  | 23, _ => show _ = _; kernel_rfl
  | 24, _ => show _ = _; kernel_rfl
  | 25, _ => show _ = _; kernel_rfl
  | 26, _ => show _ = _; kernel_rfl
  | 27, _ => show _ = _; kernel_rfl
  | 28, _ => show _ = _; kernel_rfl
  | 29, _ => show _ = _; kernel_rfl
  | 30, _ => show _ = _; kernel_rfl
  | 31, _ => show _ = _; kernel_rfl
  | 32, _ => show _ = _; kernel_rfl
  | 33, _ => show _ = _; kernel_rfl
  | 34, _ => show _ = _; kernel_rfl
  | 35, _ => show _ = _; kernel_rfl
  | 36, _ => show _ = _; kernel_rfl
  | 37, _ => show _ = _; kernel_rfl
  | 38, _ => show _ = _; kernel_rfl
  | 39, _ => show _ = _; kernel_rfl
  | k + 40, hk => omega
/-- A row by its place. -/
theorem wpList_row9 {ops : Array Oper} {rest : List Oper} {op : Oper} {a : Act} {w : World} {Q : Exit → Act → World → Prop} (hgd : op.guard = none) (x y : Operand) (ho : op.op = .index 56 x y) (k : Nat) (hk : k < 40)
    (hx : a.eval x = .agg tabV9) (hy : a.eval y = .int .i64 k) (h : wpList Tryd.prog ops Q rest (a.put op.dst (.agg (rL k).toArray)) w) : wpList Tryd.prog ops Q (op :: rest) a w :=
  wpList_plain hgd fun _ hK => by
    unfold Oper.wp execOp
    simp only [ho, hx, hy, Sem.run_bind, Sem.run_pure, Result.andThen_ok, run_row9 k hk w]
    exact hK _ _ h
end Go.Proofs.YtijnkhenplmghaaDoor
