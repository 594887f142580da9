/- What the landed newMachine returns: a new machine over the data. What the landed newMachine returns: a new machine over the data. What the landed Run and Trace return: what the plain function says. Condition: a program of at most a thousand instructions; the table lies in the package's variable. -/
import Derived.Test.YtohfampfnhfnlaaDoorNl
import Derived.Deep.MidRow
import Derived.Test.YtohfampfnhfnlaaDoorVh
namespace Go.Proofs.YtohfampfnhfnlaaDoor
open Go.RowKit
set_option linter.unusedVariables false
attribute [local go_sem ↓] Go.wp_at_zero Go.wp_at_succ

/-- An operation of a plain region that yields a value. -/
theorem wpList_value {ops : Array Oper} {rest : List Oper} {op : Oper} {a : Act} {w : World} {Q : Exit → Act → World → Prop} (hgd : op.guard = none) (v : Value) (hr : (execOp a.eval op).run Tryd.prog w = .ok (.value v) w)
    (h : wpList Tryd.prog ops Q rest (a.put op.dst v) w) : wpList Tryd.prog ops Q (op :: rest) a w :=
  wpList_plain hgd fun _ hK => by unfold Oper.wp; rw [hr]; exact hK _ _ h
/-- A result that lies in memory. -/
theorem results_row {fn : Func} {tmps : Array Value} {w : World} {t : Nat} {ty : TypeId} {p : Addr} {v : Value} (hr : fn.results = #[.cell t ty]) (ha : tmps.getD t undef = .pointer (some p)) (hl : (loadVar ty p).run Tryd.prog w = .ok v w) : (results fn tmps).run Tryd.prog w = .ok v w := by
  have ha' : tmps[t]?.getD undef = .pointer (some p) := by simpa using ha
  simp [results, hr, asAddr, ha', hl]
theorem cmp_there (W : World) : (W.alloc (.cells #[.int .u16 0, .int .u16 0, .nilFunc, .int .u16 0, .int .u16 0, .nilFunc, .int .u16 0, .int .u16 0, .nilFunc, .int .u16 0, .int .u16 0, .nilFunc] 76)).there W.heap.size 0 12 := fun j hj => by
  refine ⟨?_, frozen_of_row _ _ _ _ _ (heap_alloc_new W _)⟩
  rw [cell_of_row _ _ (0 + j) _ _ (0, 0) (heap_alloc_new W _)]
  match j, hj with
  | 0, _ => rfl
  | 1, _ => rfl
  | 2, _ => rfl
  | 3, _ => rfl
  | 4, _ => rfl
  | 5, _ => rfl
  | 6, _ => rfl
  | 7, _ => rfl
  | 8, _ => rfl
  | 9, _ => rfl
  | 10, _ => rfl
  | 11, _ => rfl
  | j + 12, hj => omega
set_option maxRecDepth 100000 in
set_option maxHeartbeats 8000000 in
theorem comparisons_any (w : World) : Calls Tryd.prog 48 #[] w fun e w' => e = .returned (.agg #[.int .u16 21, .int .u16 29, .func (.func 68) #[] #[], .int .u16 37, .int .u16 45, .func (.func 69) #[] #[], .int .u16 53, .int .u16 61, .func (.func 70) #[] #[], .int .u16 69, .int .u16 77, .func (.func 71) #[] #[]]) ∧ Below w.heap.size w w' := by
  have hth : (w.alloc (.cells #[.int .u16 0, .int .u16 0, .nilFunc, .int .u16 0, .int .u16 0, .nilFunc, .int .u16 0, .int .u16 0, .nilFunc, .int .u16 0, .int .u16 0, .nilFunc] 76)).there w.heap.size 0 (#[.int .u16 21, .int .u16 29, .func (.func 68) #[] #[], .int .u16 37, .int .u16 45, .func (.func 69) #[] #[], .int .u16 53, .int .u16 61, .func (.func 70) #[] #[], .int .u16 69, .int .u16 77, .func (.func 71) #[] #[]] : Array Value).size := cmp_there w
  have hinf : (Tryd.prog.info? 76).map (·.size) = some (#[.int .u16 21, .int .u16 29, .func (.func 68) #[] #[], .int .u16 37, .int .u16 45, .func (.func 69) #[] #[], .int .u16 53, .int .u16 61, .func (.func 70) #[] #[], .int .u16 69, .int .u16 77, .func (.func 71) #[] #[]] : Array Value).size := by kernel_rfl
  have hone : (#[.int .u16 21, .int .u16 29, .func (.func 68) #[] #[], .int .u16 37, .int .u16 45, .func (.func 69) #[] #[], .int .u16 53, .int .u16 61, .func (.func 70) #[] #[], .int .u16 69, .int .u16 77, .func (.func 71) #[] #[]] : Array Value).all (·.oneCell') = true := by kernel_rfl
  have hrg := World.rangeAt_setCells_same (w.alloc (.cells #[.int .u16 0, .int .u16 0, .nilFunc, .int .u16 0, .int .u16 0, .nilFunc, .int .u16 0, .int .u16 0, .nilFunc, .int .u16 0, .int .u16 0, .nilFunc] 76)) w.heap.size 0 (#[.int .u16 21, .int .u16 29, .func (.func 68) #[] #[], .int .u16 37, .int .u16 45, .func (.func 69) #[] #[], .int .u16 53, .int .u16 61, .func (.func 70) #[] #[], .int .u16 69, .int .u16 77, .func (.func 71) #[] #[]] : Array Value).toList hth
  have hBl : Below w.heap.size w ((w.alloc (.cells #[.int .u16 0, .int .u16 0, .nilFunc, .int .u16 0, .int .u16 0, .nilFunc, .int .u16 0, .int .u16 0, .nilFunc, .int .u16 0, .int .u16 0, .nilFunc] 76)).setCells w.heap.size 0 (#[.int .u16 21, .int .u16 29, .func (.func 68) #[] #[], .int .u16 37, .int .u16 45, .func (.func 69) #[] #[], .int .u16 53, .int .u16 61, .func (.func 70) #[] #[], .int .u16 69, .int .u16 77, .func (.func 71) #[] #[]] : Array Value).toList) := below_setCells (Nat.le_refl _) _ _ _ ((Below.refl _ _).alloc (Nat.le_refl _) _)
  have HTH := Lib.hid hth
  have HIN := Lib.hid hinf
  have HON := Lib.hid hone
  have HRG := Lib.hid hrg
  have HBL := Lib.hid hBl
  clear hth hinf hone hrg hBl
  go_enter Tryd.func48, Tryd.ntmps48
  go_wp2_with (first
    | ((with_reducible show wpList _ _ _ (⟨some 5, _, _, _, _, _⟩ :: _) _ _)
       refine wpList_value rfl (.agg #[.int .u16 21, .int .u16 29, .func (.func 68) #[] #[], .int .u16 37, .int .u16 45, .func (.func 69) #[] #[], .int .u16 53, .int .u16 61, .func (.func 70) #[] #[], .int .u16 69, .int .u16 77, .func (.func 71) #[] #[]]) (by kernel_rfl) ?_)
    | ((with_reducible show wpList _ _ _ (⟨none, .store 76 (.tmp 0) (.tmp 5), _, _, _, _⟩ :: _) _ _)
       refine wpList_store_mid rfl 76 (.tmp 0) (.tmp 5) rfl w.heap.size 0 #[.int .u16 21, .int .u16 29, .func (.func 68) #[] #[], .int .u16 37, .int .u16 45, .func (.func 69) #[] #[], .int .u16 53, .int .u16 61, .func (.func 70) #[] #[], .int .u16 69, .int .u16 77, .func (.func 71) #[] #[]] rfl rfl HTH.out HIN.out HON.out ?_
       generalize hV : (w.alloc (.cells #[.int .u16 0, .int .u16 0, .nilFunc, .int .u16 0, .int .u16 0, .nilFunc, .int .u16 0, .int .u16 0, .nilFunc, .int .u16 0, .int .u16 0, .nilFunc] 76)).setCells w.heap.size 0 (#[.int .u16 21, .int .u16 29, .func (.func 68) #[] #[], .int .u16 37, .int .u16 45, .func (.func 69) #[] #[], .int .u16 53, .int .u16 61, .func (.func 70) #[] #[], .int .u16 69, .int .u16 77, .func (.func 71) #[] #[]] : Array Value).toList = V at HRG HBL ⊢
       clear hV))
  have hld := run_loadVar_mid (P := Tryd.prog) V w.heap.size 0 76 (#[.int .u16 21, .int .u16 29, .func (.func 68) #[] #[], .int .u16 37, .int .u16 45, .func (.func 69) #[] #[], .int .u16 53, .int .u16 61, .func (.func 70) #[] #[], .int .u16 69, .int .u16 77, .func (.func 71) #[] #[]] : Array Value).toList _ HRG.out Tryd.underlying76 rfl HIN.out
  exact bodyPost_ret (v := .agg #[.int .u16 21, .int .u16 29, .func (.func 68) #[] #[], .int .u16 37, .int .u16 45, .func (.func 69) #[] #[], .int .u16 53, .int .u16 61, .func (.func 70) #[] #[], .int .u16 69, .int .u16 77, .func (.func 71) #[] #[]]) (results_row Tryd.results48 rfl hld) rfl ⟨rfl, HBL.out⟩
theorem op_there (W : World) : (W.alloc (.cells #[.int .u16 0, .int .u16 0, .nilFunc, .int .u16 0, .int .u16 0, .nilFunc, .int .u16 0, .int .u16 0, .nilFunc, .int .u16 0, .int .u16 0, .nilFunc, .int .u16 0, .int .u16 0, .nilFunc, .int .u16 0, .int .u16 0, .nilFunc, .int .u16 0, .int .u16 0, .nilFunc, .int .u16 0, .int .u16 0, .nilFunc, .int .u16 0, .int .u16 0, .nilFunc, .int .u16 0, .int .u16 0, .nilFunc] 72)).there W.heap.size 0 30 := fun j hj => by
  refine ⟨?_, frozen_of_row _ _ _ _ _ (heap_alloc_new W _)⟩
  rw [cell_of_row _ _ (0 + j) _ _ (0, 0) (heap_alloc_new W _)]
  match j, hj with
  | 0, _ => rfl
  | 1, _ => rfl
  | 2, _ => rfl
  | 3, _ => rfl
  | 4, _ => rfl
  | 5, _ => rfl
  | 6, _ => rfl
  | 7, _ => rfl
  | 8, _ => rfl
  | 9, _ => rfl
  | 10, _ => rfl
  | 11, _ => rfl
  | 12, _ => rfl
  | 13, _ => rfl
  | 14, _ => rfl
  | 15, _ => rfl
  | 16, _ => rfl
  | 17, _ => rfl
  | 18, _ => rfl
  | 19, _ => rfl
  | 20, _ => rfl
  | 21, _ => rfl
  | 22, _ => rfl
  | 23, _ => rfl
  | 24, _ => rfl
  | 25, _ => rfl
  | 26, _ => rfl
  | 27, _ => rfl
  | 28, _ => rfl
  | 29, _ => rfl
  | j + 30, hj => omega
set_option maxRecDepth 100000 in
set_option maxHeartbeats 8000000 in
theorem operations_any (w : World) : Calls Tryd.prog 47 #[] w fun e w' => e = .returned (.agg #[.int .u16 4, .int .u16 12, .func (.func 58) #[] #[], .int .u16 20, .int .u16 28, .func (.func 59) #[] #[], .int .u16 36, .int .u16 44, .func (.func 60) #[] #[], .int .u16 52, .int .u16 60, .func (.func 61) #[] #[], .int .u16 68, .int .u16 76, .func (.func 62) #[] #[], .int .u16 84, .int .u16 92, .func (.func 63) #[] #[], .int .u16 100, .int .u16 108, .func (.func 64) #[] #[], .int .u16 116, .int .u16 124, .func (.func 65) #[] #[], .int .u16 164, .int .u16 172, .func (.func 66) #[] #[], .int .u16 132, .int .u16 132, .func (.func 67) #[] #[]]) ∧ Below w.heap.size w w' := by
  have hth : (w.alloc (.cells #[.int .u16 0, .int .u16 0, .nilFunc, .int .u16 0, .int .u16 0, .nilFunc, .int .u16 0, .int .u16 0, .nilFunc, .int .u16 0, .int .u16 0, .nilFunc, .int .u16 0, .int .u16 0, .nilFunc, .int .u16 0, .int .u16 0, .nilFunc, .int .u16 0, .int .u16 0, .nilFunc, .int .u16 0, .int .u16 0, .nilFunc, .int .u16 0, .int .u16 0, .nilFunc, .int .u16 0, .int .u16 0, .nilFunc] 72)).there w.heap.size 0 (#[.int .u16 4, .int .u16 12, .func (.func 58) #[] #[], .int .u16 20, .int .u16 28, .func (.func 59) #[] #[], .int .u16 36, .int .u16 44, .func (.func 60) #[] #[], .int .u16 52, .int .u16 60, .func (.func 61) #[] #[], .int .u16 68, .int .u16 76, .func (.func 62) #[] #[], .int .u16 84, .int .u16 92, .func (.func 63) #[] #[], .int .u16 100, .int .u16 108, .func (.func 64) #[] #[], .int .u16 116, .int .u16 124, .func (.func 65) #[] #[], .int .u16 164, .int .u16 172, .func (.func 66) #[] #[], .int .u16 132, .int .u16 132, .func (.func 67) #[] #[]] : Array Value).size := op_there w
  have hinf : (Tryd.prog.info? 72).map (·.size) = some (#[.int .u16 4, .int .u16 12, .func (.func 58) #[] #[], .int .u16 20, .int .u16 28, .func (.func 59) #[] #[], .int .u16 36, .int .u16 44, .func (.func 60) #[] #[], .int .u16 52, .int .u16 60, .func (.func 61) #[] #[], .int .u16 68, .int .u16 76, .func (.func 62) #[] #[], .int .u16 84, .int .u16 92, .func (.func 63) #[] #[], .int .u16 100, .int .u16 108, .func (.func 64) #[] #[], .int .u16 116, .int .u16 124, .func (.func 65) #[] #[], .int .u16 164, .int .u16 172, .func (.func 66) #[] #[], .int .u16 132, .int .u16 132, .func (.func 67) #[] #[]] : Array Value).size := by kernel_rfl
  have hone : (#[.int .u16 4, .int .u16 12, .func (.func 58) #[] #[], .int .u16 20, .int .u16 28, .func (.func 59) #[] #[], .int .u16 36, .int .u16 44, .func (.func 60) #[] #[], .int .u16 52, .int .u16 60, .func (.func 61) #[] #[], .int .u16 68, .int .u16 76, .func (.func 62) #[] #[], .int .u16 84, .int .u16 92, .func (.func 63) #[] #[], .int .u16 100, .int .u16 108, .func (.func 64) #[] #[], .int .u16 116, .int .u16 124, .func (.func 65) #[] #[], .int .u16 164, .int .u16 172, .func (.func 66) #[] #[], .int .u16 132, .int .u16 132, .func (.func 67) #[] #[]] : Array Value).all (·.oneCell') = true := by kernel_rfl
  have hrg := World.rangeAt_setCells_same (w.alloc (.cells #[.int .u16 0, .int .u16 0, .nilFunc, .int .u16 0, .int .u16 0, .nilFunc, .int .u16 0, .int .u16 0, .nilFunc, .int .u16 0, .int .u16 0, .nilFunc, .int .u16 0, .int .u16 0, .nilFunc, .int .u16 0, .int .u16 0, .nilFunc, .int .u16 0, .int .u16 0, .nilFunc, .int .u16 0, .int .u16 0, .nilFunc, .int .u16 0, .int .u16 0, .nilFunc, .int .u16 0, .int .u16 0, .nilFunc] 72)) w.heap.size 0 (#[.int .u16 4, .int .u16 12, .func (.func 58) #[] #[], .int .u16 20, .int .u16 28, .func (.func 59) #[] #[], .int .u16 36, .int .u16 44, .func (.func 60) #[] #[], .int .u16 52, .int .u16 60, .func (.func 61) #[] #[], .int .u16 68, .int .u16 76, .func (.func 62) #[] #[], .int .u16 84, .int .u16 92, .func (.func 63) #[] #[], .int .u16 100, .int .u16 108, .func (.func 64) #[] #[], .int .u16 116, .int .u16 124, .func (.func 65) #[] #[], .int .u16 164, .int .u16 172, .func (.func 66) #[] #[], .int .u16 132, .int .u16 132, .func (.func 67) #[] #[]] : Array Value).toList hth
  have hBl : Below w.heap.size w ((w.alloc (.cells #[.int .u16 0, .int .u16 0, .nilFunc, .int .u16 0, .int .u16 0, .nilFunc, .int .u16 0, .int .u16 0, .nilFunc, .int .u16 0, .int .u16 0, .nilFunc, .int .u16 0, .int .u16 0, .nilFunc, .int .u16 0, .int .u16 0, .nilFunc, .int .u16 0, .int .u16 0, .nilFunc, .int .u16 0, .int .u16 0, .nilFunc, .int .u16 0, .int .u16 0, .nilFunc, .int .u16 0, .int .u16 0, .nilFunc] 72)).setCells w.heap.size 0 (#[.int .u16 4, .int .u16 12, .func (.func 58) #[] #[], .int .u16 20, .int .u16 28, .func (.func 59) #[] #[], .int .u16 36, .int .u16 44, .func (.func 60) #[] #[], .int .u16 52, .int .u16 60, .func (.func 61) #[] #[], .int .u16 68, .int .u16 76, .func (.func 62) #[] #[], .int .u16 84, .int .u16 92, .func (.func 63) #[] #[], .int .u16 100, .int .u16 108, .func (.func 64) #[] #[], .int .u16 116, .int .u16 124, .func (.func 65) #[] #[], .int .u16 164, .int .u16 172, .func (.func 66) #[] #[], .int .u16 132, .int .u16 132, .func (.func 67) #[] #[]] : Array Value).toList) := below_setCells (Nat.le_refl _) _ _ _ ((Below.refl _ _).alloc (Nat.le_refl _) _)
  have HTH := Lib.hid hth
  have HIN := Lib.hid hinf
  have HON := Lib.hid hone
  have HRG := Lib.hid hrg
  have HBL := Lib.hid hBl
  clear hth hinf hone hrg hBl
  go_enter Tryd.func47, Tryd.ntmps47
  go_wp2_with (first
    | ((with_reducible show wpList _ _ _ (⟨some 11, _, _, _, _, _⟩ :: _) _ _)
       refine wpList_value rfl (.agg #[.int .u16 4, .int .u16 12, .func (.func 58) #[] #[], .int .u16 20, .int .u16 28, .func (.func 59) #[] #[], .int .u16 36, .int .u16 44, .func (.func 60) #[] #[], .int .u16 52, .int .u16 60, .func (.func 61) #[] #[], .int .u16 68, .int .u16 76, .func (.func 62) #[] #[], .int .u16 84, .int .u16 92, .func (.func 63) #[] #[], .int .u16 100, .int .u16 108, .func (.func 64) #[] #[], .int .u16 116, .int .u16 124, .func (.func 65) #[] #[], .int .u16 164, .int .u16 172, .func (.func 66) #[] #[], .int .u16 132, .int .u16 132, .func (.func 67) #[] #[]]) (by kernel_rfl) ?_)
    | ((with_reducible show wpList _ _ _ (⟨none, .store 72 (.tmp 0) (.tmp 11), _, _, _, _⟩ :: _) _ _)
       refine wpList_store_mid rfl 72 (.tmp 0) (.tmp 11) rfl w.heap.size 0 #[.int .u16 4, .int .u16 12, .func (.func 58) #[] #[], .int .u16 20, .int .u16 28, .func (.func 59) #[] #[], .int .u16 36, .int .u16 44, .func (.func 60) #[] #[], .int .u16 52, .int .u16 60, .func (.func 61) #[] #[], .int .u16 68, .int .u16 76, .func (.func 62) #[] #[], .int .u16 84, .int .u16 92, .func (.func 63) #[] #[], .int .u16 100, .int .u16 108, .func (.func 64) #[] #[], .int .u16 116, .int .u16 124, .func (.func 65) #[] #[], .int .u16 164, .int .u16 172, .func (.func 66) #[] #[], .int .u16 132, .int .u16 132, .func (.func 67) #[] #[]] rfl rfl HTH.out HIN.out HON.out ?_
       generalize hV : (w.alloc (.cells #[.int .u16 0, .int .u16 0, .nilFunc, .int .u16 0, .int .u16 0, .nilFunc, .int .u16 0, .int .u16 0, .nilFunc, .int .u16 0, .int .u16 0, .nilFunc, .int .u16 0, .int .u16 0, .nilFunc, .int .u16 0, .int .u16 0, .nilFunc, .int .u16 0, .int .u16 0, .nilFunc, .int .u16 0, .int .u16 0, .nilFunc, .int .u16 0, .int .u16 0, .nilFunc, .int .u16 0, .int .u16 0, .nilFunc] 72)).setCells w.heap.size 0 (#[.int .u16 4, .int .u16 12, .func (.func 58) #[] #[], .int .u16 20, .int .u16 28, .func (.func 59) #[] #[], .int .u16 36, .int .u16 44, .func (.func 60) #[] #[], .int .u16 52, .int .u16 60, .func (.func 61) #[] #[], .int .u16 68, .int .u16 76, .func (.func 62) #[] #[], .int .u16 84, .int .u16 92, .func (.func 63) #[] #[], .int .u16 100, .int .u16 108, .func (.func 64) #[] #[], .int .u16 116, .int .u16 124, .func (.func 65) #[] #[], .int .u16 164, .int .u16 172, .func (.func 66) #[] #[], .int .u16 132, .int .u16 132, .func (.func 67) #[] #[]] : Array Value).toList = V at HRG HBL ⊢
       clear hV))
  have hld := run_loadVar_mid (P := Tryd.prog) V w.heap.size 0 72 (#[.int .u16 4, .int .u16 12, .func (.func 58) #[] #[], .int .u16 20, .int .u16 28, .func (.func 59) #[] #[], .int .u16 36, .int .u16 44, .func (.func 60) #[] #[], .int .u16 52, .int .u16 60, .func (.func 61) #[] #[], .int .u16 68, .int .u16 76, .func (.func 62) #[] #[], .int .u16 84, .int .u16 92, .func (.func 63) #[] #[], .int .u16 100, .int .u16 108, .func (.func 64) #[] #[], .int .u16 116, .int .u16 124, .func (.func 65) #[] #[], .int .u16 164, .int .u16 172, .func (.func 66) #[] #[], .int .u16 132, .int .u16 132, .func (.func 67) #[] #[]] : Array Value).toList _ HRG.out Tryd.underlying72 rfl HIN.out
  exact bodyPost_ret (v := .agg #[.int .u16 4, .int .u16 12, .func (.func 58) #[] #[], .int .u16 20, .int .u16 28, .func (.func 59) #[] #[], .int .u16 36, .int .u16 44, .func (.func 60) #[] #[], .int .u16 52, .int .u16 60, .func (.func 61) #[] #[], .int .u16 68, .int .u16 76, .func (.func 62) #[] #[], .int .u16 84, .int .u16 92, .func (.func 63) #[] #[], .int .u16 100, .int .u16 108, .func (.func 64) #[] #[], .int .u16 116, .int .u16 124, .func (.func 65) #[] #[], .int .u16 164, .int .u16 172, .func (.func 66) #[] #[], .int .u16 132, .int .u16 132, .func (.func 67) #[] #[]]) (results_row Tryd.results47 rfl hld) rfl ⟨rfl, HBL.out⟩
end Go.Proofs.YtohfampfnhfnlaaDoor
namespace Go.Proofs.YtohfampfnhfnlaaDoor
open Go.RowKit
set_option linter.unusedVariables false
attribute [local go_sem ↓] Go.wp_at_zero Go.wp_at_succ

set_option maxRecDepth 100000 in
set_option maxHeartbeats 16000000 in
theorem newMachine_any (d : Dat) (w : World) : Calls Tryd.prog 27 #[datV d] w fun e w' => ∃ M, e = .returned (.pointer (some ⟨M, 0, none⟩)) ∧ w.heap.size ≤ M ∧ ML w' M 0 0 (fun _ => 0) d 0 false 0 ∧ Below w.heap.size w w' := by
  have HO := Lib.hid (fun W => operations_any W)
  have HC := Lib.hid (fun W => comparisons_any W)
  have X0 : Hid (BoxD (w.alloc (.cells (datC d) 43)).drew w.heap.size d) := Lib.hid (show BoxD (w.alloc (.cells (datC d) 43)) w.heap.size d from BoxD.new w d)
  have B0 : Below w.heap.size w (w.alloc (.cells (datC d) 43)).drew := ((Below.refl _ _).alloc (Nat.le_refl _) _).drew
  unfold datV
  unfold datC at X0 B0 ⊢
  go_enter Tryd.func27, Tryd.ntmps27
  go_wp2_with fail
  refine wp_region_any (by kernel_rfl) ?_
  change wpAny _ _ _ _ _ _ _ (World.drew _)
  refine wpAny_ready (rs := [0, 1]) (by kernel_rfl) (by simp) ?_
  refine (AllReady.cons rfl (fun K hK => ?_) (AllReady.cons rfl (fun K hK => ?_) AllReady.nil))
  · obtain ⟨y0, y1, y2, y3, y4, y5, y6, y7, y8⟩ := X0.out.cells
    go_simp
    refine hK _ _ ?_
    clear hK K y0 y1 y2 y3 y4 y5 y6 y7 y8
    refine wpAny_ready (rs := [1]) (by kernel_rfl) (by simp) ?_
    refine (AllReady.cons rfl (fun K hK => ?_) AllReady.nil)
    · go_simp
      refine (HO.out _).mono ?_
      rintro e w1 ⟨rfl, b1⟩
      have X1 := Lib.hid (BoxD.on X0.out b1)
      have B1 := thn B0 b1
      refine hK _ _ ?_
      clear hK K b1
      refine wpAny_ready (rs := [2]) (by kernel_rfl) (by simp) ?_
      refine (AllReady.cons rfl (fun K hK => ?_) AllReady.nil)
      · go_simp
        refine (HC.out _).mono ?_
        rintro e w2 ⟨rfl, b2⟩
        have X2 := Lib.hid (BoxD.on X1.out b2)
        have B2 := thn B1 b2
        refine hK _ _ ?_
        clear hK K b2
        refine wpAny_take (i := 3) (v := .agg #[.int .u32 0, .int .u32 0, .int .u32 0, .int .u32 0, .int .u32 0, .int .u32 0, .int .u32 0, .int .u32 0, .int .u32 0, .int .u32 0, .int .u32 0, .int .u32 0, .int .u32 0, .int .u32 0, .int .u32 0, .int .u32 0, .int .u32 0, .int .u32 0, .int .u32 d.nr, .int .u32 d.arch, .int .u64 d.ip, .int .u64 d.a0, .int .u64 d.a1, .int .u64 d.a2, .int .u64 d.a3, .int .u64 d.a4, .int .u64 d.a5, .int .u16 4, .int .u16 12, .func (.func 58) #[] #[], .int .u16 20, .int .u16 28, .func (.func 59) #[] #[], .int .u16 36, .int .u16 44, .func (.func 60) #[] #[], .int .u16 52, .int .u16 60, .func (.func 61) #[] #[], .int .u16 68, .int .u16 76, .func (.func 62) #[] #[], .int .u16 84, .int .u16 92, .func (.func 63) #[] #[], .int .u16 100, .int .u16 108, .func (.func 64) #[] #[], .int .u16 116, .int .u16 124, .func (.func 65) #[] #[], .int .u16 164, .int .u16 172, .func (.func 66) #[] #[], .int .u16 132, .int .u16 132, .func (.func 67) #[] #[], .int .u16 21, .int .u16 29, .func (.func 68) #[] #[], .int .u16 37, .int .u16 45, .func (.func 69) #[] #[], .int .u16 53, .int .u16 61, .func (.func 70) #[] #[], .int .u16 69, .int .u16 77, .func (.func 71) #[] #[], .int .i64 0, .bool false, .int .u32 0]) rfl (by kernel_rfl) (by kernel_rfl) (by kernel_rfl) (fun _ _ _ h => h) (Or.inl ⟨by rfl, fun w => by kernel_rfl⟩) ?_
        refine wpAny_ready (rs := [4]) (by kernel_rfl) (by simp) ?_
        refine AllReady.cons rfl (fun K hK => ?_) AllReady.nil
        go_simp
        refine hK _ _ ?_
        clear hK K
        refine wpAny_ready (rs := [5]) (by kernel_rfl) (by simp) ?_
        refine AllReady.cons rfl (fun K hK => ?_) AllReady.nil
        go_simp
        refine hK _ _ ?_
        clear hK K
        refine wpAny_done (by kernel_rfl) ?_ _
        go_wp2
        go_ret
        exact ⟨w2.heap.size, rfl, B2.size, heap_alloc_new w2 _, B2.alloc B2.size _⟩
  · go_simp
    refine (HO.out _).mono ?_
    rintro e w3 ⟨rfl, b3⟩
    have X3 := Lib.hid (BoxD.on X0.out b3)
    have B3 := thn B0 b3
    refine hK _ _ ?_
    clear hK K b3
    refine wpAny_ready (rs := [0, 2]) (by kernel_rfl) (by simp) ?_
    refine (AllReady.cons rfl (fun K hK => ?_) (AllReady.cons rfl (fun K hK => ?_) AllReady.nil))
    · obtain ⟨y0, y1, y2, y3, y4, y5, y6, y7, y8⟩ := X3.out.cells
      go_simp
      refine hK _ _ ?_
      clear hK K y0 y1 y2 y3 y4 y5 y6 y7 y8
      refine wpAny_ready (rs := [2]) (by kernel_rfl) (by simp) ?_
      refine (AllReady.cons rfl (fun K hK => ?_) AllReady.nil)
      · go_simp
        refine (HC.out _).mono ?_
        rintro e w5 ⟨rfl, b5⟩
        have X5 := Lib.hid (BoxD.on X3.out b5)
        have B5 := thn B3 b5
        refine hK _ _ ?_
        clear hK K b5
        refine wpAny_take (i := 3) (v := .agg #[.int .u32 0, .int .u32 0, .int .u32 0, .int .u32 0, .int .u32 0, .int .u32 0, .int .u32 0, .int .u32 0, .int .u32 0, .int .u32 0, .int .u32 0, .int .u32 0, .int .u32 0, .int .u32 0, .int .u32 0, .int .u32 0, .int .u32 0, .int .u32 0, .int .u32 d.nr, .int .u32 d.arch, .int .u64 d.ip, .int .u64 d.a0, .int .u64 d.a1, .int .u64 d.a2, .int .u64 d.a3, .int .u64 d.a4, .int .u64 d.a5, .int .u16 4, .int .u16 12, .func (.func 58) #[] #[], .int .u16 20, .int .u16 28, .func (.func 59) #[] #[], .int .u16 36, .int .u16 44, .func (.func 60) #[] #[], .int .u16 52, .int .u16 60, .func (.func 61) #[] #[], .int .u16 68, .int .u16 76, .func (.func 62) #[] #[], .int .u16 84, .int .u16 92, .func (.func 63) #[] #[], .int .u16 100, .int .u16 108, .func (.func 64) #[] #[], .int .u16 116, .int .u16 124, .func (.func 65) #[] #[], .int .u16 164, .int .u16 172, .func (.func 66) #[] #[], .int .u16 132, .int .u16 132, .func (.func 67) #[] #[], .int .u16 21, .int .u16 29, .func (.func 68) #[] #[], .int .u16 37, .int .u16 45, .func (.func 69) #[] #[], .int .u16 53, .int .u16 61, .func (.func 70) #[] #[], .int .u16 69, .int .u16 77, .func (.func 71) #[] #[], .int .i64 0, .bool false, .int .u32 0]) rfl (by kernel_rfl) (by kernel_rfl) (by kernel_rfl) (fun _ _ _ h => h) (Or.inl ⟨by rfl, fun w => by kernel_rfl⟩) ?_
        refine wpAny_ready (rs := [4]) (by kernel_rfl) (by simp) ?_
        refine AllReady.cons rfl (fun K hK => ?_) AllReady.nil
        go_simp
        refine hK _ _ ?_
        clear hK K
        refine wpAny_ready (rs := [5]) (by kernel_rfl) (by simp) ?_
        refine AllReady.cons rfl (fun K hK => ?_) AllReady.nil
        go_simp
        refine hK _ _ ?_
        clear hK K
        refine wpAny_done (by kernel_rfl) ?_ _
        go_wp2
        go_ret
        exact ⟨w5.heap.size, rfl, B5.size, heap_alloc_new w5 _, B5.alloc B5.size _⟩
    · go_simp
      refine (HC.out _).mono ?_
      rintro e w6 ⟨rfl, b6⟩
      have X6 := Lib.hid (BoxD.on X3.out b6)
      have B6 := thn B3 b6
      refine hK _ _ ?_
      clear hK K b6
      refine wpAny_ready (rs := [0]) (by kernel_rfl) (by simp) ?_
      refine (AllReady.cons rfl (fun K hK => ?_) AllReady.nil)
      · obtain ⟨y0, y1, y2, y3, y4, y5, y6, y7, y8⟩ := X6.out.cells
        go_simp
        refine hK _ _ ?_
        clear hK K y0 y1 y2 y3 y4 y5 y6 y7 y8
        refine wpAny_take (i := 3) (v := .agg #[.int .u32 0, .int .u32 0, .int .u32 0, .int .u32 0, .int .u32 0, .int .u32 0, .int .u32 0, .int .u32 0, .int .u32 0, .int .u32 0, .int .u32 0, .int .u32 0, .int .u32 0, .int .u32 0, .int .u32 0, .int .u32 0, .int .u32 0, .int .u32 0, .int .u32 d.nr, .int .u32 d.arch, .int .u64 d.ip, .int .u64 d.a0, .int .u64 d.a1, .int .u64 d.a2, .int .u64 d.a3, .int .u64 d.a4, .int .u64 d.a5, .int .u16 4, .int .u16 12, .func (.func 58) #[] #[], .int .u16 20, .int .u16 28, .func (.func 59) #[] #[], .int .u16 36, .int .u16 44, .func (.func 60) #[] #[], .int .u16 52, .int .u16 60, .func (.func 61) #[] #[], .int .u16 68, .int .u16 76, .func (.func 62) #[] #[], .int .u16 84, .int .u16 92, .func (.func 63) #[] #[], .int .u16 100, .int .u16 108, .func (.func 64) #[] #[], .int .u16 116, .int .u16 124, .func (.func 65) #[] #[], .int .u16 164, .int .u16 172, .func (.func 66) #[] #[], .int .u16 132, .int .u16 132, .func (.func 67) #[] #[], .int .u16 21, .int .u16 29, .func (.func 68) #[] #[], .int .u16 37, .int .u16 45, .func (.func 69) #[] #[], .int .u16 53, .int .u16 61, .func (.func 70) #[] #[], .int .u16 69, .int .u16 77, .func (.func 71) #[] #[], .int .i64 0, .bool false, .int .u32 0]) rfl (by kernel_rfl) (by kernel_rfl) (by kernel_rfl) (fun _ _ _ h => h) (Or.inl ⟨by rfl, fun w => by kernel_rfl⟩) ?_
        refine wpAny_ready (rs := [4]) (by kernel_rfl) (by simp) ?_
        refine AllReady.cons rfl (fun K hK => ?_) AllReady.nil
        go_simp
        refine hK _ _ ?_
        clear hK K
        refine wpAny_ready (rs := [5]) (by kernel_rfl) (by simp) ?_
        refine AllReady.cons rfl (fun K hK => ?_) AllReady.nil
        go_simp
        refine hK _ _ ?_
        clear hK K
        refine wpAny_done (by kernel_rfl) ?_ _
        go_wp2
        go_ret
        exact ⟨w6.heap.size, rfl, B6.size, heap_alloc_new w6 _, B6.alloc B6.size _⟩
end Go.Proofs.YtohfampfnhfnlaaDoor
namespace Go.Proofs.YtohfampfnhfnlaaDoor
open Go.RowKit
set_option linter.unusedVariables false
attribute [local go_sem ↓] Go.wp_at_zero Go.wp_at_succ

theorem visit_none (k : Int) (w : World) : Calls Tryd.prog 29 #[.int .i64 k] w fun e w' => e = .returned (.tuple #[]) ∧ w = w' := by
  go_enter Tryd.func29, Tryd.ntmps29
  go_wp2
  go_end0
  exact ⟨rfl, rfl⟩
set_option maxRecDepth 100000 in
set_option maxHeartbeats 8000000 in
theorem lRun (a0 : Option Addr) (len cap : Nat) (p : List Ins) (d : Dat) (w : World) (hG : GW w) (hl : p.length = len) (hn : len ≤ 1000) (hp : OkL p) (hd : d.Ok) (hr : RdI w w.heap.size a0 p) :
    Calls Tryd.prog 18 #[.slice a0 len cap, datV d] w (RunV (runL p d) w) := by
  obtain ⟨W0, hW0⟩ : ∃ W, W = w.alloc (.cells (datC d) 43) := ⟨_, rfl⟩
  have HN := Lib.hid (newMachine_any d W0)
  have HR := Lib.hid (fun (M : Nat) (W : World) (hm : ML W M 0 0 (fun _ => 0) d 0 false 0) (hM : W0.heap.size ≤ M) (hb : Below W0.heap.size W0 W) =>
    run_plain (fun _ _ => True) none w.heap.size a0 len cap p d M W hl hn hp hd
      ((hr.alloc (Nat.le_refl _) (.cells (datC d) 43)).keep fun q hq => by rw [← hW0]; exact hb.cell (by rw [hW0, World.size_alloc]; omega))
      hm ((hG.alloc (.cells (datC d) 43)).on (by rw [← hW0]; exact hb)) ⟨by have := hb.size; rw [hW0, World.size_alloc] at this; omega, by rw [hW0, World.size_alloc] at hM; omega, (fun j h => by cases h), hG.lt, hm.lt⟩ trivial
      (fun pl k W' _ _ _ _ => (visit_none k W').mono fun e w' h => ⟨h.1, trivial, by rw [← h.2]; exact Kp.refl _ _⟩) (fun _ _ _ _ _ _ _ => trivial))
  have HB := Lib.hid (show Below w.heap.size w W0 by rw [hW0]; exact (Below.refl _ _).alloc (Nat.le_refl _) _)
  have X0 := Lib.hid (show BoxD W0 w.heap.size d by rw [hW0]; exact BoxD.new w d)
  have hML : w.heap.size < W0.heap.size := X0.out.lt
  clear hG hl hn hp hd hr
  subst hW0
  unfold datV datC at *
  go_enter Tryd.func18, Tryd.ntmps18
  go_wp2_with (first
    | (go_at_call 27; ((with_reducible refine (HN.out).mono ?_); rintro e w1 ⟨M, rfl, hM, hm, b1⟩); have HM := Lib.hid hm; have HK := Lib.hid (And.intro hM b1); clear hm hM b1)
    | (go_at_call 28; ((with_reducible refine (HR.out M w1 HM.out HK.out.1 HK.out.2).mono ?_); rintro e w2 ⟨rfl, ⟨a, x, c, ov, hm2⟩, _, k2⟩); have p69 := hm2.cell 69 _ rfl; have p71 := hm2.cell 71 _ rfl; have pl2 := hm2.lt; clear hm2))
  go_region
  go_wp2
  go_ret3
  have h1 : Below w.heap.size w w1 := HB.out.trans (HK.out.2.mono (by omega))
  have h2 : Below w.heap.size w1 w2 := k2.below fun k hk => ⟨by have := h1.size; omega, (fun e => by cases e), by have := HK.out.1; omega⟩
  exact ⟨rfl, (h1.trans h2).drew⟩
/-- Block b holds the places so far, which lie in a block of their own. -/
def Pls (N b : Nat) (pl : List Nat) (W : World) : Prop := ∃ v, W.heap[b]? = some (.cells #[v] 48 (0, 0)) ∧ W.ownsRow N 3 1 v pl.length (plV pl)
set_option maxRecDepth 100000 in
set_option maxHeartbeats 4000000 in
theorem visit_some (N b k : Nat) (pl : List Nat) (W : World) (hv : Pls N b pl W) (hN : N ≤ W.heap.size) (hb : b < N) (hm : pl.length ≤ 1000) : Calls Tryd.prog 30 #[.int .i64 k, .pointer (some ⟨b, 0, none⟩)] W fun e w' => e = .returned (.tuple #[]) ∧ Pls N b (pl ++ [k]) w' ∧ Kp (fun j => j < N ∧ j ≠ b) W w' := by
  obtain ⟨i0, hi, hz0, hz1, hz2⟩ := info_parts int_info
  have HI := Lib.hid hi
  have H0 := Lib.hid hz0
  have H1 := Lib.hid hz1
  have H2 := Lib.hid hz2
  obtain ⟨v, hB, hown⟩ := hv
  obtain ⟨m, hmm⟩ : ∃ m, m = pl.length := ⟨_, rfl⟩
  rw [← hmm] at hown hm
  have HM := Lib.hid hmm
  have HOW := Lib.hid hown
  have HB := Lib.hid hB
  have p0 : W.cell? ⟨b, 0, none⟩ = some v := by rw [cell_of_row W b 0 _ _ (0, 0) hB]; rfl
  have hc1 : m + 1 ≤ maxLen := by unfold maxLen; omega
  have hc2 : (m + 1) * 8 ≤ 140737488355328 := by omega
  have hc3 : N ≤ (W.alloc (.cells #[.int .i64 (k : Int)] 3)).heap.size := by rw [World.size_alloc]; omega
  have hla : ∀ g, Value.ownBlock v = some g → N ≤ g := fun g hg => (hown.lt g hg).1
  clear hi hz0 hz1 hz2 hB hown hmm
  go_enter Tryd.func30, Tryd.ntmps30
  go_wp2_with (first
    | (at_builtin
       refine wpList_append_own _ rfl (.tmp 3) (.tmp 5) 48 rfl N 3 i0 _ 1 8 Tryd.underlying48 HI.out H0.out H1.out H2.out rfl Nat.one_pos v m (plV pl) rfl (HOW.out.alloc _) ⟨W.heap.size, 0, none⟩ 1 1 [.int .i64 (k : Int)] rfl rfl (news_lit W _ _ _ rfl) (plV_one [k]) hc1 hc2 hc3 ?_
       intro v4 w4 o4 hg4 _
       have b4 : Below N W w4 := ((Below.refl _ _).alloc (by omega) _).grown hg4 hc3 hla
       have HB4 := Lib.hid ((b4.block b hb).trans HB.out)
       have HO4 := Lib.hid o4
       obtain ⟨q4, c4, rfl⟩ := own_form HO4.out
       have p4 : w4.cell? ⟨b, 0, none⟩ = some v := by rw [cell_of_row w4 b 0 _ _ (0, 0) HB4.out]; rfl
       have f4 : w4.frozen? ⟨b, 0, none⟩ = false := frozen_of_row w4 b 0 _ _ HB4.out
       clear o4 hg4))
  go_end0
  refine ⟨rfl, ⟨.slice q4 (m + 1) c4, ?_, ?_⟩, ?_⟩
  · have := heap_setCell_same w4 b 0 _ _ (.slice q4 (m + 1) c4) HB4.out
    rw [this]; rfl
  · have h := own_but HO4.out (of_set w4 b 0 (.slice q4 (m + 1) c4)) hb
    rw [plV_snoc, List.length_append, ← HM.out]
    exact h
  · exact (Kp.of_below b4 fun j hj => hj.1).trans (Kp.of_grown (of_set w4 b 0 _) fun j hj => ⟨by have := b4.size; omega, hj.2⟩)
theorem pls_cell {W : World} {b : Nat} {v : Value} (h : W.heap[b]? = some (.cells #[v] 48 (0, 0))) : W.cell? ⟨b, 0, none⟩ = some v := by
  rw [cell_of_row W b 0 _ _ (0, 0) h]; rfl
theorem Pls.stay {N b : Nat} {pl : List Nat} {W W' : World} {j : Nat} (h : Pls N b pl W) (hb : b < W.heap.size) (hj : j < N) (hne : j ≠ b) (hg : W.grownBy W' (some j)) : Pls N b pl W' := by
  obtain ⟨v, h1, h2⟩ := h
  exact ⟨v, (hg.block b hb (fun e => hne (by injection e with e; exact e.symm))).trans h1, own_but h2 hg hj⟩
theorem Pls.at {N b : Nat} {pl : List Nat} {W : World} (h : Pls N b pl W) : b < W.heap.size := by obtain ⟨v, h1, _⟩ := h; exact lt_of_block h1
set_option maxRecDepth 100000 in
set_option maxHeartbeats 8000000 in
theorem lTrace (a0 : Option Addr) (len cap : Nat) (p : List Ins) (d : Dat) (w : World) (hG : GW w) (hl : p.length = len) (hn : len ≤ 1000) (hp : OkL p) (hd : d.Ok) (hr : RdI w w.heap.size a0 p) :
    Calls Tryd.prog 19 #[.slice a0 len cap, datV d] w (TraceV (runL p d) w) := by
  obtain ⟨W0, hW0⟩ : ∃ W, W = (w.alloc (.cells (datC d) 43)).alloc (.cells #[.slice none 0 0] 48) := ⟨_, rfl⟩
  have hsz : W0.heap.size = w.heap.size + 2 := by rw [hW0, World.size_alloc, World.size_alloc]
  have hL0 : W0.heap[w.heap.size + 1]? = some (.cells #[.slice none 0 0] 48 (0, 0)) := by
    have := heap_alloc_new (w.alloc (.cells (datC d) 43)) (.cells #[.slice none 0 0] 48)
    rw [World.size_alloc] at this
    rw [hW0]; exact this
  have hB0 : Below w.heap.size w W0 := by rw [hW0]; exact ((Below.refl _ _).alloc (Nat.le_refl _) _).alloc (by simp) _
  have HN := Lib.hid (newMachine_any d W0)
  have HR := Lib.hid (fun (M : Nat) (W : World) (hm : ML W M 0 0 (fun _ => 0) d 0 false 0) (hM : W0.heap.size ≤ M) (hb : Below W0.heap.size W0 W) =>
    run_trace (w.heap.size + 1) (Pls (W.heap.size + 1) (w.heap.size + 1)) (some (w.heap.size + 1)) w.heap.size a0 len cap p d M W hl hn hp hd
      (hr.keep fun q hq => ((hb.cell (by omega)).trans (hB0.cell hq)))
      hm ((hG.on hB0).on hb) ⟨by have := hb.size; omega, by omega, (fun j h => by injection h with h; have := hb.size; omega), hG.lt, hm.lt⟩
      ⟨.slice none 0 0, by
        have e := hb.block (w.heap.size + 1) (by omega)
        rw [Below.heap_alloc W _ _ (by have := hb.size; omega)]; exact e.trans hL0, World.ownsRow_nil _ _ _ _⟩
      (fun pl k W' hv hl1 hk hs => (visit_some (W.heap.size + 1) (w.heap.size + 1) k pl W' hv hs (by have := hb.size; omega) hl1).mono fun e w' h => ⟨h.1, h.2.1, h.2.2.imp fun j hj => ⟨hj.1, fun e => hj.2 (by rw [e])⟩⟩)
      (fun pl W1 W2 j hv hj hg => hv.stay hv.at (by have := hm.lt; rcases hj with rfl | rfl <;> omega) (by have := hb.size; rcases hj with rfl | rfl <;> omega) hg))
  have HB := Lib.hid hB0
  have HZ := Lib.hid hsz
  have X0 := Lib.hid (show BoxD W0 w.heap.size d by rw [hW0]; exact (BoxD.new w d).alloc _)
  clear hG hl hn hp hd hr hL0 hB0 hsz
  obtain ⟨y0, y1, y2, y3, y4, y5, y6, y7, y8⟩ := X0.out.cells
  clear X0
  subst hW0
  unfold datV datC at *
  go_enter Tryd.func19, Tryd.ntmps19
  go_wp2_with (first
    | (go_at_call 27; ((with_reducible refine (HN.out).mono ?_); rintro e w1 ⟨M, rfl, hM, hm, b1⟩); have HM := Lib.hid hm; have HK := Lib.hid (And.intro hM b1); clear hm hM b1)
    | (go_at_call 28; (with_reducible refine (HR.out M w1 HM.out HK.out.1 HK.out.2).mono ?_); (rintro e w2 ⟨rfl, _, ⟨v, hv1, hv2⟩, k2⟩); have HV1 := Lib.hid hv1; have HV2 := Lib.hid hv2; have HK2 := Lib.hid k2; (have p2 : w2.cell? ⟨w.heap.size + 1, 0, none⟩ = some v := pls_cell HV1.out); clear hv1 hv2 k2))
  go_ret
  have h1 : Below w.heap.size w w1 := HB.out.trans (HK.out.2.mono (by have := HZ.out; omega))
  have h2 : Below w.heap.size w1 w2 := HK2.out.below fun k hk => ⟨by have := h1.size; omega, (fun e => by injection e with e; omega), by have := HK.out.1; have := HZ.out; omega⟩
  obtain ⟨q, c, hq⟩ := own_form HV2.out
  subst hq
  exact ⟨q, c, rfl, own_mono HV2.out (by have := h1.size; omega), h1.trans h2⟩
/-- All that the statements ask of the landed calls. -/
theorem vmC : VmC GW := ⟨fun h b => h.on b, fun a0 len cap p d w hG hl hn hp hd _ _ _ hr => lRun a0 len cap p d w hG hl hn hp hd hr, fun a0 len cap p d w hG hl hn hp hd _ _ _ hr => lTrace a0 len cap p d w hG hl hn hp hd hr⟩
end Go.Proofs.YtohfampfnhfnlaaDoor
