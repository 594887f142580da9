/- The landed calls.Known: is a name one of the table. No condition. -/
import Derived.Test.YtanifiobfbfehaaGreatDoorCa
import Derived.Deep.MidRow
import Derived.Deep.QuietTactic
import Derived.BigQuiet
import Derived.Laws.BitsAllLaws
import Derived.WalkSmall
namespace Go.Proofs.YtanifiobfbfehaaGreatDoor
open Go.RowKit
set_option linter.unusedVariables false
attribute [local go_sem ↓] Go.wp_at_zero Go.wp_at_succ

theorem first_some {p : Nat → Bool} : ∀ {n j : Nat}, firstT p n = some j → j < n ∧ p j = true
  | n + 1, j, h => by
    unfold firstT at h
    cases hf : firstT p n with
    | some i =>
      rw [hf] at h
      obtain rfl : i = j := Option.some.inj h
      have := first_some hf
      exact ⟨by omega, this.2⟩
    | none =>
      rw [hf] at h
      by_cases hp : p n = true
      · simp only [hp, if_true] at h
        obtain rfl : n = j := Option.some.inj h
        exact ⟨by omega, hp⟩
      · simp only [hp] at h
        cases h
/-- A row's numbers, as the table holds them, and its cells. -/
def nrL (j : Nat) : List Value := (callR.getD j []).map fun x => Value.int .i16 (if 1073741824 ≤ x then x - 1073741824 else x)
def rL (j : Nat) : List Value := .string (nmT j) :: nrL j
def tabL9 : List Value := (List.range 40).flatMap rL
def tabV9 : Array Value := tabL9.toArray
def zeroL9 : List Value := (List.range 40).flatMap fun _ => [.string ⟨#[]⟩, .int .i16 0, .int .i16 0, .int .i16 0, .int .i16 0, .int .i16 0, .int .i16 0]
def Z9 : Array Value := zeroL9.toArray
theorem wpList_val9 {ops : Array Oper} {rest : List Oper} {op : Oper} {a : Act} {w : World} {Q : Exit → Act → World → Prop} (hgd : op.guard = none) (v : Value) (hr : (execOp a.eval op).run Tryz.prog w = .ok (.value v) w)
    (h : wpList Tryz.prog ops Q rest (a.put op.dst v) w) : wpList Tryz.prog ops Q (op :: rest) a w :=
  wpList_plain hgd fun _ hK => by unfold Oper.wp; rw [hr]; exact hK _ _ h
theorem wpList_new9 {ops : Array Oper} {rest : List Oper} {op : Oper} {a : Act} {w : World} {Q : Exit → Act → World → Prop} (hgd : op.guard = none) (hr : (execOp a.eval op).run Tryz.prog w = .ok (.value (.pointer (some ⟨w.heap.size, 0, none⟩))) (w.alloc (.cells Z9 193)))
    (h : wpList Tryz.prog ops Q rest (a.put op.dst (.pointer (some ⟨w.heap.size, 0, none⟩))) (w.alloc (.cells Z9 193))) : wpList Tryz.prog ops Q (op :: rest) a w :=
  wpList_plain hgd fun _ hK => by unfold Oper.wp; rw [hr]; exact hK _ _ h
theorem results_row9 {fn : Func} {tmps : Array Value} {w : World} {t : Nat} {ty : TypeId} {p : Addr} {v : Value} (hr : fn.results = #[.cell t ty]) (ha : tmps.getD t undef = .pointer (some p)) (hl : (loadVar ty p).run Tryz.prog w = .ok v w) : (results fn tmps).run Tryz.prog w = .ok v w := by
  have ha' : tmps[t]?.getD undef = .pointer (some p) := by simpa using ha
  simp [results, hr, asAddr, ha', hl]
theorem below_setCells9 {w0 : World} {b : Nat} (hb : w0.heap.size ≤ b) : ∀ (vs : List Value) (o : Nat) (w : World), Below w0.heap.size w0 w → Below w0.heap.size w0 (w.setCells b o vs)
  | [], o, w, h => h
  | v :: vs, o, w, h => below_setCells9 hb vs (o + 1) (w.setCell ⟨b, o, none⟩ v) (h.setCell hb v)
theorem Z9_some : ∀ j, j < 280 → (Z9[j]?).isSome = true := fun j hj => by
  have h : Z9.size = 280 := by kernel_rfl
  rw [Array.getElem?_eq_getElem (by omega)]; rfl
theorem Z9_there (W : World) : (W.alloc (.cells Z9 193)).there W.heap.size 0 280 := fun j hj => by
  refine ⟨?_, frozen_of_row _ _ _ _ _ (heap_alloc_new W _)⟩
  rw [cell_of_row _ _ (0 + j) _ _ (0, 0) (heap_alloc_new W _), Nat.zero_add]
  exact Z9_some j hj
set_option maxRecDepth 100000 in
set_option maxHeartbeats 32000000 in
theorem table9 (w : World) : Calls Tryz.prog 128 #[] w fun e w' => e = .returned (.agg tabV9) ∧ Below w.heap.size w w' := by
  have hsz : tabV9.size = 280 := by kernel_rfl
  have hth : (w.alloc (.cells Z9 193)).there w.heap.size 0 tabV9.size := by rw [hsz]; exact Z9_there w
  have hinf : (Tryz.prog.info? 193).map (·.size) = some tabV9.size := by kernel_rfl
  have hone : tabV9.all (·.oneCell') = true := by kernel_rfl
  have hrg := World.rangeAt_setCells_same (w.alloc (.cells Z9 193)) w.heap.size 0 tabV9.toList hth
  have hBl : Below w.heap.size w ((w.alloc (.cells Z9 193)).setCells w.heap.size 0 tabV9.toList) := below_setCells9 (Nat.le_refl _) _ _ _ ((Below.refl _ _).alloc (Nat.le_refl _) _)
  have HTH := Lib.hid hth
  have HIN := Lib.hid hinf
  have HON := Lib.hid hone
  have HRG := Lib.hid hrg
  have HBL := Lib.hid hBl
  clear hth hinf hone hrg hBl
  go_enter Tryz.func128, Tryz.ntmps128
  go_upto_region 0 with fail
  refine wp_region_lit ?_
  refine wpList_new9 rfl (by kernel_rfl) ?_
  refine wpList_nil ?_
  go_upto_region 1 with fail
  refine wp_region_lit ?_
  refine wpList_val9 rfl (.agg (nrL 0).toArray) (by kernel_rfl) ?_
  refine wpList_val9 rfl (.agg (rL 0).toArray) (by kernel_rfl) ?_
  refine wpList_val9 rfl (.agg (nrL 1).toArray) (by kernel_rfl) ?_
  refine wpList_val9 rfl (.agg (rL 1).toArray) (by kernel_rfl) ?_
  refine wpList_val9 rfl (.agg (nrL 2).toArray) (by kernel_rfl) ?_
  refine wpList_val9 rfl (.agg (rL 2).toArray) (by kernel_rfl) ?_
  refine wpList_val9 rfl (.agg (nrL 3).toArray) (by kernel_rfl) ?_
  refine wpList_val9 rfl (.agg (rL 3).toArray) (by kernel_rfl) ?_
  refine wpList_val9 rfl (.agg (nrL 4).toArray) (by kernel_rfl) ?_
  refine wpList_val9 rfl (.agg (rL 4).toArray) (by kernel_rfl) ?_
  refine wpList_val9 rfl (.agg (nrL 5).toArray) (by kernel_rfl) ?_
  refine wpList_val9 rfl (.agg (rL 5).toArray) (by kernel_rfl) ?_
  refine wpList_val9 rfl (.agg (nrL 6).toArray) (by kernel_rfl) ?_
  refine wpList_val9 rfl (.agg (rL 6).toArray) (by kernel_rfl) ?_
  refine wpList_val9 rfl (.agg (nrL 7).toArray) (by kernel_rfl) ?_
  refine wpList_val9 rfl (.agg (rL 7).toArray) (by kernel_rfl) ?_
  refine wpList_val9 rfl (.agg (nrL 8).toArray) (by kernel_rfl) ?_
  refine wpList_val9 rfl (.agg (rL 8).toArray) (by kernel_rfl) ?_
  refine wpList_val9 rfl (.agg (nrL 9).toArray) (by kernel_rfl) ?_
  refine wpList_val9 rfl (.agg (rL 9).toArray) (by kernel_rfl) ?_
  refine wpList_val9 rfl (.agg (nrL 10).toArray) (by kernel_rfl) ?_
  refine wpList_val9 rfl (.agg (rL 10).toArray) (by kernel_rfl) ?_
  refine wpList_val9 rfl (.agg (nrL 11).toArray) (by kernel_rfl) ?_
  refine wpList_val9 rfl (.agg (rL 11).toArray) (by kernel_rfl) ?_
  refine wpList_val9 rfl (.agg (nrL 12).toArray) (by kernel_rfl) ?_
  refine wpList_val9 rfl (.agg (rL 12).toArray) (by kernel_rfl) ?_
  refine wpList_val9 rfl (.agg (nrL 13).toArray) (by kernel_rfl) ?_
  refine wpList_val9 rfl (.agg (rL 13).toArray) (by kernel_rfl) ?_
  refine wpList_val9 rfl (.agg (nrL 14).toArray) (by kernel_rfl) ?_
  refine wpList_val9 rfl (.agg (rL 14).toArray) (by kernel_rfl) ?_
  refine wpList_val9 rfl (.agg (nrL 15).toArray) (by kernel_rfl) ?_
  refine wpList_val9 rfl (.agg (rL 15).toArray) (by kernel_rfl) ?_
  refine wpList_val9 rfl (.agg (nrL 16).toArray) (by kernel_rfl) ?_
  refine wpList_val9 rfl (.agg (rL 16).toArray) (by kernel_rfl) ?_
  refine wpList_val9 rfl (.agg (nrL 17).toArray) (by kernel_rfl) ?_
  refine wpList_val9 rfl (.agg (rL 17).toArray) (by kernel_rfl) ?_
  refine wpList_val9 rfl (.agg (nrL 18).toArray) (by kernel_rfl) ?_
  refine wpList_val9 rfl (.agg (rL 18).toArray) (by kernel_rfl) ?_
  refine wpList_val9 rfl (.agg (nrL 19).toArray) (by kernel_rfl) ?_
  refine wpList_val9 rfl (.agg (rL 19).toArray) (by kernel_rfl) ?_
  refine wpList_val9 rfl (.agg (nrL 20).toArray) (by kernel_rfl) ?_
  refine wpList_val9 rfl (.agg (rL 20).toArray) (by kernel_rfl) ?_
  refine wpList_val9 rfl (.agg (nrL 21).toArray) (by kernel_rfl) ?_
  refine wpList_val9 rfl (.agg (rL 21).toArray) (by kernel_rfl) ?_
  refine wpList_val9 rfl (.agg (nrL 22).toArray) (by kernel_rfl) ?_
  refine wpList_val9 rfl (.agg (rL 22).toArray) (by kernel_rfl) ?_
  refine wpList_val9 rfl (.agg (nrL 23).toArray) (by kernel_rfl) ?_
  refine wpList_val9 rfl (.agg (rL 23).toArray) (by kernel_rfl) ?_
  refine wpList_val9 rfl (.agg (nrL 24).toArray) (by kernel_rfl) ?_
  refine wpList_val9 rfl (.agg (rL 24).toArray) (by kernel_rfl) ?_
  refine wpList_val9 rfl (.agg (nrL 25).toArray) (by kernel_rfl) ?_
  refine wpList_val9 rfl (.agg (rL 25).toArray) (by kernel_rfl) ?_
  refine wpList_val9 rfl (.agg (nrL 26).toArray) (by kernel_rfl) ?_
  refine wpList_val9 rfl (.agg (rL 26).toArray) (by kernel_rfl) ?_
  refine wpList_val9 rfl (.agg (nrL 27).toArray) (by kernel_rfl) ?_
  refine wpList_val9 rfl (.agg (rL 27).toArray) (by kernel_rfl) ?_
  refine wpList_val9 rfl (.agg (nrL 28).toArray) (by kernel_rfl) ?_
  refine wpList_val9 rfl (.agg (rL 28).toArray) (by kernel_rfl) ?_
  refine wpList_val9 rfl (.agg (nrL 29).toArray) (by kernel_rfl) ?_
  refine wpList_val9 rfl (.agg (rL 29).toArray) (by kernel_rfl) ?_
  refine wpList_val9 rfl (.agg (nrL 30).toArray) (by kernel_rfl) ?_
  refine wpList_val9 rfl (.agg (rL 30).toArray) (by kernel_rfl) ?_
  refine wpList_val9 rfl (.agg (nrL 31).toArray) (by kernel_rfl) ?_
  refine wpList_val9 rfl (.agg (rL 31).toArray) (by kernel_rfl) ?_
  refine wpList_val9 rfl (.agg (nrL 32).toArray) (by kernel_rfl) ?_
  refine wpList_val9 rfl (.agg (rL 32).toArray) (by kernel_rfl) ?_
  refine wpList_val9 rfl (.agg (nrL 33).toArray) (by kernel_rfl) ?_
  refine wpList_val9 rfl (.agg (rL 33).toArray) (by kernel_rfl) ?_
  refine wpList_val9 rfl (.agg (nrL 34).toArray) (by kernel_rfl) ?_
  refine wpList_val9 rfl (.agg (rL 34).toArray) (by kernel_rfl) ?_
  refine wpList_val9 rfl (.agg (nrL 35).toArray) (by kernel_rfl) ?_
  refine wpList_val9 rfl (.agg (rL 35).toArray) (by kernel_rfl) ?_
  refine wpList_val9 rfl (.agg (nrL 36).toArray) (by kernel_rfl) ?_
  refine wpList_val9 rfl (.agg (rL 36).toArray) (by kernel_rfl) ?_
  refine wpList_val9 rfl (.agg (nrL 37).toArray) (by kernel_rfl) ?_
  refine wpList_val9 rfl (.agg (rL 37).toArray) (by kernel_rfl) ?_
  refine wpList_val9 rfl (.agg (nrL 38).toArray) (by kernel_rfl) ?_
  refine wpList_val9 rfl (.agg (rL 38).toArray) (by kernel_rfl) ?_
  refine wpList_val9 rfl (.agg (nrL 39).toArray) (by kernel_rfl) ?_
  refine wpList_val9 rfl (.agg (rL 39).toArray) (by kernel_rfl) ?_
  refine wpList_val9 rfl (.agg tabV9) (by kernel_rfl) ?_
  refine wpList_store_mid rfl 193 (.tmp 0) (.tmp 81) rfl w.heap.size 0 tabV9 (by kernel_rfl) (by kernel_rfl) HTH.out HIN.out HON.out ?_
  generalize hV : (w.alloc (.cells Z9 193)).setCells w.heap.size 0 tabV9.toList = V at HRG HBL ⊢
  clear hV
  rename_i K hK
  show K _ _
  refine hK _ _ ?_
  have hld := run_loadVar_mid (P := Tryz.prog) V w.heap.size 0 193 tabV9.toList _ HRG.out Tryz.underlying193 rfl HIN.out
  refine wp_ret ?_
  exact bodyPost_ret (v := .agg tabV9) (results_row9 Tryz.results128 (by kernel_rfl) hld) (by kernel_rfl) ⟨rfl, HBL.out⟩
set_option maxRecDepth 100000 in
theorem run_row9 (k : Nat) (hk : k < 40) (w : World) : (Instr.index 193 (.agg tabV9) (.int .i64 k)).run Tryz.prog w = .ok (.agg (rL k).toArray) w := by
  match k, hk with
  | 0, _ => show _ = _; kernel_rfl
  | 1, _ => show _ = _; kernel_rfl
  | 2, _ => show _ = _; kernel_rfl
  | 3, _ => show _ = _; kernel_rfl
  | 4, _ => show _ = _; kernel_rfl
  | 5, _ => show _ = _; kernel_rfl
  | 6, _ => show _ = _; kernel_rfl
  | 7, _ => show _ = _; kernel_rfl
  | 8, _ => show _ = _; kernel_rfl
  | 9, _ => show _ = _; kernel_rfl
  | 10, _ => show _ = _; kernel_rfl
  | 11, _ => show _ = _; kernel_rfl
  | 12, _ => show _ = _; kernel_rfl
  | 13, _ => show _ = _; kernel_rfl
  | 14, _ => show _ = _; kernel_rfl
  | 15, _ => show _ = _; kernel_rfl
  | 16, _ => show _ = _; kernel_rfl
  | 17, _ => show _ = _; kernel_rfl
  | 18, _ => show _ = _; kernel_rfl
  | 19, _ => show _ = _; kernel_rfl
  | 20, _ => show _ = _; kernel_rfl
  | 21, _ => show _ = _; kernel_rfl
  | 22, _ => show _ = _; kernel_rfl
  | 23, _ => show _ = _; kernel_rfl
  | 24, _ => show _ = _; kernel_rfl
  | 25, _ => show _ = _; kernel_rfl
  | 26, _ => show _ = _; kernel_rfl
  | 27, _ => show _ = _; kernel_rfl
  | 28, _ => show _ = _; kernel_rfl
  | 29, _ => show _ = _; kernel_rfl
  | 30, _ => show _ = _; kernel_rfl
  | 31, _ => show _ = _; kernel_rfl
  | 32, _ => show _ = _; kernel_rfl
  | 33, _ => show _ = _; kernel_rfl
  | 34, _ => show _ = _; kernel_rfl
  | 35, _ => show _ = _; kernel_rfl
  | 36, _ => show _ = _; kernel_rfl
  | 37, _ => show _ = _; kernel_rfl
  | 38, _ => show _ = _; kernel_rfl
  | 39, _ => show _ = _; kernel_rfl
  | k + 40, hk => omega
/-- A row by its place. -/
theorem wpList_row9 {ops : Array Oper} {rest : List Oper} {op : Oper} {a : Act} {w : World} {Q : Exit → Act → World → Prop} (hgd : op.guard = none) (x y : Operand) (ho : op.op = .index 193 x y) (k : Nat) (hk : k < 40)
    (hx : a.eval x = .agg tabV9) (hy : a.eval y = .int .i64 k) (h : wpList Tryz.prog ops Q rest (a.put op.dst (.agg (rL k).toArray)) w) : wpList Tryz.prog ops Q (op :: rest) a w :=
  wpList_plain hgd fun _ hK => by
    unfold Oper.wp execOp
    simp only [ho, hx, hy, Sem.run_bind, Sem.run_pure, Result.andThen_ok, run_row9 k hk w]
    exact hK _ _ h
theorem thn9 {w V W : World} (a : Below w.heap.size w V) (b : Below V.heap.size V W) : Below w.heap.size w W := a.trans (b.mono a.size)
/-- The number that a row holds, as the program keeps it. -/
def mN (j i : Nat) : Int := if 1073741824 ≤ nrT j i then nrT j i - 1073741824 else nrT j i
theorem rL_is : ∀ j, j < 40 → rL j = [.string (nmT j), .int .i16 (mN j 0), .int .i16 (mN j 1), .int .i16 (mN j 2), .int .i16 (mN j 3), .int .i16 (mN j 4), .int .i16 (mN j 5)] := by
  intro j hj
  match j, hj with
  | 0, _ => show _ = _; kernel_rfl
  | 1, _ => show _ = _; kernel_rfl
  | 2, _ => show _ = _; kernel_rfl
  | 3, _ => show _ = _; kernel_rfl
  | 4, _ => show _ = _; kernel_rfl
  | 5, _ => show _ = _; kernel_rfl
  | 6, _ => show _ = _; kernel_rfl
  | 7, _ => show _ = _; kernel_rfl
  | 8, _ => show _ = _; kernel_rfl
  | 9, _ => show _ = _; kernel_rfl
  | 10, _ => show _ = _; kernel_rfl
  | 11, _ => show _ = _; kernel_rfl
  | 12, _ => show _ = _; kernel_rfl
  | 13, _ => show _ = _; kernel_rfl
  | 14, _ => show _ = _; kernel_rfl
  | 15, _ => show _ = _; kernel_rfl
  | 16, _ => show _ = _; kernel_rfl
  | 17, _ => show _ = _; kernel_rfl
  | 18, _ => show _ = _; kernel_rfl
  | 19, _ => show _ = _; kernel_rfl
  | 20, _ => show _ = _; kernel_rfl
  | 21, _ => show _ = _; kernel_rfl
  | 22, _ => show _ = _; kernel_rfl
  | 23, _ => show _ = _; kernel_rfl
  | 24, _ => show _ = _; kernel_rfl
  | 25, _ => show _ = _; kernel_rfl
  | 26, _ => show _ = _; kernel_rfl
  | 27, _ => show _ = _; kernel_rfl
  | 28, _ => show _ = _; kernel_rfl
  | 29, _ => show _ = _; kernel_rfl
  | 30, _ => show _ = _; kernel_rfl
  | 31, _ => show _ = _; kernel_rfl
  | 32, _ => show _ = _; kernel_rfl
  | 33, _ => show _ = _; kernel_rfl
  | 34, _ => show _ = _; kernel_rfl
  | 35, _ => show _ = _; kernel_rfl
  | 36, _ => show _ = _; kernel_rfl
  | 37, _ => show _ = _; kernel_rfl
  | 38, _ => show _ = _; kernel_rfl
  | 39, _ => show _ = _; kernel_rfl
  | j + 40, hj => omega
/-- The test of a name. -/
theorem nclos (j : Nat) (hj : j < 40) (s : ByteArray) (b : Nat) (w : World) (hb : w.cell? ⟨b, 0, none⟩ = some (.string s)) : Calls Tryz.prog 116 #[.agg (rL j).toArray, .pointer (some ⟨b, 0, none⟩)] w fun e w' =>
    e = .returned (.bool (decide (nmT j = s))) ∧ Below w.heap.size w w' := by
  rw [rL_is j hj]
  have hv := Lib.hid (show decide (nmT j = s) = ((nmT j).toList == s.toList) from by
    rw [Bool.eq_iff_iff, decide_eq_true_iff, beq_iff_eq]
    exact ⟨fun h => by rw [h], list_of_bytes9⟩)
  generalize nmT j = x at hv ⊢
  generalize mN j 0 = n0
  generalize mN j 1 = n1
  generalize mN j 2 = n2
  generalize mN j 3 = n3
  generalize mN j 4 = n4
  generalize mN j 5 = n5
  have hlt : b < w.heap.size := World.block_lt_of_cell? w _ hb
  have hb2 : (w.alloc (.cells #[.string x, .int .i16 n0, .int .i16 n1, .int .i16 n2, .int .i16 n3, .int .i16 n4, .int .i16 n5] 161)).cell? ⟨b, 0, none⟩ = some (.string s) := (World.cell?_alloc_lt w _ _ (by exact hlt)).trans hb
  have hne : b ≠ w.heap.size := by omega
  clear hj
  go_enter Tryz.func116, Tryz.ntmps116
  go_wp2
  go_ret
  exact ⟨by rw [hv.out]; rfl, (Below.refl _ _).alloc (Nat.le_refl _) _⟩
/-- The row that find finds. -/
def rowR (p : Nat → Bool) : List Value := match firstT p 40 with | some j => rL j | none => [.string ⟨#[]⟩, .int .i16 0, .int .i16 0, .int .i16 0, .int .i16 0, .int .i16 0, .int .i16 0]
theorem row_there9 {V : World} {g : Nat} (h : V.heap[g]? = some (.cells #[.string ⟨#[]⟩, .int .i16 0, .int .i16 0, .int .i16 0, .int .i16 0, .int .i16 0, .int .i16 0] 161 (0, 0))) : V.there g 0 7 := fun j hj => by
  refine ⟨?_, frozen_of_row _ _ _ _ _ h⟩
  rw [cell_of_row _ _ (0 + j) _ _ (0, 0) h]
  match j, hj with
  | 0, _ => rfl
  | 1, _ => rfl
  | 2, _ => rfl
  | 3, _ => rfl
  | 4, _ => rfl
  | 5, _ => rfl
  | 6, _ => rfl
  | j + 7, hj => omega
theorem one9 (x : ByteArray) (n0 n1 n2 n3 n4 n5 : Int) : (#[.string x, .int .i16 n0, .int .i16 n1, .int .i16 n2, .int .i16 n3, .int .i16 n4, .int .i16 n5] : Array Value).all (·.oneCell') = true := by kernel_rfl
/-- A row, stored into the result's own cells. -/
theorem ret9 {w V : World} {g : Nat} (h : V.heap[g]? = some (.cells #[.string ⟨#[]⟩, .int .i16 0, .int .i16 0, .int .i16 0, .int .i16 0, .int .i16 0, .int .i16 0] 161 (0, 0))) (hB : Below w.heap.size w V) (hg : w.heap.size ≤ g) (x : ByteArray) (n0 n1 n2 n3 n4 n5 : Int) :
    (loadVar 161 ⟨g, 0, none⟩).run Tryz.prog (V.setCells g 0 [.string x, .int .i16 n0, .int .i16 n1, .int .i16 n2, .int .i16 n3, .int .i16 n4, .int .i16 n5]) = .ok (.agg #[.string x, .int .i16 n0, .int .i16 n1, .int .i16 n2, .int .i16 n3, .int .i16 n4, .int .i16 n5]) (V.setCells g 0 [.string x, .int .i16 n0, .int .i16 n1, .int .i16 n2, .int .i16 n3, .int .i16 n4, .int .i16 n5]) ∧ Below w.heap.size w (V.setCells g 0 [.string x, .int .i16 n0, .int .i16 n1, .int .i16 n2, .int .i16 n3, .int .i16 n4, .int .i16 n5]) := by
  have hinf : (Tryz.prog.info? 161).map (·.size) = some 7 := by kernel_rfl
  exact ⟨run_loadVar_mid (P := Tryz.prog) _ g 0 161 [.string x, .int .i16 n0, .int .i16 n1, .int .i16 n2, .int .i16 n3, .int .i16 n4, .int .i16 n5] _ (World.rangeAt_setCells_same V g 0 [.string x, .int .i16 n0, .int .i16 n1, .int .i16 n2, .int .i16 n3, .int .i16 n4, .int .i16 n5] (row_there9 h)) Tryz.underlying161 rfl hinf, below_setCells9 hg _ _ _ hB⟩
theorem results_two9 {fn : Func} {tmps : Array Value} {w : World} {t u : Nat} {ty : TypeId} {p : Addr} {v x : Value} (hr : fn.results = #[.cell t ty, .tmp u]) (ha : tmps.getD t undef = .pointer (some p)) (hu : tmps.getD u undef = x) (hl : (loadVar ty p).run Tryz.prog w = .ok v w) : (results fn tmps).run Tryz.prog w = .ok (.tuple #[v, x]) w := by
  have ha' : tmps[t]?.getD undef = .pointer (some p) := by simpa using ha
  have hu' : tmps[u]?.getD undef = x := by simpa using hu
  simp [results, hr, asAddr, ha', hu', hl]
set_option maxHeartbeats 1600000 in
theorem find9_n (p : Nat → Bool) (b : Nat) (w : World) (HP : ∀ (k : Nat) (W : World), k < 40 → Below w.heap.size w W → Calls Tryz.prog 116 #[.agg (rL k).toArray, .pointer (some ⟨b, 0, none⟩)] W fun e w' => e = .returned (.bool (p k)) ∧ Below W.heap.size W w') :
    Calls Tryz.prog 115 #[.func (.func 116) #[] #[.pointer (some ⟨b, 0, none⟩)]] w fun e w' => e = .returned (.tuple #[.agg (rowR p).toArray, .bool (firstT p 40).isSome]) ∧ Below w.heap.size w w' := by
  have HT := Lib.hid (fun W => table9 W)
  have HIN := Lib.hid (show (Tryz.prog.info? 161).map (·.size) = some 7 from by kernel_rfl)
  have HP := Lib.hid HP
  go_enter Tryz.func115, Tryz.ntmps115
  go_wp2_with (go_at_call 128; ((with_reducible refine (HT.out _).mono ?_); rintro e w1 ⟨rfl, b1⟩); have HZ := Lib.hid ((b1.block w.heap.size (by rw [World.size_alloc]; exact Nat.lt_succ_self _)).trans (heap_alloc_new w _)); have hlt1 := Lib.hid (show w.heap.size < w1.heap.size from Nat.lt_of_lt_of_le (by rw [World.size_alloc]; exact Nat.lt_succ_self _) b1.size); have B1 := Lib.hid (thn9 ((Below.refl _ _).alloc (Nat.le_refl _) _) b1); clear b1)
  clear HT
  go_loopw [7] (fun i wr => ∃ k : Nat, k ≤ 40 ∧ i = .int .i64 k ∧ Hid (firstT p k = none) ∧ Hid (Below w1.heap.size w1 wr)) (fun i _ => 40 - (intOf i).toNat)
  case atStart => exact ⟨0, by omega, rfl, Lib.hid rfl, Lib.hid (Below.refl _ _)⟩
  case round =>
    obtain ⟨k, hk, rfl, hm, hB⟩ := hrel
    have hsz := hB.out.size
    by_cases hlt : k < 40
    · have k1 : (k : Int) < 40 := by omega
      have k0 : (0 : Int) ≤ k := by omega
      have HK := Lib.hid (fun W hb => HP.out k W hlt hb)
      have HH := Lib.hid (fun h => (first_hit hm.out h hlt : firstT p 40 = some k))
      have HS := Lib.hid (fun h => (first_miss hm.out h : firstT p (k + 1) = none))
      have HQ := Lib.hid (show firstT p 40 = some k → rowR p = rL k from fun h => by unfold rowR; rw [h])
      have HR := Lib.hid (show (rL k).toArray = #[.string (nmT k), .int .i16 (mN k 0), .int .i16 (mN k 1), .int .i16 (mN k 2), .int .i16 (mN k 3), .int .i16 (mN k 4), .int .i16 (mN k 5)] from by rw [rL_is k hlt])
      rw [HR.out] at HK
      rw [rL_is k hlt] at HQ
      generalize nmT k = x at HR HK HQ
      generalize mN k 0 = n0 at HR HK HQ
      generalize mN k 1 = n1 at HR HK HQ
      generalize mN k 2 = n2 at HR HK HQ
      generalize mN k 3 = n3 at HR HK HQ
      generalize mN k 4 = n4 at HR HK HQ
      generalize mN k 5 = n5 at HR HK HQ
      generalize p k = y at HK HH HS
      clear HP hm
      cases y
      · have hv := Lib.hid (HS.out rfl)
        clear HS HH HQ
        go_wp2_with (first
          | ((with_reducible show wpList _ _ _ (⟨some 9, _, _, _, _, _⟩ :: _) _ _)
             refine wpList_row9 rfl (.tmp 6) (.tmp 7) rfl k hlt rfl rfl ?_
             rw [HR.out])
          | (go_at_call 116; ((with_reducible refine (HK.out _ (thn9 B1.out (hB.out.alloc hsz _))).mono ?_); rintro e w2 ⟨rfl, b2⟩); have B2 := Lib.hid (thn9 (hB.out.alloc hsz _) b2)))
        go_roundw
        case rel => exact ⟨k + 1, by omega, by go_num, hv, B2⟩
        case measure => simp [intOf]; omega
      · have hv := Lib.hid (HH.out rfl)
        have hq := Lib.hid (HQ.out hv.out)
        clear HS HH HQ
        go_wp2_with (first
          | ((with_reducible show wpList _ _ _ (⟨some 9, _, _, _, _, _⟩ :: _) _ _)
             refine wpList_row9 rfl (.tmp 6) (.tmp 7) rfl k hlt rfl rfl ?_
             rw [HR.out])
          | (go_at_call 116; ((with_reducible refine (HK.out _ (thn9 B1.out (hB.out.alloc hsz _))).mono ?_); rintro e w2 ⟨rfl, b2⟩); have B2 := Lib.hid (thn9 (hB.out.alloc hsz _) b2); have hr2 := (b2.block wr.heap.size (by rw [World.size_alloc]; exact Nat.lt_succ_self _)).trans (heap_alloc_new wr _); have c0 := (cell_of_row w2 wr.heap.size 0 _ _ (0, 0) hr2).trans (show _ = some (Value.string x) from rfl); have c1 := (cell_of_row w2 wr.heap.size 1 _ _ (0, 0) hr2).trans (show _ = some (Value.int .i16 n0) from rfl); have c2 := (cell_of_row w2 wr.heap.size 2 _ _ (0, 0) hr2).trans (show _ = some (Value.int .i16 n1) from rfl); have c3 := (cell_of_row w2 wr.heap.size 3 _ _ (0, 0) hr2).trans (show _ = some (Value.int .i16 n2) from rfl); have c4 := (cell_of_row w2 wr.heap.size 4 _ _ (0, 0) hr2).trans (show _ = some (Value.int .i16 n3) from rfl); have c5 := (cell_of_row w2 wr.heap.size 5 _ _ (0, 0) hr2).trans (show _ = some (Value.int .i16 n4) from rfl); have c6 := (cell_of_row w2 wr.heap.size 6 _ _ (0, 0) hr2).trans (show _ = some (Value.int .i16 n5) from rfl); clear hr2)
          | ((with_reducible show wpList _ _ _ (⟨none, .store 161 (.tmp 2) (.tmp 13), _, _, _, _⟩ :: _) _ _)
             have hz2 := (B2.out.block w.heap.size hlt1.out).trans HZ.out
             obtain ⟨hl, hb3⟩ := ret9 hz2 (thn9 B1.out B2.out) (Nat.le_refl _) x n0 n1 n2 n3 n4 n5
             refine wpList_store_mid rfl 161 (.tmp 2) (.tmp 13) rfl w.heap.size 0 #[.string x, .int .i16 n0, .int .i16 n1, .int .i16 n2, .int .i16 n3, .int .i16 n4, .int .i16 n5] rfl rfl (row_there9 hz2) HIN.out (one9 x n0 n1 n2 n3 n4 n5) ?_
             show wpList _ _ _ _ _ (w2.setCells w.heap.size 0 [.string x, .int .i16 n0, .int .i16 n1, .int .i16 n2, .int .i16 n3, .int .i16 n4, .int .i16 n5])
             generalize w2.setCells w.heap.size 0 [.string x, .int .i16 n0, .int .i16 n1, .int .i16 n2, .int .i16 n3, .int .i16 n4, .int .i16 n5] = w3 at hl hb3 ⊢))
        rw [hv.out, hq.out]
        exact bodyPost_ret (v := .tuple #[.agg #[.string x, .int .i16 n0, .int .i16 n1, .int .i16 n2, .int .i16 n3, .int .i16 n4, .int .i16 n5], .bool true]) (results_two9 Tryz.results115 rfl rfl hl) rfl ⟨rfl, hb3⟩
    · obtain rfl : k = 40 := by omega
      have hq := Lib.hid (show rowR p = [.string ⟨#[]⟩, .int .i16 0, .int .i16 0, .int .i16 0, .int .i16 0, .int .i16 0, .int .i16 0] from by unfold rowR; rw [hm.out])
      have hz2 := (hB.out.block w.heap.size hlt1.out).trans HZ.out
      obtain ⟨hl, hb3⟩ := ret9 hz2 (thn9 B1.out hB.out) (Nat.le_refl _) ⟨#[]⟩ 0 0 0 0 0 0
      go_wp2_with ((with_reducible show wpList _ _ _ (⟨none, .store 161 (.tmp 2) (.tmp 15), _, _, _, _⟩ :: _) _ _)
                   refine wpList_store_mid rfl 161 (.tmp 2) (.tmp 15) rfl w.heap.size 0 #[.string ⟨#[]⟩, .int .i16 0, .int .i16 0, .int .i16 0, .int .i16 0, .int .i16 0, .int .i16 0] rfl rfl (row_there9 hz2) HIN.out (one9 ⟨#[]⟩ 0 0 0 0 0 0) ?_
                   show wpList _ _ _ _ _ (wr.setCells w.heap.size 0 [.string ⟨#[]⟩, .int .i16 0, .int .i16 0, .int .i16 0, .int .i16 0, .int .i16 0, .int .i16 0])
                   generalize wr.setCells w.heap.size 0 [.string ⟨#[]⟩, .int .i16 0, .int .i16 0, .int .i16 0, .int .i16 0, .int .i16 0, .int .i16 0] = w3 at hl hb3 ⊢)
      rw [hm.out, hq.out]
      exact bodyPost_ret (v := .tuple #[.agg #[.string ⟨#[]⟩, .int .i16 0, .int .i16 0, .int .i16 0, .int .i16 0, .int .i16 0, .int .i16 0], .bool false]) (results_two9 Tryz.results115 rfl rfl hl) rfl ⟨rfl, hb3⟩
theorem rowR_is (p : Nat → Bool) : ∃ x n0 n1 n2 n3 n4 n5, rowR p = [.string x, .int .i16 n0, .int .i16 n1, .int .i16 n2, .int .i16 n3, .int .i16 n4, .int .i16 n5] := by
  unfold rowR
  cases h : firstT p 40 with
  | none => exact ⟨_, _, _, _, _, _, _, rfl⟩
  | some j => exact ⟨_, _, _, _, _, _, _, rL_is j (first_some h).1⟩
def nameP (s : ByteArray) (j : Nat) : Bool := decide (nmT j = s)
set_option maxHeartbeats 1600000 in
theorem named9 (s : ByteArray) (w : World) : Calls Tryz.prog 96 #[.string s] w fun e w' => e = .returned (.tuple #[.agg (rowR (nameP s)).toArray, .bool (firstT (nameP s) 40).isSome]) ∧ Below w.heap.size w w' := by
  have HF := Lib.hid (find9_n (nameP s) w.heap.size ((w.alloc (.cells #[.string s] 9)).alloc (.cells #[.string ⟨#[]⟩, .int .i16 0, .int .i16 0, .int .i16 0, .int .i16 0, .int .i16 0, .int .i16 0] 161)) fun k W hk hb => nclos k hk s w.heap.size W (by
    rw [hb.cell (p := ⟨w.heap.size, 0, none⟩) (by rw [World.size_alloc, World.size_alloc]; show w.heap.size < _; omega), World.cell?_alloc_lt _ _ _ (by rw [World.size_alloc]; exact Nat.lt_succ_self _), cell_of_row _ _ _ _ _ (0, 0) (heap_alloc_new w _)]; rfl))
  obtain ⟨x, n0, n1, n2, n3, n4, n5, hx⟩ := rowR_is (nameP s)
  rw [hx] at HF ⊢
  generalize (firstT (nameP s) 40).isSome = y at HF ⊢
  have HIN := Lib.hid (show (Tryz.prog.info? 161).map (·.size) = some 7 from by kernel_rfl)
  have HA1 := Lib.hid (show ((w.alloc (.cells #[.string s] 9)).alloc (.cells #[.string ⟨#[]⟩, .int .i16 0, .int .i16 0, .int .i16 0, .int .i16 0, .int .i16 0, .int .i16 0] 161)).heap[w.heap.size + 1]? = some (.cells #[.string ⟨#[]⟩, .int .i16 0, .int .i16 0, .int .i16 0, .int .i16 0, .int .i16 0, .int .i16 0] 161 (0, 0)) from by
    rw [show w.heap.size + 1 = (w.alloc (.cells #[.string s] 9)).heap.size from (World.size_alloc _ _).symm]; exact heap_alloc_new _ _)
  have HS1 := Lib.hid (show w.heap.size + 1 < ((w.alloc (.cells #[.string s] 9)).alloc (.cells #[.string ⟨#[]⟩, .int .i16 0, .int .i16 0, .int .i16 0, .int .i16 0, .int .i16 0, .int .i16 0] 161)).heap.size from by rw [World.size_alloc, World.size_alloc]; exact Nat.lt_succ_self _)
  clear hx
  go_enter Tryz.func96, Tryz.ntmps96
  go_wp2_with (first
    | (go_at_call 115; ((with_reducible refine (HF.out).mono ?_); rintro e w1 ⟨rfl, b1⟩); have hz := (b1.block (w.heap.size + 1) HS1.out).trans HA1.out; have B1 := Lib.hid (thn9 (((Below.refl w.heap.size w).alloc (Nat.le_refl _) (.cells #[.string s] 9)).alloc (by rw [World.size_alloc]; exact Nat.le_succ _) (.cells #[.string ⟨#[]⟩, .int .i16 0, .int .i16 0, .int .i16 0, .int .i16 0, .int .i16 0, .int .i16 0] 161)) b1); clear b1)
    | ((with_reducible show wpList _ _ _ (⟨none, .store 161 (.tmp 2) (.tmp 6), _, _, _, _⟩ :: _) _ _)
       obtain ⟨hl, hb3⟩ := ret9 hz B1.out (Nat.le_succ _) x n0 n1 n2 n3 n4 n5
       refine wpList_store_mid rfl 161 (.tmp 2) (.tmp 6) rfl (w.heap.size + 1) 0 #[.string x, .int .i16 n0, .int .i16 n1, .int .i16 n2, .int .i16 n3, .int .i16 n4, .int .i16 n5] rfl rfl (row_there9 hz) HIN.out (one9 x n0 n1 n2 n3 n4 n5) ?_
       show wpList _ _ _ _ _ (w1.setCells (w.heap.size + 1) 0 [.string x, .int .i16 n0, .int .i16 n1, .int .i16 n2, .int .i16 n3, .int .i16 n4, .int .i16 n5])
       generalize w1.setCells (w.heap.size + 1) 0 [.string x, .int .i16 n0, .int .i16 n1, .int .i16 n2, .int .i16 n3, .int .i16 n4, .int .i16 n5] = w3 at hl hb3 ⊢))
  exact bodyPost_ret (v := .tuple #[.agg #[.string x, .int .i16 n0, .int .i16 n1, .int .i16 n2, .int .i16 n3, .int .i16 n4, .int .i16 n5], .bool y]) (results_two9 Tryz.results96 rfl rfl hl) rfl ⟨rfl, hb3⟩
theorem known9 (s : ByteArray) (w : World) : Calls Tryz.prog 78 #[.string s] w fun e w' => e = .returned (.bool (knownR s)) ∧ Below w.heap.size w w' := by
  have HF := Lib.hid (fun W => named9 s W)
  rw [show knownR s = (firstT (nameP s) 40).isSome from rfl]
  obtain ⟨x, n0, n1, n2, n3, n4, n5, hx⟩ := rowR_is (nameP s)
  rw [hx] at HF
  generalize (firstT (nameP s) 40).isSome = y at HF ⊢
  clear hx
  go_enter Tryz.func78, Tryz.ntmps78
  go_wp2_with (go_at_call 96; ((with_reducible refine (HF.out _).mono ?_); rintro e w1 ⟨rfl, b1⟩))
  go_ret
  exact ⟨rfl, b1.alloc b1.size _⟩
end Go.Proofs.YtanifiobfbfehaaGreatDoor
