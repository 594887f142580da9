/- What Spaces and Flags of the landed names return: all flags together; those that are set in a number, in order. Condition: the table of namespaces lies as the text lays it. -/
import Derived.Test.YtbjhleajhkofeaaDoorJn
namespace Go.Proofs.YtbjhleajhkofeaaDoor
open Go.RowKit
set_option linter.unusedVariables false
set_option linter.unusedSimpArgs false
attribute [local go_sem ↓] Go.wp_at_zero Go.wp_at_succ

def spcV : Array Value := (cellsT .u64 spcT).toArray
set_option maxRecDepth 100000 in
theorem run_row_spc (k : Nat) (hk : k < 8) (e : En10) (he : spcT[k]? = some e) (w : World) : (Instr.index 73 (.agg spcV) (.int .i64 k)).run Tryd.prog w = .ok (.agg #[.string e.1, .int .u64 (e.2 : Nat)]) w := by
  match k, hk, he with
  | 0, _, he => injection he with he; subst he; show _ = _; kernel_rfl
  | 1, _, he => injection he with he; subst he; show _ = _; kernel_rfl
  | 2, _, he => injection he with he; subst he; show _ = _; kernel_rfl
  | 3, _, he => injection he with he; subst he; show _ = _; kernel_rfl
  | 4, _, he => injection he with he; subst he; show _ = _; kernel_rfl
  | 5, _, he => injection he with he; subst he; show _ = _; kernel_rfl
  | 6, _, he => injection he with he; subst he; show _ = _; kernel_rfl
  | 7, _, he => injection he with he; subst he; show _ = _; kernel_rfl
  | k + 8, hk, _ => omega
set_option maxRecDepth 100000 in
/-- A row by its place. -/
theorem wpList_row_spc {ops : Array Oper} {rest : List Oper} {op : Oper} {a : Act} {w : World} {Q : Exit → Act → World → Prop} (hgd : op.guard = none) (x y : Operand) (ho : op.op = .index 73 x y) (k : Nat) (hk : k < 8) (e : En10) (he : spcT[k]? = some e)
    (hx : a.eval x = .agg spcV) (hy : a.eval y = .int .i64 k) (h : wpList Tryd.prog ops Q rest (a.put op.dst (.agg #[.string e.1, .int .u64 (e.2 : Nat)])) w) : wpList Tryd.prog ops Q (op :: rest) a w :=
  wpList_plain hgd fun _ hK => by
    unfold Oper.wp execOp
    simp only [ho, hx, hy, Sem.run_bind, Sem.run_pure, Result.andThen_ok, run_row_spc k hk e he w]
    exact hK _ _ h
set_option maxRecDepth 100000 in
/-- All flags up to a place, joined. -/
theorem sum_or : ∀ k, k < 8 → ∀ e, spcT[k]? = some e → sumTo k ||| e.2 = sumTo k + e.2 := by
  have h : (List.range 8).all (fun k => match spcT[k]? with | some e => decide (sumTo k ||| e.2 = sumTo k + e.2) | none => false) = true := by decide +kernel
  intro k hk e he
  have := List.all_eq_true.1 h k (List.mem_range.2 hk)
  rw [he] at this
  exact of_decide_eq_true this
set_option maxHeartbeats 1600000 in
set_option maxRecDepth 100000 in
theorem spacesN (w : World) (hG : GN w) : Calls Tryd.prog 18 #[] w fun e w' => e = .returned (.int .u64 allN) ∧ Below w.heap.size w w' := by
  have GX := Lib.hid hG
  have HI_spcs := Lib.hid info_spcs
  clear hG
  go_enter Tryd.func18, Tryd.ntmps18
  go_wp2_with ((with_reducible show wpList _ _ _ (⟨some 4, .load 73 _, _, _, _, _⟩ :: _) _ _)
               refine wpList_load_mid rfl 73 (.global 1) rfl 1 0 rfl (cellsT .u64 spcT) _ (range_spcs GX.out) Tryd.underlying73 rfl HI_spcs.out ?_
               rw [show (cellsT .u64 spcT).toArray = spcV from rfl])
  go_loopw [1, 5] (fun v1 v5 wr => ∃ k : Nat, k ≤ 8 ∧ v5 = .int .i64 k ∧ v1 = .int .u64 (sumTo k : Nat) ∧ Hid (Below w.heap.size w wr)) (fun _ v5 _ => 8 - (intOf v5).toNat)
  case atStart => exact ⟨0, by omega, rfl, rfl, Lib.hid (Below.refl _ _)⟩
  case round =>
    obtain ⟨k, hk, rfl, rfl, hB⟩ := hrel
    have hsz := hB.out.size
    by_cases hlt : k < 8
    · obtain ⟨⟨t, x⟩, he, h0, h1⟩ := spc_at k hlt
      simp only at h0 h1
      have HE := Lib.hid he
      have HS := Lib.hid (sum_step he)
      have HO := Lib.hid (sum_or k hlt _ he)
      have hsl := sum_lt k (by omega)
      simp only at HS HO
      obtain ⟨a, ha⟩ : ∃ a, a = sumTo k := ⟨_, rfl⟩
      rw [← ha] at hsl HS HO ⊢
      have hor : bits .or .u64 (a : Int) (x : Int) = ((a + x : Nat) : Int) := by rw [u64_or_nat _ _ (by omega) (by omega), HO.out]
      have k1 : (k : Int) < 8 := by omega
      have k0 : (0 : Int) ≤ k := by omega
      have HB2 := Lib.hid (hB.out.alloc hsz (.cells #[.string t, .int .u64 (x : Nat)] 72))
      clear he ha
      go_wp2_with ((with_reducible show wpList _ _ _ (⟨some 7, _, _, _, _, _⟩ :: _) _ _)
                   refine wpList_row_spc rfl (.tmp 4) (.tmp 5) rfl k hlt _ HE.out rfl rfl ?_)
      go_roundw
      case rel => exact ⟨k + 1, by omega, by go_num, by rw [HS.out, Int.natCast_add], HB2⟩
      case measure => simp [intOf]; omega
    · obtain rfl : k = 8 := by omega
      go_wp2
      go_ret
      exact ⟨rfl, hB.out⟩
end Go.Proofs.YtbjhleajhkofeaaDoor
