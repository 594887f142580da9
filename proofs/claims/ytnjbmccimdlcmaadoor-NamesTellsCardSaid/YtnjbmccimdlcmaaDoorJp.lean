/- What Spaces and Flags of the landed names return: all flags together; those that are set in a number, in order. Condition: the table of namespaces lies as the text lays it. -/
import Derived.Test.YtnjbmccimdlcmaaDoorJn
namespace Go.Proofs.YtnjbmccimdlcmaaDoor
open Go.RowKit
set_option linter.unusedVariables false
set_option linter.unusedSimpArgs false
attribute [local go_sem ↓] Go.wp_at_zero Go.wp_at_succ

def spcV : Array Value := (cellsT .u64 spcT).toArray
theorem run_row_spc (k : Nat) (hk : k < 8) (e : En10) (he : spcT[k]? = some e) (w : World) : (Instr.index 56 (.agg spcV) (.int .i64 k)).run Tryd.prog w = .ok (.agg #[.string e.1, .int .u64 (e.2 : Nat)]) w := by
  match k, hk, he with
  | 0, _, he => injection he with he; subst he; show _ = _; kernel_rfl
  | 1, _, he => injection he with he; subst he; show _ = _; kernel_rfl
  | 2, _, he => injection he with he; subst he; show _ = _; kernel_rfl
  | 3, _, he => injection he with he; subst he; show _ = _; kernel_rfl
  | 4, _, he => injection he with he; subst he; show _ = _; kernel_rfl
  | 5, _, he => injection he with he; subst he; show _ = _; kernel_rfl
  | 6, _, he => injection he with he; subst he; show _ = _; kernel_rfl
  | 7, _, he => injection he with he; subst he; show _ = _; kernel_rfl
  | k + 8, hk, _ => omega
/-- A row by its place. -/
theorem wpList_row_spc {ops : Array Oper} {rest : List Oper} {op : Oper} {a : Act} {w : World} {Q : Exit → Act → World → Prop} (hgd : op.guard = none) (x y : Operand) (ho : op.op = .index 56 x y) (k : Nat) (hk : k < 8) (e : En10) (he : spcT[k]? = some e)
    (hx : a.eval x = .agg spcV) (hy : a.eval y = .int .i64 k) (h : wpList Tryd.prog ops Q rest (a.put op.dst (.agg #[.string e.1, .int .u64 (e.2 : Nat)])) w) : wpList Tryd.prog ops Q (op :: rest) a w :=
  wpList_plain hgd fun _ hK => by
    unfold Oper.wp execOp
    simp only [ho, hx, hy, Sem.run_bind, Sem.run_pure, Result.andThen_ok, run_row_spc k hk e he w]
    exact hK _ _ h
theorem spc_bit : ∀ e ∈ spcT, e.2 = 2 ^ e.2.log2 := by decide +kernel
theorem spc_and (y : Nat) {e : En10} (he : e ∈ spcT) : y &&& e.2 = y / e.2 % 2 * e.2 := by
  have := nat_bit e.2.log2 y
  rw [← spc_bit e he] at this
  exact this
/-- All flags up to a place, joined. -/
theorem sum_or : ∀ k, k < 8 → ∀ e, spcT[k]? = some e → sumTo k ||| e.2 = sumTo k + e.2 := by
  have h : (List.range 8).all (fun k => match spcT[k]? with | some e => decide (sumTo k ||| e.2 = sumTo k + e.2) | none => false) = true := by decide +kernel
  intro k hk e he
  have := List.all_eq_true.1 h k (List.mem_range.2 hk)
  rw [he] at this
  exact of_decide_eq_true this
set_option maxHeartbeats 1600000 in
theorem spacesN (w : World) (hG : GN w) : Calls Tryd.prog 17 #[] w fun e w' => e = .returned (.int .u64 allN) ∧ Below w.heap.size w w' := by
  have GX := Lib.hid hG
  have HI_spcs := Lib.hid info_spcs
  clear hG
  go_enter Tryd.func17, Tryd.ntmps17
  go_wp2_with ((with_reducible show wpList _ _ _ (⟨some 4, .load 56 _, _, _, _, _⟩ :: _) _ _)
               refine wpList_load_mid rfl 56 (.global 2) rfl 2 0 rfl (cellsT .u64 spcT) _ (range_spcs GX.out) Tryd.underlying56 rfl HI_spcs.out ?_
               rw [show (cellsT .u64 spcT).toArray = spcV from rfl])
  go_loopw [1, 5] (fun v1 v5 wr => ∃ k : Nat, k ≤ 8 ∧ v5 = .int .i64 k ∧ v1 = .int .u64 (sumTo k : Nat) ∧ Hid (Below w.heap.size w wr)) (fun _ v5 _ => 8 - (intOf v5).toNat)
  case atStart => exact ⟨0, by omega, rfl, rfl, Lib.hid (Below.refl _ _)⟩
  case round =>
    obtain ⟨k, hk, rfl, rfl, hB⟩ := hrel
    have hsz := hB.out.size
    by_cases hlt : k < 8
    · obtain ⟨⟨t, x⟩, he, h0, h1⟩ := spc_at k hlt
      simp only at h0 h1
      have HE := Lib.hid he
      have HS := Lib.hid (sum_step he)
      have HO := Lib.hid (sum_or k hlt _ he)
      have hsl := sum_lt k (by omega)
      simp only at HS HO
      obtain ⟨a, ha⟩ : ∃ a, a = sumTo k := ⟨_, rfl⟩
      rw [← ha] at hsl HS HO ⊢
      have hor : bits .or .u64 (a : Int) (x : Int) = ((a + x : Nat) : Int) := by rw [u64_or_nat _ _ (by omega) (by omega), HO.out]
      have k1 : (k : Int) < 8 := by omega
      have k0 : (0 : Int) ≤ k := by omega
      have HB2 := Lib.hid (hB.out.alloc hsz (.cells #[.string t, .int .u64 (x : Nat)] 55))
      clear he ha
      go_wp2_with ((with_reducible show wpList _ _ _ (⟨some 7, _, _, _, _, _⟩ :: _) _ _)
                   refine wpList_row_spc rfl (.tmp 4) (.tmp 5) rfl k hlt _ HE.out rfl rfl ?_)
      go_roundw
      case rel => exact ⟨k + 1, by omega, by go_num, by rw [HS.out, Int.natCast_add], HB2⟩
      case measure => simp [intOf]; omega
    · obtain rfl : k = 8 := by omega
      go_wp2
      go_ret
      exact ⟨rfl, hB.out⟩
set_option maxRecDepth 100000 in
set_option maxHeartbeats 4000000 in
theorem flagsN (y : Nat) (hy : y < 18446744073709551616) (w : World) (hG : GN w) : Calls Tryd.prog 15 #[.int .u64 y] w fun e w' => ∃ q c, e = .returned (.slice q (flagsR y).length c) ∧ w'.ownsRow w.heap.size 26 1 (.slice q (flagsR y).length c) (flagsR y).length (u64N (flagsR y)) ∧ Below w.heap.size w w' := by
  obtain ⟨i0, hi0, hz0, hz1, hz2⟩ := info_parts u64_info10
  have HI := Lib.hid hi0
  have H0 := Lib.hid hz0
  have H1 := Lib.hid hz1
  have H2 := Lib.hid hz2
  have GX := Lib.hid hG
  have HI_spcs := Lib.hid info_spcs
  clear hi0 hz0 hz1 hz2 hG
  go_enter Tryd.func15, Tryd.ntmps15
  go_wp2_with ((with_reducible show wpList _ _ _ (⟨some 6, .load 56 _, _, _, _, _⟩ :: _) _ _)
               refine wpList_load_mid rfl 56 (.global 2) rfl 2 0 rfl (cellsT .u64 spcT) _ (range_spcs GX.out) Tryd.underlying56 rfl HI_spcs.out ?_
               rw [show (cellsT .u64 spcT).toArray = spcV from rfl])
  go_loopw [3, 7] (fun v3 v7 wr => ∃ k : Nat, k ≤ 8 ∧ v7 = .int .i64 k ∧ Hid (wr.ownsRow w.heap.size 26 1 v3 (flagsTo y k).length (u64N (flagsTo y k))) ∧ Hid (Below w.heap.size w wr)) (fun _ v7 _ => 8 - (intOf v7).toNat)
  case atStart => exact ⟨0, by omega, rfl, Lib.hid (World.ownsRow_nil _ _ _ _), Lib.hid (Below.refl _ _)⟩
  case round =>
    obtain ⟨k, hk, rfl, HO, PB⟩ := hrel
    obtain ⟨W, rfl⟩ : ∃ wo : World, wo = wr := ⟨_, rfl⟩
    by_cases hlt : k < 8
    · obtain ⟨⟨t, x⟩, he, h0, h1⟩ := spc_at k hlt
      simp only at h0 h1
      have HE := Lib.hid he
      have HS := Lib.hid (flags_step (x := y) he)
      simp only at HS
      have hle := flags_le y k
      have hand : bits .and .u64 (y : Int) (x : Int) = ((y / x % 2 * x : Nat) : Int) := by rw [u64_and_nat _ _ hy (by omega), spc_and y (List.mem_of_getElem? he)]
      obtain ⟨F, hF⟩ : ∃ F, F = flagsTo y k := ⟨_, rfl⟩
      rw [← hF] at hle HS HO
      obtain ⟨m, hm⟩ : ∃ m, m = F.length := ⟨_, rfl⟩
      rw [← hm] at hle HO
      have HM := Lib.hid hm
      obtain ⟨z, hz⟩ : ∃ z, z = y / x := ⟨_, rfl⟩
      rw [← hz] at hand HS
      have k1 : (k : Int) < 8 := by omega
      have k0 : (0 : Int) ≤ k := by omega
      have x0 : ((x : Int) == 0) = false := beq_eq_false_iff_ne.2 (by omega)
      clear he hF hm hz
      have HB1 := Lib.hid (PB.out.alloc PB.out.size (.cells #[.string t, .int .u64 (x : Nat)] 55))
      have HO1 := Lib.hid (HO.out.alloc (.cells #[.string t, .int .u64 (x : Nat)] 55))
      by_cases hb : z % 2 = 1
      · have HS2 := Lib.hid (show flagsTo y (k + 1) = F ++ [x] by rw [HS.out, if_pos hb])
        rw [hb, Nat.one_mul] at hand
        clear HS hb HO
        go_wp2_with (first
          | ((with_reducible show wpList _ _ _ (⟨some 9, _, _, _, _, _⟩ :: _) _ _)
             refine wpList_row_spc rfl (.tmp 6) (.tmp 7) rfl k hlt _ HE.out rfl rfl ?_)
          | (at_builtin
             refine wpList_append_own _ rfl (.tmp 15) (.tmp 18) 37 rfl w.heap.size 26 i0 _ 1 8 Tryd.underlying37 HI.out H0.out H1.out H2.out rfl Nat.one_pos _ m (u64N F) rfl (HO1.out.alloc _) ⟨W.heap.size + 1, 0, none⟩ 1 1 [.int .u64 (x : Nat)] rfl (by first | rfl | simp [World.size_alloc]) (by have := news_one10 (W.alloc (.cells #[.string t, .int .u64 (x : Nat)] 55)) (.int .u64 (x : Nat)) 26; rw [World.size_alloc] at this; exact this) (by intro v hv; rw [List.mem_singleton.1 hv]; rfl) (by unfold maxLen; omega) (by omega) (by rw [World.size_alloc, World.size_alloc]; exact Nat.le_succ_of_le (Nat.le_succ_of_le PB.out.size)) ?_
             intro v5 w5 o5 hg5 _
             have O5 := Lib.hid o5
             have B5 := Lib.hid ((HB1.out.alloc (HB1.out.size) (.cells #[.int .u64 (x : Nat)] 26)).grown hg5 (by rw [World.size_alloc]; exact Nat.le_succ_of_le HB1.out.size) (fun g hg => ((HO1.out.alloc (.cells #[.int .u64 (x : Nat)] 26)).lt g hg).1))
             clear o5 hg5))
        go_roundw
        case rel =>
            exact ⟨k + 1, by omega, by go_num, Lib.hid (by rw [HS2.out, List.length_append, u64N_snoc, ← HM.out]; exact O5.out), B5⟩
        case measure => simp [intOf]; omega
      · have hb2 : z % 2 = 0 := by omega
        have HS2 := Lib.hid (show flagsTo y (k + 1) = F by rw [HS.out, if_neg hb, List.append_nil])
        rw [hb2, Nat.zero_mul] at hand
        clear HS hb hb2
        go_wp2_with ((with_reducible show wpList _ _ _ (⟨some 9, _, _, _, _, _⟩ :: _) _ _)
                     refine wpList_row_spc rfl (.tmp 6) (.tmp 7) rfl k hlt _ HE.out rfl rfl ?_)
        go_roundw
        case rel =>
          exact ⟨k + 1, by omega, by go_num, Lib.hid (by rw [HS2.out, ← HM.out]; exact HO1.out), HB1⟩
        case measure => simp [intOf]; omega
    · obtain rfl : k = 8 := by omega
      obtain ⟨q, c, rfl⟩ := own_sl10 HO.out
      go_wp2
      go_ret
      exact ⟨q, c, rfl, HO.out, PB.out⟩
end Go.Proofs.YtnjbmccimdlcmaaDoor
