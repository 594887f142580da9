/- What the document's own All, Flags of the namespaces return. No condition. -/
import Derived.Test.YtnjbmccimdlcmaaDoorJc
namespace Go.Proofs.YtnjbmccimdlcmaaDoor
open Go.RowKit
set_option linter.unusedVariables false
set_option linter.unusedSimpArgs false
attribute [local go_sem ↓] Go.wp_at_zero Go.wp_at_succ

/-- All flags together. -/
def allN : Nat := 2114060416
def sumTo (k : Nat) : Nat := ((spcT.take k).map (·.2)).foldl (· + ·) 0
/-- The flags that are set in a number, one by one. -/
def flagsTo (x : Nat) (k : Nat) : List Nat := ((spcT.take k).filter fun e => x / e.2 % 2 == 1).map (·.2)
def flagsR (x : Nat) : List Nat := flagsTo x 8
theorem spc_at : ∀ k, k < 8 → ∃ e, spcT[k]? = some e ∧ 0 < e.2 ∧ e.2 < 4294967296 := by
  have h : (List.range 8).all (fun k => match spcT[k]? with | some e => decide (0 < e.2) && decide (e.2 < 4294967296) | none => false) = true := by decide +kernel
  intro k hk
  have := List.all_eq_true.1 h k (List.mem_range.2 hk)
  cases he : spcT[k]? with
  | none => rw [he] at this; cases this
  | some e =>
    rw [he] at this
    simp only [Bool.and_eq_true, decide_eq_true_eq] at this
    exact ⟨e, rfl, this.1, this.2⟩
theorem sum_step {k : Nat} {e : En10} (h : spcT[k]? = some e) : sumTo (k + 1) = sumTo k + e.2 := by
  unfold sumTo
  rw [List.take_add_one, h, List.map_append, List.foldl_append]; rfl
theorem sum_lt : ∀ k, k ≤ 8 → sumTo k < 4294967296 := by
  have h : (List.range 9).all (fun k => decide (sumTo k < 4294967296)) = true := by decide +kernel
  intro k hk
  exact of_decide_eq_true (List.all_eq_true.1 h k (List.mem_range.2 (by omega)))
theorem flags_step {x k : Nat} {e : En10} (h : spcT[k]? = some e) : flagsTo x (k + 1) = flagsTo x k ++ (if x / e.2 % 2 = 1 then [e.2] else []) := by
  unfold flagsTo
  rw [List.take_add_one, h, List.filter_append, List.map_append]
  congr 1
  by_cases hh : x / e.2 % 2 = 1
  · simp [hh]
  · simp [hh]
theorem flags_le (x k : Nat) : (flagsTo x k).length ≤ k := by
  unfold flagsTo
  rw [List.length_map]
  exact Nat.le_trans (List.length_filter_le _ _) (by rw [List.length_take]; omega)
def u64N (l : List Nat) : List Value := l.map fun x => .int .u64 ((x : Nat) : Int)
theorem u64N_len (l : List Nat) : (u64N l).length = l.length := by simp [u64N]
theorem u64N_snoc (l : List Nat) (x : Nat) : u64N (l ++ [x]) = u64N l ++ [.int .u64 (x : Nat)] := by unfold u64N; rw [List.map_append]; rfl
theorem u64_info10 : (Tryd.prog.info? 26).map (fun i => (i.zero, i.size, i.bytes)) = some (some (.int .u64 0), 1, 8) := by kernel_rfl
theorem news_one10 (w : World) (v : Value) (e : TypeId) : ∀ j u, [v][j]? = some u → (w.alloc (.cells #[v] e)).cell? ((⟨w.heap.size, 0, none⟩ : Addr).add j) = some u := by
  intro j u hu
  match j, hu with
  | 0, hu =>
    injection hu with hu
    subst hu
    show (w.alloc _).cell? ⟨w.heap.size, 0, none⟩ = _
    rw [cell_of_row _ _ _ _ _ (0, 0) (heap_alloc_new w _)]; rfl
theorem own_sl10 {w : World} {B n s : Nat} {e : TypeId} {v : Value} {xs : List Value} (h : w.ownsRow B e s v n xs) : ∃ q c, v = .slice q n c := by
  rcases h.2 with ⟨rfl, h0⟩ | ⟨g, cap, cur, rfl, _⟩
  · exact ⟨none, 0, by rw [h0]⟩
  · exact ⟨_, _, rfl⟩
theorem own_low10 {w : World} {B B' n size : Nat} {e : TypeId} {v : Value} {xs : List Value} (h : w.ownsRow B e size v n xs) (hB : B' ≤ B) : w.ownsRow B' e size v n xs := by
  obtain ⟨h1, h2⟩ := h
  refine ⟨h1, ?_⟩
  rcases h2 with h2 | ⟨g, cap, cur, hv, hgB, r⟩
  · exact Or.inl h2
  · exact Or.inr ⟨g, cap, cur, hv, by omega, r⟩
set_option maxRecDepth 100000 in
theorem refAll10 (w : World) : Calls Tryd.prog 18 #[] w fun e w' => e = .returned (.int .u64 allN) ∧ Below w.heap.size w w' := by
  have HT := Lib.hid (refSpaces w)
  unfold TabTo at HT
  rw [show spcT.length = 8 from rfl] at HT
  go_enter Tryd.func18, Tryd.ntmps18
  go_wp2_with (go_at_call 13; ((with_reducible refine (HT.out).mono ?_); rintro e w1 ⟨rfl, r1, b1⟩); have R1 := Lib.hid r1; have B1 := Lib.hid b1; clear r1 b1)
  go_loop [2, 3] (fun v2 v3 => ∃ k : Nat, k ≤ 8 ∧ v3 = .int .i64 k ∧ v2 = .int .u64 (sumTo k : Nat)) (fun _ v3 => 8 - (intOf v3).toNat)
  case atStart => exact ⟨0, by omega, rfl, rfl⟩
  case round =>
    obtain ⟨k, hk, rfl, rfl⟩ := hrel
    by_cases hlt : k < 8
    · obtain ⟨⟨t, x⟩, he, h0, h1⟩ := spc_at k hlt
      obtain ⟨c0, c1⟩ := R1.out k _ he
      simp only at c0 c1 h0 h1
      have HS := Lib.hid (sum_step he)
      have hsl := sum_lt k (by omega)
      obtain ⟨a, ha⟩ : ∃ a, a = sumTo k := ⟨_, rfl⟩
      rw [← ha] at hsl HS ⊢
      have u1 : IntKind.u64.wrap ((a : Int) + (x : Int)) = a + x := by rw [IntKind.wrap_u64]; omega
      have k1 : (k : Int) < 8 := by omega
      have k0 : (0 : Int) ≤ k := by omega
      clear he ha
      go_wp2
      go_round
      case rel => exact ⟨k + 1, by omega, by go_num, by rw [HS.out]; congr 1⟩
      case measure => simp [intOf]; omega
    · obtain rfl : k = 8 := by omega
      go_wp2
      go_ret
      exact ⟨rfl, B1.out⟩
set_option maxRecDepth 100000 in
set_option maxHeartbeats 4000000 in
theorem refFlags10 (y : Nat) (hy : y < 18446744073709551616) (w : World) : Calls Tryd.prog 16 #[.int .u64 y] w fun e w' => ∃ q c, e = .returned (.slice q (flagsR y).length c) ∧ w'.ownsRow w.heap.size 26 1 (.slice q (flagsR y).length c) (flagsR y).length (u64N (flagsR y)) ∧ Below w.heap.size w w' := by
  obtain ⟨i0, hi0, hz0, hz1, hz2⟩ := info_parts u64_info10
  have HI := Lib.hid hi0
  have H0 := Lib.hid hz0
  have H1 := Lib.hid hz1
  have H2 := Lib.hid hz2
  have HT := Lib.hid (refSpaces w)
  unfold TabTo at HT
  rw [show spcT.length = 8 from rfl] at HT
  clear hi0 hz0 hz1 hz2
  go_enter Tryd.func16, Tryd.ntmps16
  go_wp2_with (go_at_call 13; ((with_reducible refine (HT.out).mono ?_); rintro e w1 ⟨rfl, r1, b1⟩); have R1 := Lib.hid r1; have B1 := Lib.hid b1; have hl1 := World.block_lt_of_cell? w1 _ (r1 0 _ rfl).1; clear r1 b1)
  go_loopw [4, 5] (fun v4 v5 wr => ∃ k : Nat, k ≤ 8 ∧ v5 = .int .i64 k ∧ Hid (wr.ownsRow w1.heap.size 26 1 v4 (flagsTo y k).length (u64N (flagsTo y k))) ∧ Hid (Below w1.heap.size w1 wr)) (fun _ v5 _ => 8 - (intOf v5).toNat)
  case atStart => exact ⟨0, by omega, rfl, Lib.hid (World.ownsRow_nil _ _ _ _), Lib.hid (Below.refl _ _)⟩
  case round =>
    obtain ⟨k, hk, rfl, HO, PB⟩ := hrel
    obtain ⟨W, rfl⟩ : ∃ wo : World, wo = wr := ⟨_, rfl⟩
    by_cases hlt : k < 8
    · obtain ⟨⟨t, x⟩, he, h0, h1⟩ := spc_at k hlt
      obtain ⟨c0, c1⟩ := (R1.out.on PB.out) k _ he
      simp only at c0 c1 h0 h1
      have HS := Lib.hid (flags_step (x := y) he)
      simp only at HS
      have hle := flags_le y k
      obtain ⟨F, hF⟩ : ∃ F, F = flagsTo y k := ⟨_, rfl⟩
      rw [← hF] at hle HS HO
      obtain ⟨m, hm⟩ : ∃ m, m = F.length := ⟨_, rfl⟩
      rw [← hm] at hle HO
      have HM := Lib.hid hm
      have d1 : Int.tdiv (y : Int) (x : Int) = ((y / x : Nat) : Int) := by rw [Int.tdiv_eq_ediv_of_nonneg (by omega)]; rfl
      have hq : y / x < 18446744073709551616 := Nat.lt_of_le_of_lt (Nat.div_le_self _ _) hy
      obtain ⟨z, hz⟩ : ∃ z, z = y / x := ⟨_, rfl⟩
      rw [← hz] at d1 hq HS
      have d2 : Int.tmod (z : Int) 2 = ((z % 2 : Nat) : Int) := by rw [Int.tmod_eq_emod_of_nonneg (by omega)]; rfl
      have u1 : IntKind.u64.wrap (z : Int) = z := by rw [IntKind.wrap_u64]; omega
      have u2 : IntKind.u64.wrap ((z % 2 : Nat) : Int) = ((z % 2 : Nat) : Int) := by rw [IntKind.wrap_u64]; omega
      have x0 : ¬ (x : Int) = 0 := by omega
      have x1 : ((x : Int) == 0) = false := beq_eq_false_iff_ne.2 x0
      have k1 : (k : Int) < 8 := by omega
      have k0 : (0 : Int) ≤ k := by omega
      clear he hF hm hz
      by_cases hb : z % 2 = 1
      · have hb2 : ((z % 2 : Nat) : Int) = 1 := by omega
        have HS2 := Lib.hid (show flagsTo y (k + 1) = F ++ [x] by rw [HS.out, if_pos hb])
        rw [hb] at d2 u2
        clear HS hb hb2
        go_wp2_with (at_builtin
                     refine wpList_append_own _ rfl (.tmp 22) (.tmp 28) 37 rfl w1.heap.size 26 i0 _ 1 8 Tryd.underlying37 HI.out H0.out H1.out H2.out rfl Nat.one_pos _ m (u64N F) rfl (HO.out.alloc _) ⟨W.heap.size, 0, none⟩ 1 1 [.int .u64 (x : Nat)] rfl rfl (news_one10 W _ _) (by intro v hv; rw [List.mem_singleton.1 hv]; rfl) (by unfold maxLen; omega) (by omega) (by rw [World.size_alloc]; exact Nat.le_succ_of_le PB.out.size) ?_
                     intro v5 w5 o5 hg5 _
                     have O5 := Lib.hid o5
                     have B5 := Lib.hid ((PB.out.alloc PB.out.size (.cells #[.int .u64 (x : Nat)] 26)).grown hg5 (by rw [World.size_alloc]; exact Nat.le_succ_of_le PB.out.size) (fun g hg => ((HO.out.alloc (.cells #[.int .u64 (x : Nat)] 26)).lt g hg).1))
                     clear o5 hg5)
        go_roundw
        case rel =>
            exact ⟨k + 1, by omega, by go_num, Lib.hid (by rw [HS2.out, List.length_append, u64N_snoc, ← HM.out]; exact O5.out), B5⟩
        case measure => simp [intOf]; omega
      · have hb2 : z % 2 = 0 := by omega
        have HS2 := Lib.hid (show flagsTo y (k + 1) = F by rw [HS.out, if_neg hb, List.append_nil])
        rw [hb2] at d2 u2
        clear HS hb hb2
        go_wp2
        go_roundw
        case rel =>
          exact ⟨k + 1, by omega, by go_num, Lib.hid (by rw [HS2.out, ← HM.out]; exact HO.out), PB⟩
        case measure => simp [intOf]; omega
    · obtain rfl : k = 8 := by omega
      obtain ⟨q, c, rfl⟩ := own_sl10 HO.out
      go_wp2
      go_ret
      exact ⟨q, c, rfl, own_low10 HO.out B1.out.size, B1.out.trans (PB.out.mono B1.out.size)⟩
end Go.Proofs.YtnjbmccimdlcmaaDoor
