/- The landed fold's notes, kinds of values, modes, effects. No condition. -/
import Derived.Test.YtickkaeaaemakaaGreatDoorF7
import Derived.Laws.EntriesVeiled
namespace Go.Proofs.YtickkaeaaemakaaGreatDoor
open Go.RowKit Go.Shelf
set_option linter.unusedVariables false
set_option linter.unusedSimpArgs false
attribute [local go_sem ↓] Go.wp_at_zero Go.wp_at_succ

set_option maxRecDepth 100000 in
set_option maxHeartbeats 8000000 in
theorem note_c (E : Int) (x : ByteArray) (w : World) (hx : x.size ≤ 1000000) : Calls Tryz.prog 35 #[.int .i64 E, .string x] w fun e w' => e = .returned (.agg #[.string ⟨#[]⟩, .int .i64 0, .int .i64 E, .string (bs (x.data.toList.take 60))]) ∧ Below w.heap.size w w' := by
  obtain ⟨k, hk⟩ : ∃ k, k = min x.size 60 := ⟨_, rfl⟩
  have HT := Lib.hid (show x.extract 0 k = bs (x.data.toList.take 60) by
    have h : x.size = x.data.toList.length := rfl
    rw [← bs_self x, bs_subV, bs_list, List.drop_zero, Nat.sub_zero]
    congr 1
    rw [List.take_eq_take_iff]
    omega)
  have hmin : min (x.size : Int) 60 = k := by omega
  have k0 : (0 : Int) ≤ k := by omega
  have k1 : (k : Int) ≤ x.size := by omega
  clear hk hx
  go_enter Tryz.func35, Tryz.ntmps35
  go_wp2
  refine bodyPost_ret (v := .agg #[.string ⟨#[]⟩, .int .i64 0, .int .i64 E, .string (x.extract 0 k)]) (by simp [results, Tryz.results35, go_sem]) rfl ⟨by rw [HT.out], (Below.refl _ _).alloc (Nat.le_refl _) _⟩
theorem turn_le (s : ByteArray) : (turnR s).1.size ≤ s.size := by
  unfold turnR
  split
  · show (bs (s.data.toList.drop 1)).size ≤ s.size
    rw [bs_size, List.length_drop]
    have : s.data.toList.length = s.size := by simp
    omega
  · exact Nat.le_refl _
set_option maxRecDepth 100000 in
set_option maxHeartbeats 8000000 in
theorem kind_c (s : ByteArray) (w : World) (hs : s.size ≤ 1000000) : Calls Tryz.prog 32 #[.string s] w fun e w' => ∃ q c, e = .returned (.tuple #[.int .i64 (if (turnR s).2 = true then 1 else 0), .slice q (wdL (turnR s).1.data.toList).length c]) ∧ w'.ownsRow w.heap.size 9 1 (.slice q (wdL (turnR s).1.data.toList).length c) (wdL (turnR s).1.data.toList).length (sL (wdL (turnR s).1.data.toList)) ∧ Below w.heap.size w w' := by
  have HT := Lib.hid (fun (W : World) => turned15 s W)
  have HW := Lib.hid (fun (W : World) => words_c (turnR s).1 W (Nat.le_trans (turn_le s) hs))
  generalize wdL (turnR s).1.data.toList = L at HW ⊢
  obtain ⟨X, hX⟩ : ∃ X, X = (turnR s).1 := ⟨_, rfl⟩
  rw [← hX] at HT HW
  clear hs hX
  cases ht : (turnR s).2 with
  | true =>
    rw [ht] at HT
    rw [if_pos rfl]
    clear ht
    go_enter Tryz.func32, Tryz.ntmps32
    go_wp2_with (first
      | (go_at_call 30; ((with_reducible refine (HT.out _).mono ?_); rintro e w1 ⟨rfl, b1⟩))
      | (go_at_call 29; ((with_reducible refine (HW.out _).mono ?_); rintro e w2 ⟨q, c, rfl, o2, b2⟩)))
    go_ret2
    exact ⟨q, c, rfl, owns_low16 o2 b1.size, thn16 b1 b2⟩
  | false =>
    rw [ht] at HT
    rw [if_neg Bool.noConfusion]
    clear ht
    go_enter Tryz.func32, Tryz.ntmps32
    go_wp2_with (first
      | (go_at_call 30; ((with_reducible refine (HT.out _).mono ?_); rintro e w1 ⟨rfl, b1⟩))
      | (go_at_call 29; ((with_reducible refine (HW.out _).mono ?_); rintro e w2 ⟨q, c, rfl, o2, b2⟩)))
    go_ret2
    exact ⟨q, c, rfl, owns_low16 o2 b1.size, thn16 b1 b2⟩
theorem begun_c (m : Nat) (t : Bool) (w : World) : Calls Tryz.prog 33 #[.int .u8 (m : Nat), .int .i64 (if t = true then 1 else 0)] w fun e w' => e = .returned (.int .u8 (modeF m t : Nat)) ∧ w = w' := by
  unfold modeF
  by_cases h : m = 0
  · subst h
    rw [if_pos rfl]
    cases t with
    | true =>
      rw [if_pos rfl, if_pos rfl]
      go_enter Tryz.func33, Tryz.ntmps33
      go_wp2
      go_ret
      exact ⟨rfl, rfl⟩
    | false =>
      rw [if_neg Bool.noConfusion, if_neg Bool.noConfusion]
      go_enter Tryz.func33, Tryz.ntmps33
      go_wp2
      go_ret
      exact ⟨rfl, rfl⟩
  · rw [if_neg h]
    have h1 : ((m : Int) != 0) = true := bne_iff_ne.2 (by omega)
    obtain ⟨mi, hmi⟩ : ∃ x : Int, x = (m : Nat) := ⟨_, rfl⟩
    rw [← hmi] at h1 ⊢
    clear h hmi
    generalize (if t = true then (1 : Int) else 0) = kk
    go_enter Tryz.func33, Tryz.ntmps33
    go_wp2
    go_ret
    exact ⟨rfl, rfl⟩
/-- What becomes of calls through one of that name: a call is put, or taken. -/
def putV (b : Nat) : Value := .func (.func 54) #[] #[.pointer (some ⟨b, 0, none⟩)]
def woV : Value := .func (.func 46) #[] #[]
def effT (b : Nat) (has : Bool) : Value := .agg #[.nilFunc, .nilFunc, putV b, if has = true then putV b else woV, woV, putV b]
def putB (m : Nat) (t has : Bool) : Bool := (decide (m = 1) && (!t || has)) || (decide (m = 2) && t)
def chgV (b m : Nat) (t has : Bool) : Value := if putB m t has = true then putV b else woV
theorem run_eff (b : Nat) (has : Bool) (m : Nat) (t : Bool) (hm : m = 1 ∨ m = 2) : ∃ R, (∀ w, (Instr.index 66 (effT b has) (.int .u8 (m : Nat))).run Tryz.prog w = .ok R w) ∧ ∀ w, (Instr.index 65 R (.int .i64 (if t = true then 1 else 0))).run Tryz.prog w = .ok (chgV b m t has) w := by
  rcases hm with rfl | rfl <;> cases t <;> cases has
  · exact ⟨.agg #[putV b, woV], fun w => by kernel_rfl, fun w => by kernel_rfl⟩
  · exact ⟨.agg #[putV b, putV b], fun w => by kernel_rfl, fun w => by kernel_rfl⟩
  · exact ⟨.agg #[putV b, woV], fun w => by kernel_rfl, fun w => by kernel_rfl⟩
  · exact ⟨.agg #[putV b, putV b], fun w => by kernel_rfl, fun w => by kernel_rfl⟩
  · exact ⟨.agg #[woV, putV b], fun w => by kernel_rfl, fun w => by kernel_rfl⟩
  · exact ⟨.agg #[woV, putV b], fun w => by kernel_rfl, fun w => by kernel_rfl⟩
  · exact ⟨.agg #[woV, putV b], fun w => by kernel_rfl, fun w => by kernel_rfl⟩
  · exact ⟨.agg #[woV, putV b], fun w => by kernel_rfl, fun w => by kernel_rfl⟩
set_option maxRecDepth 100000 in
set_option maxHeartbeats 8000000 in
theorem effects_c (nm : ByteArray) (ai : Int) (has : Bool) (w : World) : Calls Tryz.prog 36 #[.agg #[.string nm, .int .u32 ai, .bool has]] w fun e w' => e = .returned (effT w.heap.size has) ∧ w'.heap[w.heap.size]? = some (.cells #[.string nm, .int .u32 ai, .bool has] 57 (0, 0)) ∧ Below w.heap.size w w' := by
  cases has with
  | true =>
    go_enter Tryz.func36, Tryz.ntmps36
    go_wp2
    refine bodyPost_ret (v := effT w.heap.size true) (by simp [results, Tryz.results36, go_sem, effT, putV, woV]) rfl ⟨rfl, ?_, ((Below.refl _ _).alloc (Nat.le_refl _) _).alloc (by rw [World.size_alloc]; omega) _⟩
    exact heap_old16 w _ _
  | false =>
    go_enter Tryz.func36, Tryz.ntmps36
    go_wp2
    refine bodyPost_ret (v := effT w.heap.size false) (by simp [results, Tryz.results36, go_sem, effT, putV, woV]) rfl ⟨rfl, ?_, ((Below.refl _ _).alloc (Nat.le_refl _) _).alloc (by rw [World.size_alloc]; omega) _⟩
    exact heap_old16 w _ _
set_option maxRecDepth 100000 in
set_option maxHeartbeats 8000000 in
theorem eff1_c (W : World) (B : Nat) (v : Value) (n : Nat) (L : List Cl) (s nm : ByteArray) (a : Nat) (has : Bool) (b : Nat) (hb : W.heap[b]? = some (.cells #[.string nm, .int .u32 (a : Nat), .bool has] 57 (0, 0))) (hO : W.ownsRow B 51 2 v n (rowC encC L)) (hn : n = L.length) (hA : Asc16 L) (hl : n ≤ 100000) (hBW : B ≤ W.heap.size) :
    Calls Tryz.prog 54 #[v, .string s, .pointer (some ⟨b, 0, none⟩)] W fun e w' => ∃ v' n', e = .returned v' ∧ n' = (putC L s a).length ∧ w'.ownsRow B 51 2 v' n' (rowC encC (putC L s a)) ∧ W.grownBy w' v.ownBlock ∧ ∀ k, v'.ownBlock = some k → v.ownBlock = some k ∨ W.heap.size ≤ k := by
  have HW := Lib.hid (with_c W B v n L s a hO hn hA hl hBW)
  obtain ⟨ai, hai⟩ : ∃ x : Int, x = (a : Nat) := ⟨_, rfl⟩
  rw [← hai] at HW hb
  obtain ⟨R, hR⟩ : ∃ R, R = putC L s a := ⟨_, rfl⟩
  rw [← hR] at HW ⊢
  have c1 := (cell_of_row W b 1 _ _ (0, 0) hb).trans (show _ = some (Value.int .u32 ai) from rfl)
  clear hb hO hn hA hl hBW hai hR
  go_enter Tryz.func54, Tryz.ntmps54
  go_wp2_with (go_at_call 45; ((with_reducible refine (HW.out).mono ?_); rintro e w1 ⟨v1, n1, rfl, h1, h2, h3, h4⟩))
  go_ret
  exact ⟨v1, n1, rfl, h1, h2, h3, h4⟩
end Go.Proofs.YtickkaeaaemakaaGreatDoor
