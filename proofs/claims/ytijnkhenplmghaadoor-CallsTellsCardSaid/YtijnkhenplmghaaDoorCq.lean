/- The landed calls.Known, Number, Name: as the chapter says. -/
import Derived.Test.YtijnkhenplmghaaDoorCp
namespace Go.Proofs.YtijnkhenplmghaaDoor
open Go.RowKit
set_option linter.unusedVariables false
attribute [local go_sem ↓] Go.wp_at_zero Go.wp_at_succ

theorem rowR_is (p : Nat → Bool) : ∃ x n0 n1 n2 n3 n4 n5, rowR p = [.string x, .int .i16 n0, .int .i16 n1, .int .i16 n2, .int .i16 n3, .int .i16 n4, .int .i16 n5] := by
  unfold rowR
  cases h : firstT p 40 with
  | none => exact ⟨_, _, _, _, _, _, _, rfl⟩
  | some j => exact ⟨_, _, _, _, _, _, _, rL_is j (first_some h).1⟩
theorem first_congr {p q : Nat → Bool} : ∀ {n : Nat}, (∀ j, j < n → p j = q j) → firstT p n = firstT q n
  | 0, _ => rfl
  | n + 1, h => by
    unfold firstT
    rw [first_congr (n := n) fun j hj => h j (by omega), h n (by omega)]
def nameP (s : ByteArray) (j : Nat) : Bool := decide (nmT j = s)
def numP (a nr : Int) (j : Nat) : Bool := okT a j && decide (onN a j = nr)
theorem numR_at {a : Int} {s : ByteArray} {j : Nat} (hj : j < 40) (h : nmT j = s) : numR a s = if okT a j = true then (onN a j, 0) else (0, 90) := by
  unfold numR
  cases hf : firstT (fun j => decide (nmT j = s) && okT a j) 40 with
  | some i =>
    have h2 := first_some hf
    simp only [Bool.and_eq_true, decide_eq_true_eq] at h2
    have e : i = j := nmT_inj i h2.1 j hj (h2.2.1.trans h.symm)
    subst e
    rw [if_pos h2.2.2]
    unfold onN
    rw [if_pos h2.2.2]
  | none =>
    have h2 := first_none hf j hj
    simp only [Bool.and_eq_false_iff, decide_eq_false_iff_not] at h2
    rcases h2 with h2 | h2
    · exact absurd h h2
    · rw [if_neg (by rw [h2]; decide)]
theorem numR_none {a : Int} {s : ByteArray} (h : firstT (nameP s) 40 = none) : numR a s = (0, 90) := by
  unfold numR
  cases hf : firstT (fun j => decide (nmT j = s) && okT a j) 40 with
  | some i =>
    have h2 := first_some hf
    simp only [Bool.and_eq_true, decide_eq_true_eq] at h2
    have h3 := first_none h i h2.1
    unfold nameP at h3
    exact absurd h2.2.1 (of_decide_eq_false h3)
  | none => rfl
theorem namR_is (a nr : Int) : .string (namR a nr) = (rowR (numP a nr)).headD undef := by
  have e : firstT (fun j => decide (numR a (nmT j) = (nr, 0))) 40 = firstT (numP a nr) 40 := first_congr fun j hj => by
    unfold numP
    rw [numR_at hj rfl]
    by_cases h : okT a j = true
    · rw [if_pos h, h, Bool.true_and]
      rw [Bool.eq_iff_iff, decide_eq_true_iff, decide_eq_true_iff]
      exact ⟨fun h => (Prod.mk.inj h).1, fun h => by rw [h]⟩
    · rw [if_neg h]
      have h0 : okT a j = false := by simpa using h
      rw [h0, Bool.false_and, decide_eq_false]
      intro e
      exact absurd (Prod.mk.inj e).2 (by decide)
  unfold namR rowR
  rw [e]
  cases h : firstT (numP a nr) 40 with
  | none => rfl
  | some j => rfl
set_option maxHeartbeats 1600000 in
theorem named9 (s : ByteArray) (w : World) : Calls Tryd.prog 18 #[.string s] w fun e w' => e = .returned (.tuple #[.agg (rowR (nameP s)).toArray, .bool (firstT (nameP s) 40).isSome]) ∧ Below w.heap.size w w' := by
  have HF := Lib.hid (find9_n (nameP s) w.heap.size ((w.alloc (.cells #[.string s] 9)).alloc (.cells #[.string ⟨#[]⟩, .int .i16 0, .int .i16 0, .int .i16 0, .int .i16 0, .int .i16 0, .int .i16 0] 46)) fun k W hk hb => nclos k hk s w.heap.size W (by
    rw [hb.cell (p := ⟨w.heap.size, 0, none⟩) (by rw [World.size_alloc, World.size_alloc]; show w.heap.size < _; omega), World.cell?_alloc_lt _ _ _ (by rw [World.size_alloc]; exact Nat.lt_succ_self _), cell_of_row _ _ _ _ _ (0, 0) (heap_alloc_new w _)]; rfl))
  obtain ⟨x, n0, n1, n2, n3, n4, n5, hx⟩ := rowR_is (nameP s)
  rw [hx] at HF ⊢
  generalize (firstT (nameP s) 40).isSome = y at HF ⊢
  have HIN := Lib.hid (show (Tryd.prog.info? 46).map (·.size) = some 7 from by kernel_rfl)
  have HA1 := Lib.hid (show ((w.alloc (.cells #[.string s] 9)).alloc (.cells #[.string ⟨#[]⟩, .int .i16 0, .int .i16 0, .int .i16 0, .int .i16 0, .int .i16 0, .int .i16 0] 46)).heap[w.heap.size + 1]? = some (.cells #[.string ⟨#[]⟩, .int .i16 0, .int .i16 0, .int .i16 0, .int .i16 0, .int .i16 0, .int .i16 0] 46 (0, 0)) from by
    rw [show w.heap.size + 1 = (w.alloc (.cells #[.string s] 9)).heap.size from (World.size_alloc _ _).symm]; exact heap_alloc_new _ _)
  have HS1 := Lib.hid (show w.heap.size + 1 < ((w.alloc (.cells #[.string s] 9)).alloc (.cells #[.string ⟨#[]⟩, .int .i16 0, .int .i16 0, .int .i16 0, .int .i16 0, .int .i16 0, .int .i16 0] 46)).heap.size from by rw [World.size_alloc, World.size_alloc]; exact Nat.lt_succ_self _)
  clear hx
  go_enter Tryd.func18, Tryd.ntmps18
  go_wp2_with (first
    | (go_at_call 22; ((with_reducible refine (HF.out).mono ?_); rintro e w1 ⟨rfl, b1⟩); have hz := (b1.block (w.heap.size + 1) HS1.out).trans HA1.out; have B1 := Lib.hid (thn9 (((Below.refl w.heap.size w).alloc (Nat.le_refl _) (.cells #[.string s] 9)).alloc (by rw [World.size_alloc]; exact Nat.le_succ _) (.cells #[.string ⟨#[]⟩, .int .i16 0, .int .i16 0, .int .i16 0, .int .i16 0, .int .i16 0, .int .i16 0] 46)) b1); clear b1)
    | ((with_reducible show wpList _ _ _ (⟨none, .store 46 (.tmp 2) (.tmp 6), _, _, _, _⟩ :: _) _ _)
       obtain ⟨hl, hb3⟩ := ret9 hz B1.out (Nat.le_succ _) x n0 n1 n2 n3 n4 n5
       refine wpList_store_mid rfl 46 (.tmp 2) (.tmp 6) rfl (w.heap.size + 1) 0 #[.string x, .int .i16 n0, .int .i16 n1, .int .i16 n2, .int .i16 n3, .int .i16 n4, .int .i16 n5] rfl rfl (row_there9 hz) HIN.out (one9 x n0 n1 n2 n3 n4 n5) ?_
       show wpList _ _ _ _ _ (w1.setCells (w.heap.size + 1) 0 [.string x, .int .i16 n0, .int .i16 n1, .int .i16 n2, .int .i16 n3, .int .i16 n4, .int .i16 n5])
       generalize w1.setCells (w.heap.size + 1) 0 [.string x, .int .i16 n0, .int .i16 n1, .int .i16 n2, .int .i16 n3, .int .i16 n4, .int .i16 n5] = w3 at hl hb3 ⊢))
  exact bodyPost_ret (v := .tuple #[.agg #[.string x, .int .i16 n0, .int .i16 n1, .int .i16 n2, .int .i16 n3, .int .i16 n4, .int .i16 n5], .bool y]) (results_two9 Tryd.results18 rfl rfl hl) rfl ⟨rfl, hb3⟩
theorem known9 (s : ByteArray) (w : World) : Calls Tryd.prog 11 #[.string s] w fun e w' => e = .returned (.bool (knownR s)) ∧ Below w.heap.size w w' := by
  have HF := Lib.hid (fun W => named9 s W)
  rw [show knownR s = (firstT (nameP s) 40).isSome from rfl]
  obtain ⟨x, n0, n1, n2, n3, n4, n5, hx⟩ := rowR_is (nameP s)
  rw [hx] at HF
  generalize (firstT (nameP s) 40).isSome = y at HF ⊢
  clear hx
  go_enter Tryd.func11, Tryd.ntmps11
  go_wp2_with (go_at_call 18; ((with_reducible refine (HF.out _).mono ?_); rintro e w1 ⟨rfl, b1⟩))
  go_ret
  exact ⟨rfl, b1.alloc b1.size _⟩
set_option maxHeartbeats 1600000 in
theorem number9 (a : Int) (s : ByteArray) (w : World) (hG : GA8 w) : Calls Tryd.prog 7 #[.int .i64 a, .string s] w fun e w' => e = .returned (.tuple #[.int .u32 (numR a s).1, .int .i64 (numR a s).2]) ∧ Below w.heap.size w w' := by
  have HF := Lib.hid (fun W => named9 s W)
  cases h : firstT (nameP s) 40 with
  | none =>
    rw [numR_none h]
    obtain ⟨x, n0, n1, n2, n3, n4, n5, hx⟩ := rowR_is (nameP s)
    rw [hx, h] at HF
    clear hx h hG
    go_enter Tryd.func7, Tryd.ntmps7
    go_wp2_with (go_at_call 18; ((with_reducible refine (HF.out _).mono ?_); rintro e w1 ⟨rfl, b1⟩))
    go_ret2
    exact ⟨rfl, b1.alloc b1.size _⟩
  | some j =>
    have hj := (first_some h).1
    have hn : nmT j = s := of_decide_eq_true (first_some h).2
    rw [numR_at hj hn]
    have HO := Lib.hid (fun W g => on9_any a j hj W g)
    rw [h, show rowR (nameP s) = rL j from by unfold rowR; rw [h]] at HF
    rw [rL_is j hj] at HF HO
    have HG := Lib.hid (fun W b => (hG.on b : GA8 W))
    generalize nmT j = x at HF HO
    generalize mN j 0 = n0 at HF HO
    generalize mN j 1 = n1 at HF HO
    generalize mN j 2 = n2 at HF HO
    generalize mN j 3 = n3 at HF HO
    generalize mN j 4 = n4 at HF HO
    generalize mN j 5 = n5 at HF HO
    generalize onN a j = y at HO ⊢
    generalize okT a j = z at HO ⊢
    clear hG h hj hn
    cases z
    all_goals
      go_enter Tryd.func7, Tryd.ntmps7
      go_wp2_with (first
        | (go_at_call 18; ((with_reducible refine (HF.out _).mono ?_); rintro e w1 ⟨rfl, b1⟩); have B1 := Lib.hid (b1.alloc b1.size (.cells #[.string x, .int .i16 n0, .int .i16 n1, .int .i16 n2, .int .i16 n3, .int .i16 n4, .int .i16 n5] 46)))
        | (go_at_call 19; ((with_reducible refine (HO.out _ (HG.out _ B1.out)).mono ?_); rintro e w2 ⟨rfl, b2⟩); have B2 := Lib.hid (thn9 B1.out b2)))
      go_ret2
      exact ⟨rfl, B2.out⟩
set_option maxHeartbeats 1600000 in
theorem namer9 (a nr : Int) (w : World) (hG : GA8 w) : Calls Tryd.prog 13 #[.int .i64 a, .int .u32 nr] w fun e w' => e = .returned (.string (namR a nr)) ∧ Below w.heap.size w w' := by
  have HB := Lib.hid (((Below.refl w.heap.size w).alloc (Nat.le_refl _) (.cells #[.int .i64 a] 3)).alloc (by rw [World.size_alloc]; exact Nat.le_succ _) (.cells #[.int .u32 nr] 22))
  have HF := Lib.hid (find9_m (numP a nr) w.heap.size (w.heap.size + 1) ((w.alloc (.cells #[.int .i64 a] 3)).alloc (.cells #[.int .u32 nr] 22)) fun k W hk hb => mclos k hk a nr w.heap.size (w.heap.size + 1) W (hG.on (thn9 HB.out hb)) (by
      rw [hb.cell (p := ⟨w.heap.size, 0, none⟩) (by rw [World.size_alloc, World.size_alloc]; show w.heap.size < _; omega), World.cell?_alloc_lt _ _ _ (by rw [World.size_alloc]; exact Nat.lt_succ_self _), cell_of_row _ _ _ _ _ (0, 0) (heap_alloc_new w _)]; rfl) (by
      rw [hb.cell (p := ⟨w.heap.size + 1, 0, none⟩) (by rw [World.size_alloc, World.size_alloc]; show w.heap.size + 1 < _; omega), show w.heap.size + 1 = (w.alloc (.cells #[.int .i64 a] 3)).heap.size from (World.size_alloc _ _).symm, cell_of_row _ _ _ _ _ (0, 0) (heap_alloc_new _ _)]; rfl))
  have hh := namR_is a nr
  obtain ⟨x, n0, n1, n2, n3, n4, n5, hx⟩ := rowR_is (numP a nr)
  rw [hx] at HF hh
  have hs : namR a nr = x := Value.string.inj hh
  rw [hs]
  generalize (firstT (numP a nr) 40).isSome = y at HF
  clear hx hs hh hG
  go_enter Tryd.func13, Tryd.ntmps13
  go_wp2_with (go_at_call 22; ((with_reducible refine (HF.out).mono ?_); rintro e w1 ⟨rfl, b1⟩); have B1 := Lib.hid (thn9 HB.out b1); clear b1)
  go_ret
  exact ⟨rfl, B1.out.alloc B1.out.size _⟩
end Go.Proofs.YtijnkhenplmghaaDoor
