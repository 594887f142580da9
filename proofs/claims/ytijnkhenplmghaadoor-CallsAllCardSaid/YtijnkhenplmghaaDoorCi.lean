/- The statement CallsAll holds, over what the calls have to return: all calls of an architecture, in the order of their numbers, and what a caller changes does not reach the next answer. -/
import Derived.Test.YtijnkhenplmghaaDoorRows
import Derived.Test.YtijnkhenplmghaaDoorCards
import Derived.Test.YtijnkhenplmghaaDoorTie
import Derived.SevenTiedAt
import Derived.Test.YtijnkhenplmghaaDoorWd
import Derived.Test.YtijnkhenplmghaaDoorLy
import Derived.Test.YtijnkhenplmghaaDoorCt
import Derived.Test.YtijnkhenplmghaaDoorCe
import Derived.Test.YtijnkhenplmghaaDoorCk
namespace Go.Proofs.YtijnkhenplmghaaDoor.callsAll
set_option linter.unusedSimpArgs false
open Go.ChangeShapes Go.WideShapes Go.ChangeAt Go.RowKit
open Go.ChangeMaps (open_string shut_string)
set_option linter.unusedVariables false
attribute [local go_sem ↓] Go.wp_at_zero Go.wp_at_succ
set_option maxRecDepth 100000 in
set_option maxHeartbeats 16000000 in
theorem walk {G : World → Prop} (HC : CallsC G) (a0 : Int) (w : World) (hG : G w) (w0 : (Lit.int .i64 a0).wf = true) :
    Calls Tryd.prog 4 #[.int .i64 a0] w fun e w' => e = .returned (.bool true) ∧ Below w.heap.size w w' := by
  obtain ⟨l0, l1⟩ := bounds_i64 w0
  have HON := Lib.hid (fun (w w' : World) => HC.on (w := w) (w' := w'))
  have HG := Lib.hid hG
  have HAW := Lib.hid (fun (W : World) (g : G W) => awake9_any HC W g)
  have HA := Lib.hid (fun (W : World) (g : G W) => HC.all a0 W g l0 l1)
  have HR := Lib.hid (fun (W : World) => refAll9 a0 W)
  have HLE := Lib.hid (allT_length a0 40)
  obtain ⟨L, hL⟩ : ∃ x, x = allT a0 40 := ⟨_, rfl⟩
  rw [← hL] at HA HR HLE
  obtain ⟨n, hn⟩ : ∃ x, x = L.length := ⟨_, rfl⟩
  rw [← hn] at HA HR HLE
  have HNL := Lib.hid hn
  have n40 : n ≤ 40 := HLE.out
  clear HC hG w0 hL l0 l1 hn HLE
  go_enter Tryd.func4, Tryd.ntmps4
  go_wp2_with (first
    | (go_at_call 16; ((with_reducible refine (HA.out _ HG.out).mono ?_); rintro e v3 ⟨q3, c3, rfl, o3, b3⟩))
    | (go_at_call 17; ((with_reducible refine (HR.out _).mono ?_); rintro e v4 ⟨q4, c4, rfl, o4, b4⟩)))
  have O3 := Lib.hid (ownOn9 o3 b4)
  have O4 := Lib.hid o4
  have B4 := Lib.hid (b3.trans (b4.mono b3.size))
  have S34 := Lib.hid b4.size
  have LT3 := Lib.hid o3.lt
  have W3 := Lib.hid b3.size
  clear o3 o4 b3 b4
  by_cases h0 : n = 0
  · have hi : (n : Int) = 0 := by omega
    subst h0
    have k0 : ((0 : Nat) : Int) = 0 := rfl
    have G4 := Lib.hid (HON.out _ _ HG.out B4.out)
    clear hi
    go_loopw [5] (fun v5 wr => v5 = .int .i64 0 ∧ Hid (Below v4.heap.size v4 wr)) (fun _ _ => 0)
    case atStart => exact ⟨rfl, Lib.hid (Below.refl _ _)⟩
    case round =>
      obtain ⟨rfl, PB⟩ := hrel
      obtain ⟨V, rfl⟩ : ∃ wo : World, wo = wr := ⟨_, rfl⟩
      have hb := PB.out
      go_wp2_with fail
      refine wp_region_held_drew (S := (fun w' => Below v4.heap.size v4 w')) (by kernel_rfl) ?_ (fun hHeld => ?_)
      · exact hb.drew
      refine take_op2 (i := 0) (v := ?_) rfl (by kernel_rfl) (by kernel_rfl) (by kernel_rfl) (fun _ _ _ h => h) (Or.inl ⟨wanted_plain rfl, ?_⟩) (by assumption) ?_
      rotate_left
      · (intro w hSw; (try dsimp only at hSw); go_simp; try with_reducible rfl)
      intro act_ hact_; simp only [Act.put, List.setIfInBounds_toArray, List.set_cons_zero, List.set_cons_succ] at hact_; subst hact_
      refine take_op2 (i := 3) (v := ?_) rfl (by kernel_rfl) (by kernel_rfl) (by kernel_rfl) (fun _ _ _ h => h) (Or.inl ⟨wanted_plain rfl, ?_⟩) (by assumption) ?_
      rotate_left
      · (intro w hSw; (try dsimp only at hSw); go_simp; try with_reducible rfl)
      intro act_ hact_; simp only [Act.put, List.setIfInBounds_toArray, List.set_cons_zero, List.set_cons_succ] at hact_; subst hact_
      refine take_op2 (i := 4) (v := ?_) rfl (by kernel_rfl) (by kernel_rfl) (by kernel_rfl) (fun _ _ _ h => h) (Or.inl ⟨wanted_plain rfl, ?_⟩) (by assumption) ?_
      rotate_left
      · (intro w hSw; (try dsimp only at hSw); go_simp; try with_reducible rfl)
      intro act_ hact_; simp only [Act.put, List.setIfInBounds_toArray, List.set_cons_zero, List.set_cons_succ] at hact_; subst hact_
      refine wpAnyH_ready (rs := [1]) (by kernel_rfl) (List.cons_ne_nil _ _) ?_
      refine AllReadyH.cons rfl (fun K hK => ?_) AllReadyH.nil
      go_simp
      go_wp2_with (go_at_call 16; ((with_reducible refine (HA.out _ (HON.out _ _ G4.out hHeld)).mono ?_); rintro e v5 ⟨q5, c5, rfl, o5, b5⟩))
      refine hK.out _ _ ?_ (fun hHeld => ?_)
      · exact hHeld.trans (b5.mono hHeld.size)
      clear hK K
      refine take_op2 (i := 2) (v := ?_) rfl (by kernel_rfl) (by kernel_rfl) (by kernel_rfl) (fun _ _ _ h => h) (Or.inl ⟨wanted_plain rfl, ?_⟩) (by assumption) ?_
      rotate_left
      · (intro w hSw; (try dsimp only at hSw); go_simp; try with_reducible rfl)
      intro act_ hact_; simp only [Act.put, List.setIfInBounds_toArray, List.set_cons_zero, List.set_cons_succ] at hact_; subst hact_
      refine take_op2 (i := 5) (v := ?_) rfl (by kernel_rfl) (by kernel_rfl) (by kernel_rfl) (fun _ _ _ h => h) (Or.inl ⟨wanted_plain rfl, ?_⟩) (by assumption) ?_
      rotate_left
      · (intro w hSw; (try dsimp only at hSw); go_simp; try with_reducible rfl)
      intro act_ hact_; simp only [Act.put, List.setIfInBounds_toArray, List.set_cons_zero, List.set_cons_succ] at hact_; subst hact_
      refine take_op2 (i := 6) (v := ?_) rfl (by kernel_rfl) (by kernel_rfl) (by kernel_rfl) (fun _ _ _ h => h) (Or.inl ⟨wanted_plain rfl, ?_⟩) (by assumption) ?_
      rotate_left
      · (intro w hSw; (try dsimp only at hSw); go_simp; try with_reducible rfl)
      intro act_ hact_; simp only [Act.put, List.setIfInBounds_toArray, List.set_cons_zero, List.set_cons_succ] at hact_; subst hact_
      refine take_op2 (i := 7) (v := ?_) rfl (by kernel_rfl) (by kernel_rfl) (by kernel_rfl) (fun _ _ _ h => h) (Or.inl ⟨by rfl, ?_⟩) (by assumption) ?_
      rotate_left
      · (intro w hSw; (try dsimp only at hSw); go_simp; try with_reducible rfl)
      intro act_ hact_; simp only [Act.put, List.setIfInBounds_toArray, List.set_cons_zero, List.set_cons_succ] at hact_; subst hact_
      refine take_op2 (i := 8) (v := ?_) rfl (by kernel_rfl) (by kernel_rfl) (by kernel_rfl) (fun _ _ _ h => h) (Or.inl ⟨by rfl, ?_⟩) (by assumption) ?_
      rotate_left
      · (intro w hSw; (try dsimp only at hSw); go_simp; try with_reducible rfl)
      intro act_ hact_; simp only [Act.put, List.setIfInBounds_toArray, List.set_cons_zero, List.set_cons_succ] at hact_; subst hact_
      refine take_op2 (i := 9) (v := ?_) rfl (by kernel_rfl) (by kernel_rfl) (by kernel_rfl) (fun _ _ _ h => h) (Or.inl ⟨by rfl, ?_⟩) (by assumption) ?_
      rotate_left
      · (intro w hSw; (try dsimp only at hSw); go_simp; try with_reducible rfl)
      intro act_ hact_; simp only [Act.put, List.setIfInBounds_toArray, List.set_cons_zero, List.set_cons_succ] at hact_; subst hact_
      refine take_op2 (i := 10) (v := ?_) rfl (by kernel_rfl) (by kernel_rfl) (by kernel_rfl) (fun _ _ _ h => h) (Or.inl ⟨by rfl, ?_⟩) (by assumption) ?_
      rotate_left
      · (intro w hSw; (try dsimp only at hSw); go_simp; try with_reducible rfl)
      intro act_ hact_; simp only [Act.put, List.setIfInBounds_toArray, List.set_cons_zero, List.set_cons_succ] at hact_; subst hact_
      refine take_op2 (i := 11) (v := undef) rfl (by kernel_rfl) (by kernel_rfl) (by kernel_rfl) (fun _ _ _ h => h) (Or.inr ⟨by rfl, rfl⟩) (by assumption) ?_
      intro act_ hact_; simp only [Act.put, List.setIfInBounds_toArray, List.set_cons_zero, List.set_cons_succ] at hact_; subst hact_
      refine take_op2 (i := 12) (v := undef) rfl (by kernel_rfl) (by kernel_rfl) (by kernel_rfl) (fun _ _ _ h => h) (Or.inr ⟨by rfl, rfl⟩) (by assumption) ?_
      intro act_ hact_; simp only [Act.put, List.setIfInBounds_toArray, List.set_cons_zero, List.set_cons_succ] at hact_; subst hact_
      refine take_op2 (i := 13) (v := undef) rfl (by kernel_rfl) (by kernel_rfl) (by kernel_rfl) (fun _ _ _ h => h) (Or.inr ⟨by rfl, rfl⟩) (by assumption) ?_
      intro act_ hact_; simp only [Act.put, List.setIfInBounds_toArray, List.set_cons_zero, List.set_cons_succ] at hact_; subst hact_
      refine take_op2 (i := 14) (v := undef) rfl (by kernel_rfl) (by kernel_rfl) (by kernel_rfl) (fun _ _ _ h => h) (Or.inr ⟨by rfl, rfl⟩) (by assumption) ?_
      intro act_ hact_; simp only [Act.put, List.setIfInBounds_toArray, List.set_cons_zero, List.set_cons_succ] at hact_; subst hact_
      refine take_op2 (i := 15) (v := undef) rfl (by kernel_rfl) (by kernel_rfl) (by kernel_rfl) (fun _ _ _ h => h) (Or.inr ⟨by rfl, rfl⟩) (by assumption) ?_
      intro act_ hact_; simp only [Act.put, List.setIfInBounds_toArray, List.set_cons_zero, List.set_cons_succ] at hact_; subst hact_
      refine take_op2 (i := 16) (v := undef) rfl (by kernel_rfl) (by kernel_rfl) (by kernel_rfl) (fun _ _ _ h => h) (Or.inr ⟨by rfl, rfl⟩) (by assumption) ?_
      intro act_ hact_; simp only [Act.put, List.setIfInBounds_toArray, List.set_cons_zero, List.set_cons_succ] at hact_; subst hact_
      refine take_op2 (i := 17) (v := undef) rfl (by kernel_rfl) (by kernel_rfl) (by kernel_rfl) (fun _ _ _ h => h) (Or.inr ⟨by rfl, rfl⟩) (by assumption) ?_
      intro act_ hact_; simp only [Act.put, List.setIfInBounds_toArray, List.set_cons_zero, List.set_cons_succ] at hact_; subst hact_
      refine take_op2 (i := 18) (v := undef) rfl (by kernel_rfl) (by kernel_rfl) (by kernel_rfl) (fun _ _ _ h => h) (Or.inr ⟨by rfl, rfl⟩) (by assumption) ?_
      intro act_ hact_; simp only [Act.put, List.setIfInBounds_toArray, List.set_cons_zero, List.set_cons_succ] at hact_; subst hact_
      refine take_op2 (i := 19) (v := ?_) rfl (by kernel_rfl) (by kernel_rfl) (by kernel_rfl) (fun _ _ _ h => h) (Or.inl ⟨by rfl, ?_⟩) (by assumption) ?_
      rotate_left
      · (intro w hSw; (try dsimp only at hSw); go_simp; try with_reducible rfl)
      intro act_ hact_; simp only [Act.put, List.setIfInBounds_toArray, List.set_cons_zero, List.set_cons_succ] at hact_; subst hact_
      refine take_op2 (i := 20) (v := ?_) rfl (by kernel_rfl) (by kernel_rfl) (by kernel_rfl) (fun _ _ _ h => h) (Or.inl ⟨wanted_plain rfl, ?_⟩) (by assumption) ?_
      rotate_left
      · (intro w hSw; (try dsimp only at hSw); go_simp; try with_reducible rfl)
      intro act_ hact_; simp only [Act.put, List.setIfInBounds_toArray, List.set_cons_zero, List.set_cons_succ] at hact_; subst hact_
      refine take_op2 (i := 21) (v := ?_) rfl (by kernel_rfl) (by kernel_rfl) (by kernel_rfl) (fun _ _ _ h => h) (Or.inl ⟨wanted_plain rfl, ?_⟩) (by assumption) ?_
      rotate_left
      · (intro w hSw; (try dsimp only at hSw); go_simp; try with_reducible rfl)
      intro act_ hact_; simp only [Act.put, List.setIfInBounds_toArray, List.set_cons_zero, List.set_cons_succ] at hact_; subst hact_
      refine wpAnyH_ready (rs := [22]) (by kernel_rfl) (List.cons_ne_nil _ _) ?_
      refine AllReadyH.cons rfl (fun K hK => ?_) AllReadyH.nil
      go_simp
      go_wp2_with (go_at_call 15; ((with_reducible refine (HAW.out _ (HON.out _ _ G4.out hHeld)).mono ?_); rintro e v6 ⟨rfl, b6⟩))
      refine hK.out _ _ ?_ (fun hHeld => ?_)
      · exact hHeld.trans (b6.mono hHeld.size)
      clear hK K
      refine take_op2 (i := 23) (v := ?_) rfl (by kernel_rfl) (by kernel_rfl) (by kernel_rfl) (fun _ _ _ h => h) (Or.inl ⟨wanted_plain rfl, ?_⟩) (by assumption) ?_
      rotate_left
      · (intro w hSw; (try dsimp only at hSw); go_simp; try with_reducible rfl)
      intro act_ hact_; simp only [Act.put, List.setIfInBounds_toArray, List.set_cons_zero, List.set_cons_succ] at hact_; subst hact_
      refine take_op2 (i := 24) (v := ?_) rfl (by kernel_rfl) (by kernel_rfl) (by kernel_rfl) (fun _ _ _ h => h) (Or.inl ⟨wanted_plain rfl, ?_⟩) (by assumption) ?_
      rotate_left
      · (intro w hSw; (try dsimp only at hSw); go_simp; try with_reducible rfl)
      intro act_ hact_; simp only [Act.put, List.setIfInBounds_toArray, List.set_cons_zero, List.set_cons_succ] at hact_; subst hact_
      refine wpAnyH_done (by kernel_rfl) ?_ _
      go_wp2
      go_ret
      exact ⟨by simp, B4.out.trans (hHeld.mono B4.out.size)⟩
  · have hn1 : 0 < n := by omega
    obtain ⟨g3, d3, e3, f3, h3⟩ := O3.out.form hn1
    injection e3 with e31 e32 e33
    subst e31 e33
    clear e32
    obtain ⟨g4, d4, e4, f4, h4⟩ := O4.out.form hn1
    injection e4 with e41 e42 e43
    subst e41 e43
    clear e42 h3 h4
    have lt3 : g3 < v3.heap.size := (LT3.out g3 rfl).2
    have ge3 : w.heap.size ≤ g3 := (LT3.out g3 rfl).1
    clear LT3 f3 f4
    go_loopw [5] (fun v5 wr => ∃ (k : Nat) (xs : List Value), k ≤ n ∧ v5 = .int .i64 k ∧ Hid (∀ p, k * 2 ≤ p → xs[p]? = (esV L)[p]?) ∧ Hid (wr.ownsRow w.heap.size 37 2 (.slice (some ⟨g3, 0, none⟩) n c3) n xs) ∧ Hid (wr.ownsRow v3.heap.size 37 2 (.slice (some ⟨g4, 0, none⟩) n c4) n (esV L)) ∧ Hid (Below w.heap.size w wr)) (fun v5 _ => n - (intOf v5).toNat)
    case atStart => exact ⟨0, esV L, by omega, rfl, Lib.hid (fun _ _ => rfl), O3, O4, B4⟩
    case round =>
      clear O3 O4 B4
      obtain ⟨k, xs, hk, rfl, PX, P3, P4, PB⟩ := hrel
      obtain ⟨V, rfl⟩ : ∃ wo : World, wo = wr := ⟨_, rfl⟩
      by_cases hlt : k < n
      · have g1 := esV_get (l := L) (i := k) (by rw [← HNL.out]; exact hlt)
        have c30 := (P3.out.cellAt (k * 2) (by omega)).trans ((PX.out _ (by omega)).trans g1.1)
        have c31 := (P3.out.cellAt (k * 2 + 1) (by omega)).trans ((PX.out _ (by omega)).trans g1.2)
        have c40 := (P4.out.cellAt (k * 2) (by omega)).trans g1.1
        have c41 := (P4.out.cellAt (k * 2 + 1) (by omega)).trans g1.2
        have fz := P3.out.frozenAt (k * 2)
        obtain ⟨z, hz⟩ : ∃ z, z = (L.getD k d0).1 := ⟨_, rfl⟩
        obtain ⟨x, hx⟩ : ∃ z, z = (L.getD k d0).2 := ⟨_, rfl⟩
        rw [← hz] at c30 c40
        rw [← hx] at c31 c41
        have tz : (z.toList == z.toList) = true := by simp
        have tz2 : (x == x) = true := by simp
        have k1 : (k : Int) < (n : Int) := by omega
        have k0 : (0 : Int) ≤ k := by omega
        have hw1 : IntKind.i64.wrap ((k : Int) + 1) = k + 1 := by rw [IntKind.wrap_i64]; omega
        clear hz hx g1
        go_wp2_with fail
        go_quiet (fail)
        go_wp2_with fail
        go_roundw
        case rel => exact ⟨k + 1, xs.set (k * 2) (.string ⟨#[103, 111, 110, 101]⟩), by omega, by go_num, Lib.hid (fun p hp => by rw [List.getElem?_set_ne (by omega)]; exact PX.out p (by omega)), Lib.hid (((ownOn9 P3.out (below_drewN (Below.refl _ _) _)).stored (k * 2) _).1), Lib.hid (ownsRow_setCell_below (ownOn9 P4.out (below_drewN (Below.refl _ _) _)) (by exact lt3) _), Lib.hid ((below_drewN PB.out _).setCell (p := ⟨g3, k * 2, none⟩) ge3 _)⟩
        case measure => simp [intOf]; omega
      · obtain rfl : k = n := by omega
        have g1 := esV_get (l := L) (i := 0) (by rw [← HNL.out]; exact hn1)
        have c40 := (P4.out.cellAt 0 (by omega)).trans g1.1
        have c41 := (P4.out.cellAt 1 (by omega)).trans g1.2
        obtain ⟨z, hz⟩ : ∃ z, z = (L.getD 0 d0).1 := ⟨_, rfl⟩
        obtain ⟨x, hx⟩ : ∃ z, z = (L.getD 0 d0).2 := ⟨_, rfl⟩
        have G1 := Lib.hid g1
        rw [← hz] at c40 G1
        rw [← hx] at c41 G1
        have tz : (z.toList == z.toList) = true := by simp
        have tz2 : (x == x) = true := by simp
        have kk : ¬ (k : Int) < k := by omega
        have k1 : (0 : Int) < (k : Int) := by omega
        have e0 : ((k : Int) == 0) = false := beq_eq_false_iff_ne.2 (by omega)
        have GV := Lib.hid (HON.out _ _ HG.out PB.out)
        clear hz hx g1
        go_wp2_with fail
        refine wp_region_held_drew (S := (fun w' => Below V.heap.size V w' ∧ w'.cell? ⟨g4, 0, none⟩ = some (.string z) ∧ w'.cell? ⟨g4, 1, none⟩ = some (.int .u32 x))) (by kernel_rfl) ?_ (fun hHeld => ?_)
        · exact ⟨(Below.refl _ _).drew, c40, c41⟩
        refine take_op2 (i := 0) (v := ?_) rfl (by kernel_rfl) (by kernel_rfl) (by kernel_rfl) (fun _ _ _ h => h) (Or.inl ⟨wanted_plain rfl, ?_⟩) (by assumption) ?_
        rotate_left
        · (intro w hSw; (try dsimp only at hSw); go_simp; try with_reducible rfl)
        intro act_ hact_; simp only [Act.put, List.setIfInBounds_toArray, List.set_cons_zero, List.set_cons_succ] at hact_; subst hact_
        refine take_op2 (i := 3) (v := ?_) rfl (by kernel_rfl) (by kernel_rfl) (by kernel_rfl) (fun _ _ _ h => h) (Or.inl ⟨wanted_plain rfl, ?_⟩) (by assumption) ?_
        rotate_left
        · (intro w hSw; (try dsimp only at hSw); go_simp; try with_reducible rfl)
        intro act_ hact_; simp only [Act.put, List.setIfInBounds_toArray, List.set_cons_zero, List.set_cons_succ] at hact_; subst hact_
        refine take_op2 (i := 4) (v := ?_) rfl (by kernel_rfl) (by kernel_rfl) (by kernel_rfl) (fun _ _ _ h => h) (Or.inl ⟨wanted_plain rfl, ?_⟩) (by assumption) ?_
        rotate_left
        · (intro w hSw; (try dsimp only at hSw); go_simp; try with_reducible rfl)
        intro act_ hact_; simp only [Act.put, List.setIfInBounds_toArray, List.set_cons_zero, List.set_cons_succ] at hact_; subst hact_
        refine wpAnyH_ready (rs := [1]) (by kernel_rfl) (List.cons_ne_nil _ _) ?_
        refine AllReadyH.cons rfl (fun K hK => ?_) AllReadyH.nil
        go_simp
        go_wp2_with (go_at_call 16; ((with_reducible refine (HA.out _ (HON.out _ _ GV.out hHeld.1)).mono ?_); rintro e v5 ⟨q5, c5, rfl, o5, b5⟩))
        refine hK.out _ _ ?_ (fun hHeld => ?_)
        · exact ⟨hHeld.1.trans (b5.mono hHeld.1.size), (b5.cell (World.block_lt_of_cell? _ _ hHeld.2.1)).trans hHeld.2.1, (b5.cell (World.block_lt_of_cell? _ _ hHeld.2.2)).trans hHeld.2.2⟩
        clear hK K
        refine take_op2 (i := 2) (v := ?_) rfl (by kernel_rfl) (by kernel_rfl) (by kernel_rfl) (fun _ _ _ h => h) (Or.inl ⟨wanted_plain rfl, ?_⟩) (by assumption) ?_
        rotate_left
        · (intro w hSw; (try dsimp only at hSw); go_simp; try with_reducible rfl)
        intro act_ hact_; simp only [Act.put, List.setIfInBounds_toArray, List.set_cons_zero, List.set_cons_succ] at hact_; subst hact_
        refine take_op2 (i := 5) (v := ?_) rfl (by kernel_rfl) (by kernel_rfl) (by kernel_rfl) (fun _ _ _ h => h) (Or.inl ⟨wanted_plain rfl, ?_⟩) (by assumption) ?_
        rotate_left
        · (intro w hSw; (try dsimp only at hSw); go_simp; try with_reducible rfl)
        intro act_ hact_; simp only [Act.put, List.setIfInBounds_toArray, List.set_cons_zero, List.set_cons_succ] at hact_; subst hact_
        refine take_op2 (i := 6) (v := ?_) rfl (by kernel_rfl) (by kernel_rfl) (by kernel_rfl) (fun _ _ _ h => h) (Or.inl ⟨wanted_plain rfl, ?_⟩) (by assumption) ?_
        rotate_left
        · (intro w hSw; (try dsimp only at hSw); go_simp; try with_reducible rfl)
        intro act_ hact_; simp only [Act.put, List.setIfInBounds_toArray, List.set_cons_zero, List.set_cons_succ] at hact_; subst hact_
        refine take_op2 (i := 7) (v := ?_) rfl (by kernel_rfl) (by kernel_rfl) (by kernel_rfl) (fun _ _ _ h => h) (Or.inl ⟨by rfl, ?_⟩) (by assumption) ?_
        rotate_left
        · (intro w hSw; (try dsimp only at hSw); go_simp; try with_reducible rfl)
        intro act_ hact_; simp only [Act.put, List.setIfInBounds_toArray, List.set_cons_zero, List.set_cons_succ] at hact_; subst hact_
        refine take_op2 (i := 8) (v := ?_) rfl (by kernel_rfl) (by kernel_rfl) (by kernel_rfl) (fun _ _ _ h => h) (Or.inl ⟨by rfl, ?_⟩) (by assumption) ?_
        rotate_left
        · (intro w hSw; (try dsimp only at hSw); go_simp; try with_reducible rfl)
        intro act_ hact_; simp only [Act.put, List.setIfInBounds_toArray, List.set_cons_zero, List.set_cons_succ] at hact_; subst hact_
        refine take_op2 (i := 9) (v := ?_) rfl (by kernel_rfl) (by kernel_rfl) (by kernel_rfl) (fun _ _ _ h => h) (Or.inl ⟨by rfl, ?_⟩) (by assumption) ?_
        rotate_left
        · (intro w hSw; (try dsimp only at hSw); go_simp; try with_reducible rfl)
        intro act_ hact_; simp only [Act.put, List.setIfInBounds_toArray, List.set_cons_zero, List.set_cons_succ] at hact_; subst hact_
        refine take_op2 (i := 10) (v := ?_) rfl (by kernel_rfl) (by kernel_rfl) (by kernel_rfl) (fun _ _ _ h => h) (Or.inl ⟨by rfl, ?_⟩) (by assumption) ?_
        rotate_left
        · (intro w hSw; (try dsimp only at hSw); go_simp; try with_reducible rfl)
        intro act_ hact_; simp only [Act.put, List.setIfInBounds_toArray, List.set_cons_zero, List.set_cons_succ] at hact_; subst hact_
        refine take_op2 (i := 11) (v := ?_) rfl (by kernel_rfl) (by kernel_rfl) (by kernel_rfl) (fun _ _ _ h => h) (Or.inl ⟨by rfl, ?_⟩) (by assumption) ?_
        rotate_left
        · (intro w hSw; (try dsimp only at hSw); go_simp; try with_reducible rfl)
        intro act_ hact_; simp only [Act.put, List.setIfInBounds_toArray, List.set_cons_zero, List.set_cons_succ] at hact_; subst hact_
        refine take_op2 (i := 15) (v := ?_) rfl (by kernel_rfl) (by kernel_rfl) (by kernel_rfl) (fun _ _ _ h => h) (Or.inl ⟨by rfl, ?_⟩) (by assumption) ?_
        rotate_left
        · (intro w hSw; (try dsimp only at hSw); go_simp; try with_reducible rfl)
        intro act_ hact_; simp only [Act.put, List.setIfInBounds_toArray, List.set_cons_zero, List.set_cons_succ] at hact_; subst hact_
        refine take_op2 (i := 16) (v := ?_) rfl (by kernel_rfl) (by kernel_rfl) (by kernel_rfl) (fun _ _ _ h => h) (Or.inl ⟨by rfl, ?_⟩) (by assumption) ?_
        rotate_left
        · (intro w hSw; (try dsimp only at hSw); go_simp; try with_reducible rfl)
        intro act_ hact_; simp only [Act.put, List.setIfInBounds_toArray, List.set_cons_zero, List.set_cons_succ] at hact_; subst hact_
        refine take_op2 (i := 17) (v := ?_) rfl (by kernel_rfl) (by kernel_rfl) (by kernel_rfl) (fun _ _ _ h => h) (Or.inl ⟨by rfl, ?_⟩) (by assumption) ?_
        rotate_left
        · (intro w hSw; (try dsimp only at hSw); go_simp; try with_reducible rfl)
        intro act_ hact_; simp only [Act.put, List.setIfInBounds_toArray, List.set_cons_zero, List.set_cons_succ] at hact_; subst hact_
        refine wpAnyH_ready (rs := [12]) (by kernel_rfl) (List.cons_ne_nil _ _) ?_
        refine AllReadyH.cons rfl (fun K hK => ?_) AllReadyH.nil
        go_simp
        go_wp2_with (go_at_call 16; ((with_reducible refine (HA.out _ (HON.out _ _ GV.out hHeld.1)).mono ?_); rintro e v6 ⟨q6, c6, rfl, o6, b6⟩))
        obtain ⟨g6, d6, e6, f6, h6⟩ := o6.form hn1
        injection e6 with e61 e62 e63
        subst e61 e63
        clear e62 h6
        have c60 := (o6.cellAt 0 (by omega)).trans G1.out.1
        have c61 := (o6.cellAt 1 (by omega)).trans G1.out.2
        refine hK.out _ _ ?_ (fun hHeld => ?_)
        · exact ⟨hHeld.1.trans (b6.mono hHeld.1.size), (b6.cell (World.block_lt_of_cell? _ _ hHeld.2.1)).trans hHeld.2.1, (b6.cell (World.block_lt_of_cell? _ _ hHeld.2.2)).trans hHeld.2.2⟩
        clear hK K
        refine take_op2 (i := 13) (v := ?_) rfl (by kernel_rfl) (by kernel_rfl) (by kernel_rfl) (fun _ _ _ h => h) (Or.inl ⟨by rfl, ?_⟩) (by assumption) ?_
        rotate_left
        · (intro w hSw; (try dsimp only at hSw); go_simp; try with_reducible rfl)
        intro act_ hact_; simp only [Act.put, List.setIfInBounds_toArray, List.set_cons_zero, List.set_cons_succ] at hact_; subst hact_
        refine wpAnyH_ready (rs := [14]) (by kernel_rfl) (List.cons_ne_nil _ _) ?_
        refine AllReadyH.cons rfl (fun K hK => ?_) AllReadyH.nil
        go_simp
        refine hK.out _ _ ?_ (fun hHeld => ?_)
        · exact hHeld
        clear hK K
        refine take_op2 (i := 18) (v := ?_) rfl (by kernel_rfl) (by kernel_rfl) (by kernel_rfl) (fun _ _ _ h => h) (Or.inl ⟨by rfl, ?_⟩) (by assumption) ?_
        rotate_left
        · (intro w hSw; (try dsimp only at hSw); go_simp; try with_reducible rfl)
        intro act_ hact_; simp only [Act.put, List.setIfInBounds_toArray, List.set_cons_zero, List.set_cons_succ] at hact_; subst hact_
        refine take_op2 (i := 19) (v := ?_) rfl (by kernel_rfl) (by kernel_rfl) (by kernel_rfl) (fun _ _ _ h => h) (Or.inl ⟨by rfl, ?_⟩) (by assumption) ?_
        rotate_left
        · (intro w hSw; (try dsimp only at hSw); go_simp; try with_reducible rfl)
        intro act_ hact_; simp only [Act.put, List.setIfInBounds_toArray, List.set_cons_zero, List.set_cons_succ] at hact_; subst hact_
        refine take_op2 (i := 20) (v := ?_) rfl (by kernel_rfl) (by kernel_rfl) (by kernel_rfl) (fun _ _ _ h => h) (Or.inl ⟨wanted_plain rfl, ?_⟩) (by assumption) ?_
        rotate_left
        · (intro w hSw; (try dsimp only at hSw); go_simp; try with_reducible rfl)
        intro act_ hact_; simp only [Act.put, List.setIfInBounds_toArray, List.set_cons_zero, List.set_cons_succ] at hact_; subst hact_
        refine take_op2 (i := 21) (v := ?_) rfl (by kernel_rfl) (by kernel_rfl) (by kernel_rfl) (fun _ _ _ h => h) (Or.inl ⟨wanted_plain rfl, ?_⟩) (by assumption) ?_
        rotate_left
        · (intro w hSw; (try dsimp only at hSw); go_simp; try with_reducible rfl)
        intro act_ hact_; simp only [Act.put, List.setIfInBounds_toArray, List.set_cons_zero, List.set_cons_succ] at hact_; subst hact_
        refine wpAnyH_ready (rs := [22]) (by kernel_rfl) (List.cons_ne_nil _ _) ?_
        refine AllReadyH.cons rfl (fun K hK => ?_) AllReadyH.nil
        go_simp
        go_wp2_with (go_at_call 15; ((with_reducible refine (HAW.out _ (HON.out _ _ GV.out hHeld.1)).mono ?_); rintro e v7 ⟨rfl, b7⟩))
        refine hK.out _ _ ?_ (fun hHeld => ?_)
        · exact ⟨hHeld.1.trans (b7.mono hHeld.1.size), (b7.cell (World.block_lt_of_cell? _ _ hHeld.2.1)).trans hHeld.2.1, (b7.cell (World.block_lt_of_cell? _ _ hHeld.2.2)).trans hHeld.2.2⟩
        clear hK K
        refine take_op2 (i := 23) (v := ?_) rfl (by kernel_rfl) (by kernel_rfl) (by kernel_rfl) (fun _ _ _ h => h) (Or.inl ⟨wanted_plain rfl, ?_⟩) (by assumption) ?_
        rotate_left
        · (intro w hSw; (try dsimp only at hSw); go_simp; try with_reducible rfl)
        intro act_ hact_; simp only [Act.put, List.setIfInBounds_toArray, List.set_cons_zero, List.set_cons_succ] at hact_; subst hact_
        refine take_op2 (i := 24) (v := ?_) rfl (by kernel_rfl) (by kernel_rfl) (by kernel_rfl) (fun _ _ _ h => h) (Or.inl ⟨wanted_plain rfl, ?_⟩) (by assumption) ?_
        rotate_left
        · (intro w hSw; (try dsimp only at hSw); go_simp; try with_reducible rfl)
        intro act_ hact_; simp only [Act.put, List.setIfInBounds_toArray, List.set_cons_zero, List.set_cons_succ] at hact_; subst hact_
        refine wpAnyH_done (by kernel_rfl) ?_ _
        go_wp2
        go_ret
        exact ⟨by simp, PB.out.trans (hHeld.1.mono PB.out.size)⟩

set_option maxRecDepth 100000 in
theorem lifted (HC : CallsC GA8) (os : Os) (started : os.Started) (H : Type) (enc : TypeId × Value → H) :
    ReturnsInHanded {} Tryd.checked os 4 .any (fun w args => (Rows.callsAllSpec.pre enc Tryd.prog Tryd.f4 [] false w args ∧ laidMetH Tryd.prog listed8 w) ∧ sizedMet enc Tryd.prog Tryd.f4 (OpenSpec.ofChange Rows.callsAllSpec) false w args)
      (Rows.callsAllSpec.post enc Tryd.prog Tryd.f4 false true false false) := by
  refine returnsInHanded_of_change_and (C := Tryd.checked) (X := fun w _ => laidMetH Tryd.prog listed8 w) (fun _ _ _ hh h => h.of_heap hh) ownKnob_none started (by kernel_rfl) Tryd.func4
    (ChangeSpec.witness_shaped (enc := enc) (C := Tryd.checked) (os := os) (X := fun w _ => laidMetH Tryd.prog listed8 w) false (World.doorLaid Tryd.prog 4000 os) #[.int .i64 0] 8 rfl (World.shaped_of_RefB (by kernel_rfl) (by kernel_rfl)) (by kernel_rfl) (by kernel_rfl) (by kernel_rfl) (door_met8 os _)) ?_
  intro W base args ds gs before hval0 hW _ _ hL _
  have hG : GA8 W := of_laid8 hL
  have hval : ∀ (j : Nat) t v, Tryd.f4.params[j]? = some t → args[j]? = some v → Value.okWide Tryd.prog W .any base t v := hval0
  have hW' := hW
  obtain ⟨p, q, hA0, hV, rfl, hfz, hnd⟩ := hW
  have hA : DataW.TrodAll enc Tryd.prog W 0 (fun _ => true) true Tryd.f4.params.toList args.toList ds p := hA0
  rw [Tryd.params4] at hA hval
  obtain ⟨v0, vs0, d0, ds0, p0, q0, hargs, rfl, rfl, h0, r0⟩ := trodAll_cons hA
  obtain ⟨rfl, rfl, rfl⟩ := trodAll_nil r0
  obtain rfl : args = #[v0] := by cases args; simp_all
  obtain ⟨rfl, rfl⟩ := trodVars_none hV
  obtain ⟨a0, rfl, rfl, rfl, w0⟩ := open_int Tryd.underlying3 (hval 0 3 v0 rfl rfl) h0
  clear hA0 hval0
  simp only [List.append_nil] at hW'
  refine (walk HC a0 W hG w0).mono fun e W' ⟨he, bel⟩ => ?_
  subst he
  exact ⟨_, rfl, _, _, _, [], [], [], hW', trodAll_mk1 (shut_bool Tryd.underlying4 _), (trodAll_cons_mk (shut_int Tryd.underlying3 w0) trodAll_mk0), rfl, bel.frame _, fun h => by cases h⟩

theorem over (HC : CallsC GA8) : Rows.callsAllRow.holds Tryd.pinned (OpenSpec.ofChange Rows.callsAllSpec) :=
  OpenClaim.holds_of_wide 4 Tryd.f4 rfl rfl rfl rfl rfl rfl rfl ⟨rfl, rfl, rfl, rfl, rfl⟩ rfl rfl rfl rfl rfl (by kernel_rfl) Tryd.func4 (by kernel_rfl)
    (of_decide_eq_true (by kernel_rfl)) (by unfold Func.isWrapper; first | (rw [if_pos (by decide +kernel)]; kernel_rfl) | (rw [if_neg (by decide +kernel)]; exact ⟨rfl, rfl⟩))
    (fun os started H enc _ => lifted HC os started H enc)

/-- The row's statement. -/
theorem row_holds : Rows.CallsAllSaid := over callsC
/-- The statement: the row, its table tied to the program's text. -/
theorem proved : Rows.CallsAllCardSaid :=
  Claim7.holds_tied_plain_at .later [] [.data] true Rows.callsAllCard.stood.harness Rows.callsAllCard.stood.looks
    row_holds (fun _ h => by cases h) (by kernel_rfl) (fun _ h => by cases h) callsAll_row_tie rfl ⟨rfl, rfl⟩ (by kernel_rfl) rfl
    (fun f fn hf hfn => by
      obtain rfl : f = 4 := Option.some.inj ((show Tryd.prog.funcNamed "vestibule/vestibulelaw09.CallsAll" = some 4 by kernel_rfl).symm.trans hf) |>.symm
      obtain rfl : fn = Tryd.f4 := (Option.some.inj (Tryd.func4.symm.trans hfn)).symm
      exact ⟨by kernel_rfl, fun j t ht => by
        have hm : t ∈ Tryd.f4.params.toList := by simpa using Array.mem_of_getElem? ht
        have hall : (Tryd.f4.params.toList.all fun u => !Tryd.prog.wantsStandIn u) = true := by kernel_rfl
        exact (show Tryd.prog.wantsStandIn t = false by simpa using List.all_eq_true.1 hall t hm)⟩)
    (by kernel_rfl)
#print axioms proved
end Go.Proofs.YtijnkhenplmghaaDoor.callsAll
