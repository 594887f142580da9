/- What find finds in the landed package calls: the first row of which it is so. -/
import Derived.Test.YtijnkhenplmghaaDoorCo
namespace Go.Proofs.YtijnkhenplmghaaDoor
open Go.RowKit
set_option linter.unusedVariables false
attribute [local go_sem ↓] Go.wp_at_zero Go.wp_at_succ

theorem results_two9 {fn : Func} {tmps : Array Value} {w : World} {t u : Nat} {ty : TypeId} {p : Addr} {v x : Value} (hr : fn.results = #[.cell t ty, .tmp u]) (ha : tmps.getD t undef = .pointer (some p)) (hu : tmps.getD u undef = x) (hl : (loadVar ty p).run Tryd.prog w = .ok v w) : (results fn tmps).run Tryd.prog w = .ok (.tuple #[v, x]) w := by
  have ha' : tmps[t]?.getD undef = .pointer (some p) := by simpa using ha
  have hu' : tmps[u]?.getD undef = x := by simpa using hu
  simp [results, hr, asAddr, ha', hu', hl]
set_option maxHeartbeats 1600000 in
theorem find9_n (p : Nat → Bool) (b : Nat) (w : World) (HP : ∀ (k : Nat) (W : World), k < 40 → Below w.heap.size w W → Calls Tryd.prog 27 #[.agg (rL k).toArray, .pointer (some ⟨b, 0, none⟩)] W fun e w' => e = .returned (.bool (p k)) ∧ Below W.heap.size W w') :
    Calls Tryd.prog 22 #[.func (.func 27) #[] #[.pointer (some ⟨b, 0, none⟩)]] w fun e w' => e = .returned (.tuple #[.agg (rowR p).toArray, .bool (firstT p 40).isSome]) ∧ Below w.heap.size w w' := by
  have HT := Lib.hid (fun W => table9 W)
  have HIN := Lib.hid (show (Tryd.prog.info? 46).map (·.size) = some 7 from by kernel_rfl)
  have HP := Lib.hid HP
  go_enter Tryd.func22, Tryd.ntmps22
  go_wp2_with (go_at_call 21; ((with_reducible refine (HT.out _).mono ?_); rintro e w1 ⟨rfl, b1⟩); have HZ := Lib.hid ((b1.block w.heap.size (by rw [World.size_alloc]; exact Nat.lt_succ_self _)).trans (heap_alloc_new w _)); have hlt1 := Lib.hid (show w.heap.size < w1.heap.size from Nat.lt_of_lt_of_le (by rw [World.size_alloc]; exact Nat.lt_succ_self _) b1.size); have B1 := Lib.hid (thn9 ((Below.refl _ _).alloc (Nat.le_refl _) _) b1); clear b1)
  clear HT
  go_loopw [7] (fun i wr => ∃ k : Nat, k ≤ 40 ∧ i = .int .i64 k ∧ Hid (firstT p k = none) ∧ Hid (Below w1.heap.size w1 wr)) (fun i _ => 40 - (intOf i).toNat)
  case atStart => exact ⟨0, by omega, rfl, Lib.hid rfl, Lib.hid (Below.refl _ _)⟩
  case round =>
    obtain ⟨k, hk, rfl, hm, hB⟩ := hrel
    have hsz := hB.out.size
    by_cases hlt : k < 40
    · have k1 : (k : Int) < 40 := by omega
      have k0 : (0 : Int) ≤ k := by omega
      have HK := Lib.hid (fun W hb => HP.out k W hlt hb)
      have HH := Lib.hid (fun h => (first_hit hm.out h hlt : firstT p 40 = some k))
      have HS := Lib.hid (fun h => (first_miss hm.out h : firstT p (k + 1) = none))
      have HQ := Lib.hid (show firstT p 40 = some k → rowR p = rL k from fun h => by unfold rowR; rw [h])
      have HR := Lib.hid (show (rL k).toArray = #[.string (nmT k), .int .i16 (mN k 0), .int .i16 (mN k 1), .int .i16 (mN k 2), .int .i16 (mN k 3), .int .i16 (mN k 4), .int .i16 (mN k 5)] from by rw [rL_is k hlt])
      rw [HR.out] at HK
      rw [rL_is k hlt] at HQ
      generalize nmT k = x at HR HK HQ
      generalize mN k 0 = n0 at HR HK HQ
      generalize mN k 1 = n1 at HR HK HQ
      generalize mN k 2 = n2 at HR HK HQ
      generalize mN k 3 = n3 at HR HK HQ
      generalize mN k 4 = n4 at HR HK HQ
      generalize mN k 5 = n5 at HR HK HQ
      generalize p k = y at HK HH HS
      clear HP hm
      cases y
      · have hv := Lib.hid (HS.out rfl)
        clear HS HH HQ
        go_wp2_with (first
          | ((with_reducible show wpList _ _ _ (⟨some 9, _, _, _, _, _⟩ :: _) _ _)
             refine wpList_row9 rfl (.tmp 6) (.tmp 7) rfl k hlt rfl rfl ?_
             rw [HR.out])
          | (go_at_call 27; ((with_reducible refine (HK.out _ (thn9 B1.out (hB.out.alloc hsz _))).mono ?_); rintro e w2 ⟨rfl, b2⟩); have B2 := Lib.hid (thn9 (hB.out.alloc hsz _) b2)))
        go_roundw
        case rel => exact ⟨k + 1, by omega, by go_num, hv, B2⟩
        case measure => simp [intOf]; omega
      · have hv := Lib.hid (HH.out rfl)
        have hq := Lib.hid (HQ.out hv.out)
        clear HS HH HQ
        go_wp2_with (first
          | ((with_reducible show wpList _ _ _ (⟨some 9, _, _, _, _, _⟩ :: _) _ _)
             refine wpList_row9 rfl (.tmp 6) (.tmp 7) rfl k hlt rfl rfl ?_
             rw [HR.out])
          | (go_at_call 27; ((with_reducible refine (HK.out _ (thn9 B1.out (hB.out.alloc hsz _))).mono ?_); rintro e w2 ⟨rfl, b2⟩); have B2 := Lib.hid (thn9 (hB.out.alloc hsz _) b2); have hr2 := (b2.block wr.heap.size (by rw [World.size_alloc]; exact Nat.lt_succ_self _)).trans (heap_alloc_new wr _); have c0 := (cell_of_row w2 wr.heap.size 0 _ _ (0, 0) hr2).trans (show _ = some (Value.string x) from rfl); have c1 := (cell_of_row w2 wr.heap.size 1 _ _ (0, 0) hr2).trans (show _ = some (Value.int .i16 n0) from rfl); have c2 := (cell_of_row w2 wr.heap.size 2 _ _ (0, 0) hr2).trans (show _ = some (Value.int .i16 n1) from rfl); have c3 := (cell_of_row w2 wr.heap.size 3 _ _ (0, 0) hr2).trans (show _ = some (Value.int .i16 n2) from rfl); have c4 := (cell_of_row w2 wr.heap.size 4 _ _ (0, 0) hr2).trans (show _ = some (Value.int .i16 n3) from rfl); have c5 := (cell_of_row w2 wr.heap.size 5 _ _ (0, 0) hr2).trans (show _ = some (Value.int .i16 n4) from rfl); have c6 := (cell_of_row w2 wr.heap.size 6 _ _ (0, 0) hr2).trans (show _ = some (Value.int .i16 n5) from rfl); clear hr2)
          | ((with_reducible show wpList _ _ _ (⟨none, .store 46 (.tmp 2) (.tmp 13), _, _, _, _⟩ :: _) _ _)
             have hz2 := (B2.out.block w.heap.size hlt1.out).trans HZ.out
             obtain ⟨hl, hb3⟩ := ret9 hz2 (thn9 B1.out B2.out) (Nat.le_refl _) x n0 n1 n2 n3 n4 n5
             refine wpList_store_mid rfl 46 (.tmp 2) (.tmp 13) rfl w.heap.size 0 #[.string x, .int .i16 n0, .int .i16 n1, .int .i16 n2, .int .i16 n3, .int .i16 n4, .int .i16 n5] rfl rfl (row_there9 hz2) HIN.out (one9 x n0 n1 n2 n3 n4 n5) ?_
             show wpList _ _ _ _ _ (w2.setCells w.heap.size 0 [.string x, .int .i16 n0, .int .i16 n1, .int .i16 n2, .int .i16 n3, .int .i16 n4, .int .i16 n5])
             generalize w2.setCells w.heap.size 0 [.string x, .int .i16 n0, .int .i16 n1, .int .i16 n2, .int .i16 n3, .int .i16 n4, .int .i16 n5] = w3 at hl hb3 ⊢))
        rw [hv.out, hq.out]
        exact bodyPost_ret (v := .tuple #[.agg #[.string x, .int .i16 n0, .int .i16 n1, .int .i16 n2, .int .i16 n3, .int .i16 n4, .int .i16 n5], .bool true]) (results_two9 Tryd.results22 rfl rfl hl) rfl ⟨rfl, hb3⟩
    · obtain rfl : k = 40 := by omega
      have hq := Lib.hid (show rowR p = [.string ⟨#[]⟩, .int .i16 0, .int .i16 0, .int .i16 0, .int .i16 0, .int .i16 0, .int .i16 0] from by unfold rowR; rw [hm.out])
      have hz2 := (hB.out.block w.heap.size hlt1.out).trans HZ.out
      obtain ⟨hl, hb3⟩ := ret9 hz2 (thn9 B1.out hB.out) (Nat.le_refl _) ⟨#[]⟩ 0 0 0 0 0 0
      go_wp2_with ((with_reducible show wpList _ _ _ (⟨none, .store 46 (.tmp 2) (.tmp 15), _, _, _, _⟩ :: _) _ _)
                   refine wpList_store_mid rfl 46 (.tmp 2) (.tmp 15) rfl w.heap.size 0 #[.string ⟨#[]⟩, .int .i16 0, .int .i16 0, .int .i16 0, .int .i16 0, .int .i16 0, .int .i16 0] rfl rfl (row_there9 hz2) HIN.out (one9 ⟨#[]⟩ 0 0 0 0 0 0) ?_
                   show wpList _ _ _ _ _ (wr.setCells w.heap.size 0 [.string ⟨#[]⟩, .int .i16 0, .int .i16 0, .int .i16 0, .int .i16 0, .int .i16 0, .int .i16 0])
                   generalize wr.setCells w.heap.size 0 [.string ⟨#[]⟩, .int .i16 0, .int .i16 0, .int .i16 0, .int .i16 0, .int .i16 0, .int .i16 0] = w3 at hl hb3 ⊢)
      rw [hm.out, hq.out]
      exact bodyPost_ret (v := .tuple #[.agg #[.string ⟨#[]⟩, .int .i16 0, .int .i16 0, .int .i16 0, .int .i16 0, .int .i16 0, .int .i16 0], .bool false]) (results_two9 Tryd.results22 rfl rfl hl) rfl ⟨rfl, hb3⟩
set_option maxHeartbeats 1600000 in
theorem find9_m (p : Nat → Bool) (b c : Nat) (w : World) (HP : ∀ (k : Nat) (W : World), k < 40 → Below w.heap.size w W → Calls Tryd.prog 23 #[.agg (rL k).toArray, .pointer (some ⟨b, 0, none⟩), .pointer (some ⟨c, 0, none⟩)] W fun e w' => e = .returned (.bool (p k)) ∧ Below W.heap.size W w') :
    Calls Tryd.prog 22 #[.func (.func 23) #[] #[.pointer (some ⟨b, 0, none⟩), .pointer (some ⟨c, 0, none⟩)]] w fun e w' => e = .returned (.tuple #[.agg (rowR p).toArray, .bool (firstT p 40).isSome]) ∧ Below w.heap.size w w' := by
  have HT := Lib.hid (fun W => table9 W)
  have HIN := Lib.hid (show (Tryd.prog.info? 46).map (·.size) = some 7 from by kernel_rfl)
  have HP := Lib.hid HP
  go_enter Tryd.func22, Tryd.ntmps22
  go_wp2_with (go_at_call 21; ((with_reducible refine (HT.out _).mono ?_); rintro e w1 ⟨rfl, b1⟩); have HZ := Lib.hid ((b1.block w.heap.size (by rw [World.size_alloc]; exact Nat.lt_succ_self _)).trans (heap_alloc_new w _)); have hlt1 := Lib.hid (show w.heap.size < w1.heap.size from Nat.lt_of_lt_of_le (by rw [World.size_alloc]; exact Nat.lt_succ_self _) b1.size); have B1 := Lib.hid (thn9 ((Below.refl _ _).alloc (Nat.le_refl _) _) b1); clear b1)
  clear HT
  go_loopw [7] (fun i wr => ∃ k : Nat, k ≤ 40 ∧ i = .int .i64 k ∧ Hid (firstT p k = none) ∧ Hid (Below w1.heap.size w1 wr)) (fun i _ => 40 - (intOf i).toNat)
  case atStart => exact ⟨0, by omega, rfl, Lib.hid rfl, Lib.hid (Below.refl _ _)⟩
  case round =>
    obtain ⟨k, hk, rfl, hm, hB⟩ := hrel
    have hsz := hB.out.size
    by_cases hlt : k < 40
    · have k1 : (k : Int) < 40 := by omega
      have k0 : (0 : Int) ≤ k := by omega
      have HK := Lib.hid (fun W hb => HP.out k W hlt hb)
      have HH := Lib.hid (fun h => (first_hit hm.out h hlt : firstT p 40 = some k))
      have HS := Lib.hid (fun h => (first_miss hm.out h : firstT p (k + 1) = none))
      have HQ := Lib.hid (show firstT p 40 = some k → rowR p = rL k from fun h => by unfold rowR; rw [h])
      have HR := Lib.hid (show (rL k).toArray = #[.string (nmT k), .int .i16 (mN k 0), .int .i16 (mN k 1), .int .i16 (mN k 2), .int .i16 (mN k 3), .int .i16 (mN k 4), .int .i16 (mN k 5)] from by rw [rL_is k hlt])
      rw [HR.out] at HK
      rw [rL_is k hlt] at HQ
      generalize nmT k = x at HR HK HQ
      generalize mN k 0 = n0 at HR HK HQ
      generalize mN k 1 = n1 at HR HK HQ
      generalize mN k 2 = n2 at HR HK HQ
      generalize mN k 3 = n3 at HR HK HQ
      generalize mN k 4 = n4 at HR HK HQ
      generalize mN k 5 = n5 at HR HK HQ
      generalize p k = y at HK HH HS
      clear HP hm
      cases y
      · have hv := Lib.hid (HS.out rfl)
        clear HS HH HQ
        go_wp2_with (first
          | ((with_reducible show wpList _ _ _ (⟨some 9, _, _, _, _, _⟩ :: _) _ _)
             refine wpList_row9 rfl (.tmp 6) (.tmp 7) rfl k hlt rfl rfl ?_
             rw [HR.out])
          | (go_at_call 23; ((with_reducible refine (HK.out _ (thn9 B1.out (hB.out.alloc hsz _))).mono ?_); rintro e w2 ⟨rfl, b2⟩); have B2 := Lib.hid (thn9 (hB.out.alloc hsz _) b2)))
        go_roundw
        case rel => exact ⟨k + 1, by omega, by go_num, hv, B2⟩
        case measure => simp [intOf]; omega
      · have hv := Lib.hid (HH.out rfl)
        have hq := Lib.hid (HQ.out hv.out)
        clear HS HH HQ
        go_wp2_with (first
          | ((with_reducible show wpList _ _ _ (⟨some 9, _, _, _, _, _⟩ :: _) _ _)
             refine wpList_row9 rfl (.tmp 6) (.tmp 7) rfl k hlt rfl rfl ?_
             rw [HR.out])
          | (go_at_call 23; ((with_reducible refine (HK.out _ (thn9 B1.out (hB.out.alloc hsz _))).mono ?_); rintro e w2 ⟨rfl, b2⟩); have B2 := Lib.hid (thn9 (hB.out.alloc hsz _) b2); have hr2 := (b2.block wr.heap.size (by rw [World.size_alloc]; exact Nat.lt_succ_self _)).trans (heap_alloc_new wr _); have c0 := (cell_of_row w2 wr.heap.size 0 _ _ (0, 0) hr2).trans (show _ = some (Value.string x) from rfl); have c1 := (cell_of_row w2 wr.heap.size 1 _ _ (0, 0) hr2).trans (show _ = some (Value.int .i16 n0) from rfl); have c2 := (cell_of_row w2 wr.heap.size 2 _ _ (0, 0) hr2).trans (show _ = some (Value.int .i16 n1) from rfl); have c3 := (cell_of_row w2 wr.heap.size 3 _ _ (0, 0) hr2).trans (show _ = some (Value.int .i16 n2) from rfl); have c4 := (cell_of_row w2 wr.heap.size 4 _ _ (0, 0) hr2).trans (show _ = some (Value.int .i16 n3) from rfl); have c5 := (cell_of_row w2 wr.heap.size 5 _ _ (0, 0) hr2).trans (show _ = some (Value.int .i16 n4) from rfl); have c6 := (cell_of_row w2 wr.heap.size 6 _ _ (0, 0) hr2).trans (show _ = some (Value.int .i16 n5) from rfl); clear hr2)
          | ((with_reducible show wpList _ _ _ (⟨none, .store 46 (.tmp 2) (.tmp 13), _, _, _, _⟩ :: _) _ _)
             have hz2 := (B2.out.block w.heap.size hlt1.out).trans HZ.out
             obtain ⟨hl, hb3⟩ := ret9 hz2 (thn9 B1.out B2.out) (Nat.le_refl _) x n0 n1 n2 n3 n4 n5
             refine wpList_store_mid rfl 46 (.tmp 2) (.tmp 13) rfl w.heap.size 0 #[.string x, .int .i16 n0, .int .i16 n1, .int .i16 n2, .int .i16 n3, .int .i16 n4, .int .i16 n5] rfl rfl (row_there9 hz2) HIN.out (one9 x n0 n1 n2 n3 n4 n5) ?_
             show wpList _ _ _ _ _ (w2.setCells w.heap.size 0 [.string x, .int .i16 n0, .int .i16 n1, .int .i16 n2, .int .i16 n3, .int .i16 n4, .int .i16 n5])
             generalize w2.setCells w.heap.size 0 [.string x, .int .i16 n0, .int .i16 n1, .int .i16 n2, .int .i16 n3, .int .i16 n4, .int .i16 n5] = w3 at hl hb3 ⊢))
        rw [hv.out, hq.out]
        exact bodyPost_ret (v := .tuple #[.agg #[.string x, .int .i16 n0, .int .i16 n1, .int .i16 n2, .int .i16 n3, .int .i16 n4, .int .i16 n5], .bool true]) (results_two9 Tryd.results22 rfl rfl hl) rfl ⟨rfl, hb3⟩
    · obtain rfl : k = 40 := by omega
      have hq := Lib.hid (show rowR p = [.string ⟨#[]⟩, .int .i16 0, .int .i16 0, .int .i16 0, .int .i16 0, .int .i16 0, .int .i16 0] from by unfold rowR; rw [hm.out])
      have hz2 := (hB.out.block w.heap.size hlt1.out).trans HZ.out
      obtain ⟨hl, hb3⟩ := ret9 hz2 (thn9 B1.out hB.out) (Nat.le_refl _) ⟨#[]⟩ 0 0 0 0 0 0
      go_wp2_with ((with_reducible show wpList _ _ _ (⟨none, .store 46 (.tmp 2) (.tmp 15), _, _, _, _⟩ :: _) _ _)
                   refine wpList_store_mid rfl 46 (.tmp 2) (.tmp 15) rfl w.heap.size 0 #[.string ⟨#[]⟩, .int .i16 0, .int .i16 0, .int .i16 0, .int .i16 0, .int .i16 0, .int .i16 0] rfl rfl (row_there9 hz2) HIN.out (one9 ⟨#[]⟩ 0 0 0 0 0 0) ?_
                   show wpList _ _ _ _ _ (wr.setCells w.heap.size 0 [.string ⟨#[]⟩, .int .i16 0, .int .i16 0, .int .i16 0, .int .i16 0, .int .i16 0, .int .i16 0])
                   generalize wr.setCells w.heap.size 0 [.string ⟨#[]⟩, .int .i16 0, .int .i16 0, .int .i16 0, .int .i16 0, .int .i16 0, .int .i16 0] = w3 at hl hb3 ⊢)
      rw [hm.out, hq.out]
      exact bodyPost_ret (v := .tuple #[.agg #[.string ⟨#[]⟩, .int .i16 0, .int .i16 0, .int .i16 0, .int .i16 0, .int .i16 0, .int .i16 0], .bool false]) (results_two9 Tryd.results22 rfl rfl hl) rfl ⟨rfl, hb3⟩
end Go.Proofs.YtijnkhenplmghaaDoor
