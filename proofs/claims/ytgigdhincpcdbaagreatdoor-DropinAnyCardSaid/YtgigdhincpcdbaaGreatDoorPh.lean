/- Are files more than is gone through; are assignments the same; what the calls of the package dropin have to return. Condition: files that lie in memory. -/
import Derived.Test.YtgigdhincpcdbaaGreatDoorPg
namespace Go.Proofs.YtgigdhincpcdbaaGreatDoor
open Go.RowKit
set_option linter.unusedVariables false
set_option linter.unusedSimpArgs false
attribute [local go_sem ↓] Go.wp_at_zero Go.wp_at_succ

theorem great13 (f0 : ByteArray) (d0 : Int) (p0 : Option Addr) (len0 cap0 : Nat) (W : World) : Calls Tryz.prog 21 #[.agg #[.string f0, .int .i64 d0, .slice p0 len0 cap0]] W fun e w' => e = .returned (.bool (decide (70000 < len0) || decide (200 < f0.size))) ∧ Below W.heap.size W w' := by
  by_cases h1 : 70000 < len0
  · rw [decide_eq_true h1, Bool.true_or]
    have i1 : (len0 : Int) > 70000 := by omega
    have i2 : (70000 : Int) < len0 := by omega
    clear h1
    go_enter Tryz.func21, Tryz.ntmps21
    go_wp2_with fail
    go_ret
    exact ⟨rfl, (Below.refl _ _).alloc (Nat.le_refl _) _⟩
  · rw [decide_eq_false h1, Bool.false_or]
    have i1 : ¬ (len0 : Int) > 70000 := by omega
    have i2 : (len0 : Int) ≤ 70000 := by omega
    clear h1
    by_cases h2 : 200 < f0.size
    · rw [decide_eq_true h2]
      have i3 : (200 : Int) < f0.size := by omega
      have i4 : (f0.size : Int) > 200 := by omega
      clear h2
      go_enter Tryz.func21, Tryz.ntmps21
      go_wp2_with fail
      go_ret
      exact ⟨by first | rfl | simp, (Below.refl _ _).alloc (Nat.le_refl _) _⟩
    · rw [decide_eq_false h2]
      have i3 : ¬ (200 : Int) < f0.size := by omega
      have i4 : ¬ (f0.size : Int) > 200 := by omega
      clear h2
      go_enter Tryz.func21, Tryz.ntmps21
      go_wp2_with fail
      go_ret
      exact ⟨by first | rfl | simp, (Below.refl _ _).alloc (Nat.le_refl _) _⟩
set_option maxHeartbeats 4000000 in
theorem sameA14 (u v : Value) (O : List Asn) (w : World) (hu : RowsAt 5 encA w u O) (hv : RowsAt 5 encA w v O) (hO : O.length ≤ 1000000) : Calls Tryz.prog 18 #[u, v] w fun e w' => e = .returned (.bool true) ∧ Below w.heap.size w w' := by
  obtain ⟨q1, c1, rfl, hr1⟩ := hu
  obtain ⟨q2, c2, rfl, hr2⟩ := hv
  have H1 := Lib.hid hr1
  have H2 := Lib.hid hr2
  obtain ⟨n, hn⟩ : ∃ n, n = O.length := ⟨_, rfl⟩
  have HN := Lib.hid hn
  rw [← hn] at hO ⊢
  clear hr1 hr2 hn
  have t1 : ((n : Int) != (n : Int)) = false := by simp
  go_enter Tryz.func18, Tryz.ntmps18
  go_wp2_with fail
  go_loopw [5] (fun v5 wr => ∃ k : Nat, k ≤ n ∧ v5 = .int .i64 k ∧ Hid (Below w.heap.size w wr)) (fun v5 _ => n - (intOf v5).toNat)
  case atStart => exact ⟨0, by omega, rfl, Lib.hid (Below.refl _ _)⟩
  case round =>
    obtain ⟨k, hk, rfl, PB⟩ := hrel
    obtain ⟨V, rfl⟩ : ∃ wo : World, wo = wr := ⟨_, rfl⟩
    by_cases hlt : k < n
    · have hx : O[k]? = some (O[k]'(by rw [← HN.out]; exact hlt)) := List.getElem?_eq_getElem _
      obtain ⟨p, hp⟩ : ∃ p, p = O[k]'(by rw [← HN.out]; exact hlt) := ⟨_, rfl⟩
      rw [← hp] at hx
      obtain ⟨g1, o1, rfl, d1⟩ := H1.out k p hx
      obtain ⟨g2, o2, rfl, d2⟩ := H2.out k p hx
      have x0 := (PB.out.cell (World.block_lt_of_cell? w _ (d1 0 _ rfl))).trans (d1 0 _ rfl)
      have x1 := (PB.out.cell (World.block_lt_of_cell? w _ (d1 1 _ rfl))).trans (d1 1 _ rfl)
      have x2 := (PB.out.cell (World.block_lt_of_cell? w _ (d1 2 _ rfl))).trans (d1 2 _ rfl)
      have x3 := (PB.out.cell (World.block_lt_of_cell? w _ (d1 3 _ rfl))).trans (d1 3 _ rfl)
      have x4 := (PB.out.cell (World.block_lt_of_cell? w _ (d1 4 _ rfl))).trans (d1 4 _ rfl)
      have y0 := (PB.out.cell (World.block_lt_of_cell? w _ (d2 0 _ rfl))).trans (d2 0 _ rfl)
      have y1 := (PB.out.cell (World.block_lt_of_cell? w _ (d2 1 _ rfl))).trans (d2 1 _ rfl)
      have y2 := (PB.out.cell (World.block_lt_of_cell? w _ (d2 2 _ rfl))).trans (d2 2 _ rfl)
      have y3 := (PB.out.cell (World.block_lt_of_cell? w _ (d2 3 _ rfl))).trans (d2 3 _ rfl)
      have y4 := (PB.out.cell (World.block_lt_of_cell? w _ (d2 4 _ rfl))).trans (d2 4 _ rfl)
      rw [Nat.add_zero] at x0 y0
      have k1 : (k : Int) < n := by omega
      have k0 : (0 : Int) ≤ k := by omega
      have hw1 : IntKind.i64.wrap ((k : Int) + 1) = k + 1 := by rw [IntKind.wrap_i64]; omega
      obtain ⟨f0, f1, f2, f3, f4⟩ := p
      clear hx hp d1 d2
      have e0 : (f0.toList == f0.toList) = true := by simp
      have e1 : (f1 == f1) = true := by simp
      have e2 : (f2.toList == f2.toList) = true := by simp
      have e3 : (f3.toList == f3.toList) = true := by simp
      have e4 : (f4.toList == f4.toList) = true := by simp
      go_wp2_with fail
      go_quiet (fail)
      go_wp2_with fail
      go_roundw
      case rel => exact ⟨k + 1, by omega, by go_num, Lib.hid (Go.below_drewN PB.out _)⟩
      case measure => simp [intOf]; omega
    · obtain rfl : k = n := by omega
      have k1 : ¬ (k : Int) < k := by omega
      go_wp2_with fail
      go_ret
      exact ⟨rfl, PB.out⟩
/-- None of the files is more than is gone through. -/
def SmallF (f : Fle) : Prop := f.len ≤ 70000 ∧ f.name.size ≤ 200
def SmallAll (n : Nat) (m : Fle) (D : List Fle) : Prop := n ≤ 20 ∧ ∀ f ∈ m :: D, SmallF f
theorem small_of {f : Fle} (h : (decide (70000 < f.len) || decide (200 < f.name.size)) = false) : SmallF f := by
  rw [Bool.or_eq_false_iff, decide_eq_false_iff_not, decide_eq_false_iff_not] at h
  exact ⟨by omega, by omega⟩
set_option maxRecDepth 100000 in
set_option maxHeartbeats 16000000 in
theorem great14 (m : Fle) (D : List Fle) (a : Option Addr) (n cap : Nat) (w : World) (h : FsAt w a n cap D) : Calls Tryz.prog 8 #[.agg #[.string m.name, .int .i64 m.dir, .slice m.ptr m.len m.cap], .slice a n cap] w fun e w' =>
    ∃ b, e = .returned (.bool b) ∧ (b = false → SmallAll n m D) ∧ Below w.heap.size w w' := by
  have HGT := Lib.hid (fun (f : Fle) (W : World) => great13 f.name f.dir f.ptr f.len f.cap W)
  obtain ⟨g, o, hbase, hcells⟩ := h.base
  have HA := Lib.hid hbase
  have HCL := Lib.hid (fun (W : World) (b : Below w.heap.size w W) k (hk : k < n) => (show W.cell? ⟨g, o + k * 3, none⟩ = some (.string (D.getD k f0).name) ∧ W.cell? ⟨g, o + k * 3 + 1, none⟩ = some (.int .i64 (D.getD k f0).dir) ∧ W.cell? ⟨g, o + k * 3 + 2, none⟩ = some (.slice (D.getD k f0).ptr (D.getD k f0).len (D.getD k f0).cap) from
    ⟨(b.cell (World.block_lt_of_cell? w _ (hcells k hk).1)).trans (hcells k hk).1, (b.cell (World.block_lt_of_cell? w _ (hcells k hk).2.1)).trans (hcells k hk).2.1, (b.cell (World.block_lt_of_cell? w _ (hcells k hk).2.2)).trans (hcells k hk).2.2⟩))
  have HALL := Lib.hid (fun (h0 : SmallF m) (h1 : ∀ j, j < n → SmallF (D.getD j f0)) => show ∀ f ∈ m :: D, SmallF f from fun f hf => by
    rcases List.mem_cons.1 hf with e | e
    · rw [e]; exact h0
    · obtain ⟨j, hj, e2⟩ := List.mem_iff_getElem.1 e
      have := h1 j (by rw [← h.len]; exact hj)
      rwa [List.getD_eq_getElem?_getD, List.getElem?_eq_getElem hj, Option.getD_some, e2] at this)
  have B0 := Lib.hid ((Below.refl w.heap.size w).alloc (Nat.le_refl _) (.cells #[.string m.name, .int .i64 m.dir, .slice m.ptr m.len m.cap] 24))
  have HBX := Lib.hid (heap_alloc_new w (.cells #[.string m.name, .int .i64 m.dir, .slice m.ptr m.len m.cap] 24))
  have HSM := Lib.hid (fun h => small_of (f := m) h)
  have HS2 := Lib.hid (fun (k : Nat) h => small_of (f := D.getD k f0) h)
  have HG0 := Lib.hid (fun W => HGT.out m W)
  obtain ⟨B, hB⟩ : ∃ B, B = (decide (70000 < m.len) || decide (200 < m.name.size)) := ⟨_, rfl⟩
  rw [← hB] at HSM
  have HG1 := Lib.hid (fun W => (show Calls Tryz.prog 21 #[.agg #[.string m.name, .int .i64 m.dir, .slice m.ptr m.len m.cap]] W fun e w' => e = .returned (.bool B) ∧ Below W.heap.size W w' from by rw [hB]; exact HG0.out W))
  clear h hbase hcells HG0 hB
  cases B with
  | true =>
    go_enter Tryz.func8, Tryz.ntmps8
    go_wp2_with (go_at_call 21; ((with_reducible refine (HG1.out _).mono ?_); rintro e w1 ⟨rfl, b1⟩))
    go_ret
    exact ⟨_, rfl, fun h => (by cases h), thn13 B0.out b1⟩
  | false =>
    have HM := Lib.hid (HSM.out rfl)
    have HML := Lib.hid (show m.len ≤ 70000 from HM.out.1)
    clear HSM
    by_cases hn : 20 < n
    · have n1 : (20 : Int) < n := by omega
      have n2 : (n : Int) > 20 := n1
      clear hn
      go_enter Tryz.func8, Tryz.ntmps8
      go_wp2_with (go_at_call 21; ((with_reducible refine (HG1.out _).mono ?_); rintro e w1 ⟨rfl, b1⟩))
      go_ret
      exact ⟨_, rfl, fun h => (by cases h), thn13 B0.out b1⟩
    · have n1 : ¬ (20 : Int) < n := by omega
      have n2 : ¬ (n : Int) > 20 := n1
      have HN20 := Lib.hid hn
      clear hn
      go_enter Tryz.func8, Tryz.ntmps8
      go_wp2_with (first
        | (go_at_call 21
           with_reducible refine (HG1.out _).mono ?_
           rintro e W ⟨rfl, b1⟩
           have x2 := (cell_of_row W w.heap.size 2 _ _ (0, 0) ((b1.block w.heap.size (by rw [World.size_alloc]; exact Nat.lt_succ_self _)).trans HBX.out)).trans (show _ = some (Value.slice m.ptr m.len m.cap) from rfl)
           have B1 := Lib.hid (thn13 B0.out b1)
           clear b1))
      go_loopw [5, 6] (fun v5 v6 wr => ∃ (k : Nat) (t : Int), k ≤ n ∧ v6 = .int .i64 k ∧ v5 = .int .i64 t ∧ Hid (0 ≤ t ∧ t ≤ 70000 + k * 70000) ∧ Hid (∀ j, j < k → SmallF (D.getD j f0)) ∧ Hid (Below w.heap.size w wr)) (fun _ v6 _ => n - (intOf v6).toNat)
      case atStart => exact ⟨0, (m.len : Int), Nat.zero_le _, rfl, rfl, Lib.hid ⟨by omega, by have := HML.out; omega⟩, Lib.hid (fun j hj => absurd hj (Nat.not_lt_zero _)), B1⟩
      case round =>
        obtain ⟨k, t, hk, rfl, rfl, HT, HJ, PB⟩ := hrel
        obtain ⟨V, rfl⟩ : ∃ wo : World, wo = wr := ⟨_, rfl⟩
        by_cases hlt : k < n
        · obtain rfl := HA.out (by omega)
          obtain ⟨c0, c1, c2⟩ := HCL.out V PB.out k hlt
          have HC2 := Lib.hid (fun (W : World) (b : Below w.heap.size w W) => (HCL.out W b k hlt).2.2)
          have k1 : (k : Int) < n := by omega
          have k0 : (0 : Int) ≤ k := by omega
          have hw1 : IntKind.i64.wrap ((k : Int) + 1) = k + 1 := by have := HN20.out; rw [IntKind.wrap_i64]; omega
          have HGK := Lib.hid (fun W => HGT.out (D.getD k f0) W)
          have HSK := Lib.hid (HS2.out k)
          obtain ⟨d, hd⟩ : ∃ d, d = D.getD k f0 := ⟨_, rfl⟩
          rw [← hd] at c0 c1 c2 HC2 HGK HSK
          have HD := Lib.hid hd
          obtain ⟨B, hB⟩ : ∃ B, B = (decide (70000 < d.len) || decide (200 < d.name.size)) := ⟨_, rfl⟩
          rw [← hB] at HSK
          have HGB := Lib.hid (fun W => (show Calls Tryz.prog 21 #[.agg #[.string d.name, .int .i64 d.dir, .slice d.ptr d.len d.cap]] W fun e w' => e = .returned (.bool B) ∧ Below W.heap.size W w' from by rw [hB]; exact HGK.out W))
          clear hd hB HGK
          cases B with
          | true =>
            go_wp2_with (go_at_call 21; ((with_reducible refine (HGB.out _).mono ?_); rintro e w1 ⟨rfl, b1⟩))
            go_ret
            exact ⟨_, rfl, fun h => (by cases h), thn13 PB.out b1⟩
          | false =>
            have HSM := Lib.hid (HSK.out rfl)
            have hdl : d.len ≤ 70000 := HSM.out.1
            have HTN := Lib.hid (show 0 ≤ t + (d.len : Int) ∧ t + (d.len : Int) ≤ 70000 + ((k + 1 : Nat) : Int) * 70000 from by have := HT.out; omega)
            have hw2 : IntKind.i64.wrap (t + (d.len : Int)) = t + d.len := by have := HTN.out; have := HN20.out; rw [IntKind.wrap_i64]; omega
            clear hdl HSK
            go_wp2_with (first
              | (go_at_call 21
                 with_reducible refine (HGB.out _).mono ?_
                 rintro e W2 ⟨rfl, b2⟩
                 have B2 := Lib.hid (thn13 PB.out b2)
                 have y2 := HC2.out W2 B2.out
                 clear b2))
            go_roundw
            case rel => exact ⟨k + 1, t + d.len, by omega, by go_num, rfl, HTN, Lib.hid (fun j hj => by
              by_cases e : j = k
              · rw [e, ← HD.out]; exact HSM.out
              · exact HJ.out j (by omega)), B2⟩
            case measure => simp [intOf]; omega
        · obtain rfl : k = n := by omega
          have k1 : ¬ (k : Int) < k := by omega
          have HE := Lib.hid (show SmallAll k m D from ⟨by have := HN20.out; omega, HALL.out HM.out HJ.out⟩)
          by_cases ht : (100000 : Int) < t
          · have t2 : t > 100000 := ht
            go_wp2_with fail
            go_ret
            first | exact ⟨true, rfl, fun _ => HE.out, PB.out⟩ | exact Or.inr ⟨rfl, PB.out⟩
          · have t2 : ¬ t > 100000 := ht
            go_wp2_with fail
            go_ret
            first | exact ⟨false, rfl, fun _ => HE.out, PB.out⟩ | exact Or.inl ⟨rfl, HE.out, PB.out⟩
/-- What dropin.May, Order, Merge have to return, over what must lie in memory. -/
structure DropinC (G : World → Prop) : Prop where
  on : ∀ {w w' : World}, G w → Below w.heap.size w w' → G w'
  may : ∀ (s : ByteArray) (w : World), G w → s.size ≤ 4294967280 → Calls Tryz.prog 13 #[.string s] w fun e w' => e = .returned (.bool (mayL s.data.toList)) ∧ Below w.heap.size w w'
  order : ∀ (m : Fle) (D : List Fle) (a : Option Addr) (n cap : Nat) (w : World), G w → FleAt w.heap.size w m → FsAt w a n cap D → (∀ f ∈ m :: D, f.len ≤ 1000000 ∧ f.name.size ≤ 1000000) → n ≤ 1000 → Calls Tryz.prog 10 #[.agg #[.string m.name, .int .i64 m.dir, .slice m.ptr m.len m.cap], .slice a n cap] w fun e w' =>
    ∃ v L, e = .returned (.tuple #[v, .int .i64 (ordE D)]) ∧ NewF w.heap.size w' v L ∧ L.map Fle.fil = (ordL m D).map Fle.fil ∧ Below w.heap.size w w'
  merge : ∀ (m : Fle) (D : List Fle) (a : Option Addr) (n cap : Nat) (w : World), G w → FleAt w.heap.size w m → FsAt w a n cap D → (∀ f ∈ m :: D, f.len ≤ 1000000 ∧ f.name.size ≤ 1000000) → n ≤ 1000 → Calls Tryz.prog 16 #[.agg #[.string m.name, .int .i64 m.dir, .slice m.ptr m.len m.cap], .slice a n cap] w fun e w' =>
    ∃ va vn, e = .returned (.tuple #[va, vn]) ∧ RowsAt 5 encA w' va (mrgA m D) ∧ RowsAt 4 encN w' vn (mrgN m D) ∧ Below w.heap.size w w'
end Go.Proofs.YtgigdhincpcdbaaGreatDoor
