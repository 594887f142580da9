/- What the calls of the package unit have to return, as the chapter says it; the statements' own small calls; the chapter's rows. -/
import Derived.Test.YtifjnioichfodaaDoorYf
import Derived.Laws.OwnMore
namespace Go.Proofs.YtifjnioichfodaaDoor
open Go.RowKit
set_option linter.unusedVariables false
set_option linter.unusedSimpArgs false
attribute [local go_sem ↓] Go.wp_at_zero Go.wp_at_succ

/-- What unit.Parse, Section, Assignment have to return, over what must lie in memory. -/
structure UnitC (G : World → Prop) : Prop where
  on : ∀ {w w' : World}, G w → Below w.heap.size w w' → G w'
  parse : ∀ (fn : ByteArray) (dir : Int) (a0 : Option Addr) (n cap : Nat) (l : List UInt8) (w : World), G w → fn.size ≤ maxLen → l.length = n → n ≤ 140737488355328 → n ≤ cap → cap ≤ maxLen → (a0 = none → cap = 0) → RdB w w.heap.size a0 l → Calls Tryd.prog 8 #[.agg #[.string fn, .int .i64 dir, .slice a0 n cap]] w fun e w' =>
    ∃ va vn, e = .returned (.tuple #[va, vn]) ∧ RowsAt 5 encA w' va (filA fn l) ∧ RowsAt 4 encN w' vn (filN fn l) ∧ Below w.heap.size w w'
  section_ : ∀ (s : ByteArray) (w : World), G w → s.size ≤ 4294967280 → Calls Tryd.prog 13 #[.string s] w fun e w' => e = .returned (.tuple #[.string (bs (secV s.data.toList)), .bool (secL s.data.toList).isSome]) ∧ Below w.heap.size w w'
  assignment : ∀ (s : ByteArray) (w : World), G w → s.size ≤ 4294967280 → Calls Tryd.prog 15 #[.string s] w fun e w' => e = .returned (.tuple #[.string (bs (asgK s.data.toList)), .string (bs (asgW s.data.toList)), .bool (asgL s.data.toList).isSome]) ∧ Below w.heap.size w w'
def encI (x : Int) : List Value := [.int .i64 x]
theorem encI_len (x : Int) : (encI x).length = 1 := rfl
theorem encI_one (x : Int) : ∀ u ∈ encI x, u.oneCell' = true := fun u hu => by
  unfold encI at hu
  rw [List.mem_singleton] at hu
  subst hu; rfl
theorem int_info13 : (Tryd.prog.info? 3).map (fun i => (i.zero, i.size, i.bytes)) = some (some (.int .i64 0), 1, 8) := by kernel_rfl
abbrev fF : ByteArray := ⟨#[102]⟩
theorem filN_len (fn : ByteArray) (l : List UInt8) : (filN fn l).length ≤ 1000 := by
  unfold filN filS
  split
  · exact Nat.le_of_ble_eq_true rfl
  · have := stU_len fn (splL l) (splL l).length (Nat.le_refl _)
    have := splL_len l
    omega
theorem filA_len (fn : ByteArray) (l : List UInt8) : (filA fn l).length ≤ 1000 := by
  unfold filA filS usA
  split
  · exact Nat.zero_le _
  · split
    · have := stU_len fn (splL l) (splL l).length (Nat.le_refl _)
      have := splL_len l
      omega
    · exact Nat.zero_le _
set_option maxHeartbeats 8000000 in
theorem wrong_c {G : World → Prop} (HC : UnitC G) (l : List UInt8) (hl : l.length ≤ 1000000) (N : List Int) (hN : (filN fF l).map (·.line) = N) (hq : ∀ q ∈ filN fF l, q.err = 130 ∧ q.file = fF) (w : World) (hG : G w) : Calls Tryd.prog 25 #[.string (bs l)] w fun e w' => ∃ v, e = .returned v ∧ RowsAt 1 encI w' v N ∧ Below w.heap.size w w' := by
  obtain ⟨i0, hi0, hz0, hz1, hz2⟩ := info_parts int_info13
  have HI := Lib.hid hi0
  have HZ0 := Lib.hid hz0
  have HZ1 := Lib.hid hz1
  have HZ2 := Lib.hid hz2
  have HP := Lib.hid (fun (W : World) (a0 : Option Addr) (n cap : Nat) (g : G W) (h1 : l.length = n) (h2 : n ≤ cap) (h3 : cap ≤ maxLen) (h4 : a0 = none → cap = 0) (h5 : RdB W W.heap.size a0 l) => HC.parse fF 0 a0 n cap l W g (by unfold maxLen; decide) h1 (by omega) h2 h3 h4 h5)
  have HON := Lib.hid (fun (w w' : World) => HC.on (w := w) (w' := w'))
  have HG := Lib.hid hG
  have hlen := filN_len fF l
  obtain ⟨O, hO⟩ : ∃ O, O = filN fF l := ⟨_, rfl⟩
  rw [← hO] at HP hlen hq hN
  have HQ := Lib.hid hq
  have HNN := Lib.hid hN
  obtain ⟨n, hn⟩ : ∃ n, n = O.length := ⟨_, rfl⟩
  have HN := Lib.hid hn
  rw [← hn] at hlen
  clear HC hG hO hq hN hn hi0 hz0 hz1 hz2
  go_enter Tryd.func25, Tryd.ntmps25
  go_wp2_with (first
    | ((with_reducible show wpList _ _ _ (⟨some 9, _, _, _, _, _⟩ :: _) _ _)
       refine wpList_bytes12 (l := l) rfl rfl rfl (by unfold maxLen; omega) ?_
       intro W1 c1 b1 r1 h1 h2
       have B1 := Lib.hid b1
       have R1 := Lib.hid r1
       have G1 := Lib.hid (HON.out _ _ HG.out b1)
       clear b1 r1)
    | (go_at_call 8; ((with_reducible refine (HP.out _ _ _ _ G1.out rfl h1 h2 (fun h => by cases h) R1.out).mono ?_); rintro e W2 ⟨va, vn, rfl, _, s2, b2⟩); have B2 := Lib.hid (thn13 B1.out b2); obtain ⟨q2, c2, rfl, hc2⟩ := s2; have HV2 := Lib.hid hc2; clear hc2 b2; rw [← HN.out]))
  go_loopw [5, 6] (fun v5 v6 wr => ∃ k : Nat, k ≤ n ∧ v6 = .int .i64 k ∧ Hid (wr.ownsRow W2.heap.size 3 1 v5 k (rowC encI ((O.take k).map (·.line)))) ∧ Hid (Below W2.heap.size W2 wr)) (fun _ v6 _ => n - (intOf v6).toNat)
  case atStart => exact ⟨0, by omega, rfl, Lib.hid (World.ownsRow_nil _ _ _ _), Lib.hid (Below.refl _ _)⟩
  case round =>
    obtain ⟨k, hk, rfl, PO, PB⟩ := hrel
    obtain ⟨V, rfl⟩ : ∃ wo : World, wo = wr := ⟨_, rfl⟩
    by_cases hlt : k < n
    · have hx : O[k]? = some (O[k]'(by rw [← HN.out]; exact hlt)) := List.getElem?_eq_getElem _
      obtain ⟨p, hp⟩ : ∃ p, p = O[k]'(by rw [← HN.out]; exact hlt) := ⟨_, rfl⟩
      rw [← hp] at hx
      obtain ⟨g2, o2, rfl, d2⟩ := HV2.out k p hx
      have x0 := (PB.out.cell (World.block_lt_of_cell? W2 _ (d2 0 _ rfl))).trans (d2 0 _ rfl)
      have x1 := (PB.out.cell (World.block_lt_of_cell? W2 _ (d2 1 _ rfl))).trans (d2 1 _ rfl)
      have x2 := (PB.out.cell (World.block_lt_of_cell? W2 _ (d2 2 _ rfl))).trans (d2 2 _ rfl)
      rw [Nat.add_zero] at x0
      obtain ⟨e1, e2⟩ := HQ.out p (List.mem_of_getElem? hx)
      rw [e2, show fF = ⟨#[102]⟩ from rfl] at x0
      rw [e1] at x2
      have HT := Lib.hid (show (O.take (k + 1)).map (·.line) = (O.take k).map (·.line) ++ [p.line] by rw [List.take_add_one, hx, List.map_append]; rfl)
      obtain ⟨z, hz⟩ : ∃ z, z = p.line := ⟨_, rfl⟩
      rw [← hz] at x1 HT
      have k1 : (k : Int) < n := by omega
      have k0 : (0 : Int) ≤ k := by omega
      have hw1 : IntKind.i64.wrap ((k : Int) + 1) = k + 1 := by rw [IntKind.wrap_i64]; omega
      have HLN := Lib.hid hlen
      clear hx hp d2 e1 e2 hz
      go_wp2_with (at_builtin
                   refine wpList_append_own _ rfl (.tmp 34) (.tmp 40) 59 rfl W2.heap.size 3 i0 _ 1 8 Tryd.underlying59 HI.out HZ0.out HZ1.out HZ2.out rfl (by omega) _ k _ rfl (PO.out.alloc _) ⟨V.heap.size, 0, none⟩ 1 1 (encI z) rfl rfl (news_row V _ _) (encI_one _) (by unfold maxLen; omega) (by omega) (by rw [World.size_alloc]; exact Nat.le_succ_of_le PB.out.size) ?_
                   intro v5 w5 o5 h5 _
                   have O5 := Lib.hid o5
                   have B5 := Lib.hid ((PB.out.alloc PB.out.size _).grown h5 (by rw [World.size_alloc]; exact Nat.le_succ_of_le PB.out.size) (fun g hg => (PO.out.lt g hg).1))
                   clear o5 h5)
      go_roundw
      case rel => exact ⟨k + 1, by omega, by go_num, Lib.hid (by rw [HT.out, rowC_app, rowC_one1]; exact O5.out), B5⟩
      case measure => simp [intOf]; omega
    · obtain rfl : k = n := by omega
      have k1 : ¬ (k : Int) < k := by omega
      have HL := Lib.hid (show (O.take k).map (·.line) = N ∧ k = N.length by rw [HN.out, List.take_length, HNN.out, ← HNN.out, List.length_map]; exact ⟨rfl, rfl⟩)
      have HRW := Lib.hid (show RowsAt 1 encI V _ N from rows_own encI_len (by have h := PO.out; rw [HL.out.1] at h; rw [← HL.out.2]; exact h))
      go_wp2_with fail
      go_ret
      exact ⟨_, rfl, HRW.out, thn13 B2.out PB.out⟩
set_option maxHeartbeats 4000000 in
theorem at_yes (u v : Value) (O : List Int) (w : World) (hu : RowsAt 1 encI w u O) (hv : RowsAt 1 encI w v O) (hO : O.length ≤ 1000000) : Calls Tryd.prog 24 #[u, v] w fun e w' => e = .returned (.bool true) ∧ Below w.heap.size w w' := by
  obtain ⟨q1, c1, rfl, hr1⟩ := hu
  obtain ⟨q2, c2, rfl, hr2⟩ := hv
  have H1 := Lib.hid hr1
  have H2 := Lib.hid hr2
  obtain ⟨n, hn⟩ : ∃ n, n = O.length := ⟨_, rfl⟩
  have HN := Lib.hid hn
  rw [← hn] at hO ⊢
  clear hr1 hr2 hn
  have t1 : ((n : Int) != (n : Int)) = false := by simp
  go_enter Tryd.func24, Tryd.ntmps24
  go_wp2_with fail
  go_loopw [5] (fun v5 wr => ∃ k : Nat, k ≤ n ∧ v5 = .int .i64 k ∧ Hid (Below w.heap.size w wr)) (fun v5 _ => n - (intOf v5).toNat)
  case atStart => exact ⟨0, by omega, rfl, Lib.hid (Below.refl _ _)⟩
  case round =>
    obtain ⟨k, hk, rfl, PB⟩ := hrel
    obtain ⟨V, rfl⟩ : ∃ wo : World, wo = wr := ⟨_, rfl⟩
    by_cases hlt : k < n
    · have hx : O[k]? = some (O[k]'(by rw [← HN.out]; exact hlt)) := List.getElem?_eq_getElem _
      obtain ⟨p, hp⟩ : ∃ p, p = O[k]'(by rw [← HN.out]; exact hlt) := ⟨_, rfl⟩
      rw [← hp] at hx
      obtain ⟨g1, o1, rfl, d1⟩ := H1.out k p hx
      obtain ⟨g2, o2, rfl, d2⟩ := H2.out k p hx
      have x0 := (PB.out.cell (World.block_lt_of_cell? w _ (d1 0 _ rfl))).trans (d1 0 _ rfl)
      have y0 := (PB.out.cell (World.block_lt_of_cell? w _ (d2 0 _ rfl))).trans (d2 0 _ rfl)
      rw [Nat.add_zero, Nat.mul_one] at x0 y0
      have k1 : (k : Int) < n := by omega
      have k0 : (0 : Int) ≤ k := by omega
      have hw1 : IntKind.i64.wrap ((k : Int) + 1) = k + 1 := by rw [IntKind.wrap_i64]; omega
      obtain ⟨f0, hf0⟩ : ∃ f, f = p := ⟨_, rfl⟩
      rw [← hf0] at x0 y0
      clear hf0
      clear hx hp d1 d2
      have e0 : (f0 == f0) = true := by simp
      go_wp2_with fail
      go_quiet (fail)
      go_wp2_with fail
      go_roundw
      case rel => exact ⟨k + 1, by omega, by go_num, Lib.hid (Go.below_drewN PB.out _)⟩
      case measure => simp [intOf]; omega
    · obtain rfl : k = n := by omega
      have k1 : ¬ (k : Int) < k := by omega
      go_wp2_with fail
      go_ret
      exact ⟨rfl, PB.out⟩
end Go.Proofs.YtifjnioichfodaaDoor
