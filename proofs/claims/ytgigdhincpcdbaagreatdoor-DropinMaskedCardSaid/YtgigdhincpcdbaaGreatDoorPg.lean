/- What the document's own Merge returns, a drop-in's name not being one that may be; Merge as one. Condition: files that lie in memory, at most 1,000,000 bytes each. -/
import Derived.Test.YtgigdhincpcdbaaGreatDoorPf
namespace Go.Proofs.YtgigdhincpcdbaaGreatDoor
open Go.RowKit
set_option linter.unusedVariables false
set_option linter.unusedSimpArgs false
attribute [local go_sem ↓] Go.wp_at_zero Go.wp_at_succ

set_option maxRecDepth 100000 in
set_option maxHeartbeats 64000000 in
theorem merge_bad (m : Fle) (D : List Fle) (a : Option Addr) (n cap : Nat) (w : World) (hm : FleAt w.heap.size w m) (h : FsAt w a n cap D) (hb : ∀ f ∈ m :: D, f.len ≤ 1000000) (hE : ordE D = 140) (h16 : D.length ≤ 16) (hbad : badN D D.length = true) : Calls Tryz.prog 17 #[.agg #[.string m.name, .int .i64 m.dir, .slice m.ptr m.len m.cap], .slice a n cap] w fun e w' =>
    ∃ va vn, e = .returned (.tuple #[va, vn]) ∧ RowsAt 5 encA w' va (mrgA m D) ∧ RowsAt 4 encN w' vn (mrgN m D) ∧ Below w.heap.size w w' := by
  have HO := Lib.hid (fun (W : World) (b : Below w.heap.size w W) => refOrder m D a n cap W (h.on b))
  rw [hE] at HO
  have hDn := h.len
  obtain ⟨jb, hjb, hjbad⟩ := badN_ex hbad
  have e1 : mrgA m D = [] := by unfold mrgA; rw [hE, if_neg (fun h => by cases h.1)]
  have e2 : mrgN m D = [⟨m.name, 0, 140, badT D⟩] := by unfold mrgN; rw [hE]; rfl
  rw [e1, e2]
  obtain ⟨g, o, hbase, hcells⟩ := h.base
  have HA := Lib.hid hbase
  have HCL := Lib.hid (fun (W : World) (b : Below w.heap.size w W) k (hk : k < n) => (show W.cell? ⟨g, o + k * 3, none⟩ = some (.string (D.getD k f0).name) from (b.cell (World.block_lt_of_cell? w _ (hcells k hk).1)).trans (hcells k hk).1))
  have HMY := Lib.hid (fun k (hk : k < n) (W : World) => refMay (D.getD k f0).name (by obtain ⟨_, _, _, _, _, _, hf⟩ := h.at hk; exact hf.nm) W)
  have HBT := Lib.hid (fun k (hk : k < n) (h1 : ∀ j, j < k → mayL (D.getD j f0).name.data.toList = true) (h2 : mayL (D.getD k f0).name.data.toList = false) => badT_at (D := D) (k := k) (by omega) h1 h2)
  have HJB := Lib.hid (show jb < n ∧ mayL (D.getD jb f0).name.data.toList = false from ⟨by omega, hjbad⟩)
  have n16 : (n : Int) ≤ 16 := by omega
  have B0 := Lib.hid ((Below.refl w.heap.size w).alloc (Nat.le_refl _) (.cells #[.string m.name, .int .i64 m.dir, .slice m.ptr m.len m.cap] 24))
  have HBX := Lib.hid (heap_alloc_new w (.cells #[.string m.name, .int .i64 m.dir, .slice m.ptr m.len m.cap] 24))
  clear h hm hb hE h16 hbad e1 e2 hDn hjb hjbad hbase hcells
  go_enter Tryz.func17, Tryz.ntmps17
  go_wp2_with (first
    | (go_at_call 11
       with_reducible refine (HO.out _ B0.out).mono ?_
       rintro e W ⟨v, rfl, _, b1⟩
       have c0 := (cell_of_row W w.heap.size 0 _ _ (0, 0) ((b1.block w.heap.size (by rw [World.size_alloc]; exact Nat.lt_succ_self _)).trans HBX.out)).trans (show _ = some (Value.string m.name) from rfl)
       have B1 := Lib.hid (B0.out.trans (b1.mono B0.out.size))
       have B2 := Lib.hid ((B0.out.trans (b1.mono B0.out.size)).alloc (Nat.le_trans B0.out.size b1.size) (.cells #[.string m.name, .int .i64 0, .int .i64 140, .string ⟨#[]⟩] 47))
       clear b1))
  go_loop [9] (fun v9 => ∃ k : Nat, k ≤ n ∧ v9 = .int .i64 k ∧ Hid (∀ j, j < k → mayL (D.getD j f0).name.data.toList = true)) (fun v9 => n - (intOf v9).toNat)
  case atStart => exact ⟨0, Nat.zero_le _, rfl, Lib.hid (fun j hj => absurd hj (Nat.not_lt_zero _))⟩
  case round =>
    obtain ⟨k, hk, rfl, HM⟩ := hrel
    by_cases hlt : k < n
    · obtain rfl := HA.out (by omega)
      have d0 := HCL.out _ B2.out k hlt
      have hgW : g < W.heap.size := World.block_lt_of_cell? W _ (HCL.out _ B1.out k hlt)
      have k1 : (k : Int) < n := by omega
      have k0 : (0 : Int) ≤ k := by omega
      have hw1 : IntKind.i64.wrap ((k : Int) + 1) = k + 1 := by rw [IntKind.wrap_i64]; omega
      have HY := Lib.hid (fun W => HMY.out k hlt W)
      have HE := Lib.hid (fun hf => HBT.out k hlt HM.out hf)
      have HG := Lib.hid (fun (hf : mayL (D.getD k f0).name.data.toList = true) => show ∀ j, j < k + 1 → mayL (D.getD j f0).name.data.toList = true from fun j hj => by
        by_cases e : j = k
        · subst e; exact hf
        · exact HM.out j (by omega))
      obtain ⟨nm, hnm⟩ : ∃ nm, nm = (D.getD k f0).name := ⟨_, rfl⟩
      rw [← hnm] at d0 HY HE HG
      clear hnm
      cases hy : mayL nm.data.toList with
      | true =>
        have HM2 := Lib.hid (HG.out hy)
        rw [hy] at HY
        clear hy HE HG
        go_wp2_with (go_at_call 14; ((with_reducible refine (HY.out _).mono ?_); rintro e w1 ⟨rfl, rfl⟩))
        go_round
        case rel => exact ⟨k + 1, by omega, by go_num, HM2⟩
        case measure => simp [intOf]; omega
      | false =>
        have e1 := HE.out hy
        rw [hy] at HY
        by_cases h60 : 60 < nm.size
        · have q1 : (60 : Int) < nm.size := by omega
          have q2 : (nm.size : Int) > 60 := q1
          have q3 : (60 : Int) ≤ nm.size := by omega
          have HT := Lib.hid (show badT D = nm.extract 0 60 from by rw [e1]; exact (by have h := ext_bs nm 0 60; rw [h]; rfl))
          clear hy HE HG e1 h60
          go_wp2_with (go_at_call 14; ((with_reducible refine (HY.out _).mono ?_); rintro e w1 ⟨rfl, rfl⟩))
          go_region
          all_goals
            go_wp2
            go_ret2
            rw [HT.out]
            exact ⟨_, _, rfl, RowsAt.nil _, note_row (W.alloc _) _ (World.size_alloc _ _) ⟨m.name, 0, 140, nm.extract 0 60⟩, ((B1.out.alloc B1.out.size _).alloc (by rw [World.size_alloc]; exact Nat.le_succ_of_le B1.out.size) _).drew⟩
        · have q1 : ¬ (60 : Int) < nm.size := by omega
          have q2 : ¬ (nm.size : Int) > 60 := q1
          have HT := Lib.hid (show badT D = nm from by rw [e1, List.take_of_length_le (by rw [size_len14]; omega)]; exact bs_self nm)
          clear hy HE HG e1 h60
          go_wp2_with (go_at_call 14; ((with_reducible refine (HY.out _).mono ?_); rintro e w1 ⟨rfl, rfl⟩))
          go_region
          all_goals
            go_wp2
            go_ret2
            rw [HT.out]
            exact ⟨_, _, rfl, RowsAt.nil _, note_row (W.alloc _) _ (World.size_alloc _ _) ⟨m.name, 0, 140, nm⟩, ((B1.out.alloc B1.out.size _).alloc (by rw [World.size_alloc]; exact Nat.le_succ_of_le B1.out.size) _).drew⟩
    · obtain rfl : k = n := by omega
      have := HM.out jb HJB.out.1
      rw [HJB.out.2] at this
      cases this
theorem refMerge (m : Fle) (D : List Fle) (a : Option Addr) (n cap : Nat) (w : World) (hm : FleAt w.heap.size w m) (h : FsAt w a n cap D) (hb : ∀ f ∈ m :: D, f.len ≤ 1000000) : Calls Tryz.prog 17 #[.agg #[.string m.name, .int .i64 m.dir, .slice m.ptr m.len m.cap], .slice a n cap] w fun e w' =>
    ∃ va vn, e = .returned (.tuple #[va, vn]) ∧ RowsAt 5 encA w' va (mrgA m D) ∧ RowsAt 4 encN w' vn (mrgN m D) ∧ Below w.heap.size w w' := by
  rcases ordE_three D with hE | hE | ⟨hE, h16, hbad⟩
  · exact merge_go m D a n cap w hm h hb hE
  · exact merge_full m D a n cap w hm h hb hE
  · exact merge_bad m D a n cap w hm h hb hE h16 hbad
end Go.Proofs.YtgigdhincpcdbaaGreatDoor
