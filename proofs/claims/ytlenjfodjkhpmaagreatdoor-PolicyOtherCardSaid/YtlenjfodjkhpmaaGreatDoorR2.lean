/- The library's Insert at numbers, into a row of the caller's own. Conditions: at most 100,000 numbers. -/
import Derived.Test.YtlenjfodjkhpmaaGreatDoorR1
import Derived.Deep.RegionLaw
import Derived.BigRegion
import Derived.Lib.Overlaps
import Derived.Lib.SliceRun
import Derived.Lib.AppendZerosOnto
import Derived.Laws.Externs
import Derived.Maps.AppendAt
import Derived.Deep.QuietTactic
import Derived.BigQuiet
namespace Go.Proofs.YtlenjfodjkhpmaaGreatDoor
set_option maxRecDepth 100000
open Go.Lib (hid)
open Go.RowKit
set_option linter.unusedVariables false
set_option linter.unusedSimpArgs false
attribute [local go_sem ↓] Go.wp_at_zero Go.wp_at_succ

set_option maxHeartbeats 4000000 in
theorem ins_room_i18 (W : World) (B g n c V i : Nat) (L : List Int) (x : Int) (hO : W.ownsRow B 3 1 (.slice (some ⟨g, 0, none⟩) n c) n (L.map (Value.int .i64))) (hn : n = L.length) (hi : i < n) (hroom : n + 1 ≤ c) (hb : n ≤ 100000) (hBW : B ≤ W.heap.size) (hV : W.heap[V]? = some (.cells ([.int .i64 x] : List Value).toArray 3 (0, 0))) (hne : V ≠ g) :
 Calls Tryz.prog 187 #[.slice (some ⟨g, 0, none⟩) n c, .int .i64 i, .slice (some ⟨V, 0, none⟩) 1 1] W fun e w' => ∃ q' c', e = .returned (.slice q' (n + 1) c') ∧ w'.ownsRow B 3 1 (.slice q' (n + 1) c') (n + 1) ((L.take i ++ x :: L.drop i).map (Value.int .i64)) ∧ Below B W w' ∧ KeepT 3 W w' := by
 obtain ⟨cur, hB, hg, hnc, hcm, hcs, htk⟩ := own_cur18 hO
 obtain ⟨xs, hxs⟩ : ∃ xs, xs = L.map (Value.int .i64) := ⟨_, rfl⟩
 rw [← hxs] at htk
 have hnx : n = xs.length := by rw [hxs, List.length_map]; exact hn
 have hgl : g < W.heap.size := (Array.getElem?_eq_some_iff.1 hg).1
 have hinf : (Tryz.prog.info? 3).map (·.size) = some 1 := by kernel_rfl
 have hszC : ∀ w, (Go.sizeOf 3).run Tryz.prog w = .ok 1 w := fun w => by
  obtain ⟨i0, hi0, hz0, hz1, hz2⟩ := info_parts (show (Tryz.prog.info? 3).map (fun i => (i.zero, i.size, i.bytes)) = some (some (.int .i64 0), 1, 8) by kernel_rfl)
  simp [sizeOf, typeInfo, hi0, hz1]
 have hone : ∀ v ∈ xs.drop i, v.oneCell' = true := fun v hv => nums_one18 .i64 L v (by rw [← hxs]; exact List.mem_of_mem_drop hv)
 have hdl : (xs.drop i).length = n - i := by rw [List.length_drop, hnx]
 obtain ⟨E, hE⟩ : ∃ E, E = cur.take (i + 1) ++ xs.drop i ++ cur.drop (i + 1 + (xs.drop i).length) := ⟨_, rfl⟩
 obtain ⟨F, hF⟩ : ∃ F, F = E.take i ++ [Value.int .i64 x] ++ E.drop (i + ([Value.int .i64 x] : List Value).length) := ⟨_, rfl⟩
 obtain ⟨k1, k2, k3⟩ := ins_shift18 (v := .int .i64 x) hnx hroom hcs htk (by omega) hE hF
 obtain ⟨W1, hW1⟩ : ∃ W1, W1 = W.drew.setRow g E.toArray := ⟨_, rfl⟩
 have hg1 : W1.heap[g]? = some (.cells E.toArray 3 (0, 0)) := by rw [hW1]; exact setRow_heap W.drew g _ _ _ _ hg
 have hV1 : W1.heap[V]? = some (.cells ([.int .i64 x] : List Value).toArray 3 (0, 0)) := by rw [hW1, setRow_other _ _ _ _ hne]; exact hV
 have gr1 : W.grownBy W1 (some g) := by rw [hW1]; exact grown_set (grown_refl W _)
 have hov : ∀ lb cb, (callFunc 212 #[.slice (some ⟨V, 0, none⟩) 1 1, .slice (some ⟨g, i + 1, none⟩) lb cb]).run Tryz.prog W = .ok (.value (.bool false)) W := fun lb cb => by
  rw [run_callFunc_extern Tryz.func212 (by kernel_rfl) (by kernel_rfl) (by kernel_rfl) (e := Extern.SlicesOverlaps.overlaps #[24, 24] #[4]) (by kernel_rfl),
   Lib.run_overlaps_apart W 24 4 3 Tryz.underlying24 1 hszC ⟨V, 0, none⟩ ⟨g, i + 1, none⟩ 1 1 lb cb hne 3 3 1 c (by simp [World.shape?, hV]) (by simp [World.shape?, hg, hcs]) (by omega) (frozen_of_row _ _ _ _ _ hV) (frozen_of_row _ _ _ _ _ hV)]
  rfl
 have HC1 := hid (show ∀ ty dc sc, (Builtin.copy_ #[24, 24] ty #[.slice (some ⟨g, i + 1, none⟩) (n - i) dc, .slice (some ⟨g, i, none⟩) (n + 1 - i) sc]).run Tryz.prog W.drew = .ok (goInt (Nat.min (n + 1 - i) (n - i))) W1 from fun ty dc sc => by
  rw [hW1, hE]
  exact run_copy_at W.drew _ _ ty 3 g (i + 1) _ dc _ _ sc 1 _ 3 (xs.drop i) Tryz.underlying24 hinf hg (by rw [hdl, Nat.mul_one]; exact (Nat.min_eq_right (show n - i ≤ n + 1 - i by omega)).symm) (by rw [hdl]; simp; omega) ⟨g, i, none⟩ rfl (cells_at18 (W := W.drew) hg (row_at18 htk i)) hone)
 have HC2 := hid (show ∀ ty dc, (Builtin.copy_ #[24, 24] ty #[.slice (some ⟨g, i, none⟩) (n + 1 - i) dc, .slice (some ⟨V, 0, none⟩) 1 1]).run Tryz.prog W1 = .ok (goInt (Nat.min 1 (n + 1 - i))) (W1.setRow g F.toArray) from fun ty dc => by
  rw [hF]
  exact run_copy_at W1 _ _ ty 3 g i _ dc _ _ 1 1 _ 3 [.int .i64 x] Tryz.underlying24 hinf hg1 (by rw [show Nat.min 1 (n + 1 - i) = 1 from Nat.min_eq_left (by omega)]; rfl) (by simp [k1]; omega) ⟨V, 0, none⟩ rfl (cells_at18 hV1 (fun j u hu => by rw [Nat.zero_add]; exact hu)) (nums_one18 .i64 [x]))
 have HO := hid (own_set18 hg1 hB hroom hcm k2 k3)
 have hfin : W.grownBy (W1.setRow g F.toArray) (some g) := grown_set gr1
 have HG := hid (below_grown18 (B := B) hfin hBW (fun k e => by injection e with e; rw [← e]; exact hB))
 have HKP := hid (KeepT.grown hg hfin)
 have HXS := hid (show xs.take i ++ Value.int .i64 x :: xs.drop i = (L.take i ++ x :: L.drop i).map (Value.int .i64) by rw [hxs]; simp)
 have e1 : i ≤ c := by omega
 have e2 : ¬ c = i := by omega
 have e3 : ¬ c = i + 1 := by omega
 have e4 : (i : Int) ≤ n := by omega
 have e5 : ¬ (i : Int) = n := by omega
 have e6 : IntKind.i64.wrap ((n : Int) + 1) = (n : Int) + 1 := by rw [IntKind.wrap_i64]; omega
 have e7 : IntKind.i64.wrap ((i : Int) + 1) = (i : Int) + 1 := by rw [IntKind.wrap_i64]; omega
 have e8 : ¬ (c : Int) < (n : Int) + 1 := by omega
 have e9 : n + 1 ≤ c := hroom
 have e10 : (0 : Int) ≤ (n : Int) + 1 := by omega
 have e11 : (0 : Int) ≤ (i : Int) + 1 := by omega
 have e12 : ((n : Int) + 1).toNat = n + 1 := by omega
 have e13 : ((i : Int) + 1).toNat = i + 1 := by omega
 have e14 : (n : Int) + 1 ≤ c := by omega
 have e15 : (i : Int) + 1 ≤ (n : Int) + 1 := by omega
 have e16 : (i : Int) ≤ (n : Int) + 1 := by omega
 have e17 : i ≤ n + 1 := by omega
 have e18 : i ≤ n := by omega
 have t1 : ¬ (1 : Int) = 0 := by decide
 clear hO hn hb hB hg hcm hcs htk hinf hszC hdl hE hF k1 k2 k3 hW1 hg1 hV1 gr1 hV hne hi hfin hone hxs hnx hgl hBW
 go_enter Tryz.func187, Tryz.ntmps187
 go_wp2_with (simp only [hov])

 go_region_law (refine step_copy16 rfl (.tmp 73) (.tmp 76) #[24, 24] (by rfl) (by simp [Act.eval, Act.put]) (by simp [Act.eval, Act.put]) (HC1.out _ (c - (i + 1)) (c - i)) ?_)
 go_wp2_with ((with_reducible show wpList _ _ _ (⟨some 82, .call _, _, _, _, _⟩ :: _) _ _)
              go_loud (refine wpList_copy16 rfl (.tmp 80) (.tmp 81) #[24, 24] rfl rfl rfl (HC2.out _ _) ?_))
 go_ret
 exact ⟨_, _, rfl, by rw [← HXS.out]; exact HO.out, HG.out, HKP.out⟩
set_option maxHeartbeats 4000000 in
theorem ins_more_i18 (W : World) (B g n V i : Nat) (L : List Int) (x : Int) (hO : W.ownsRow B 3 1 (.slice (some ⟨g, 0, none⟩) n n) n (L.map (Value.int .i64))) (hn : n = L.length) (hi : i < n) (hb : n ≤ 100000) (hBW : B ≤ W.heap.size) (hV : W.heap[V]? = some (.cells ([.int .i64 x] : List Value).toArray 3 (0, 0))) :
 Calls Tryz.prog 187 #[.slice (some ⟨g, 0, none⟩) n n, .int .i64 i, .slice (some ⟨V, 0, none⟩) 1 1] W fun e w' => ∃ q' c', e = .returned (.slice q' (n + 1) c') ∧ w'.ownsRow B 3 1 (.slice q' (n + 1) c') (n + 1) ((L.take i ++ x :: L.drop i).map (Value.int .i64)) ∧ Below B W w' ∧ KeepT 3 W w' := by
 obtain ⟨cur, hB, hg, hnc, hcm, hcs, htk⟩ := own_cur18 hO
 obtain ⟨xs, hxs⟩ : ∃ xs, xs = L.map (Value.int .i64) := ⟨_, rfl⟩
 rw [← hxs] at htk
 have hnx : n = xs.length := by rw [hxs, List.length_map]; exact hn
 have hinf : (Tryz.prog.info? 3).map (·.size) = some 1 := by kernel_rfl
 have htn : Tryz.prog.underlying 3 = some (.int .i64) := Tryz.underlying3
 obtain ⟨i0, hi0, hz0, hz1, hz2⟩ := info_parts (show (Tryz.prog.info? 3).map (fun i => (i.zero, i.size, i.bytes)) = some (some (.int .i64 0), 1, 8) by kernel_rfl)
 have hone : ∀ v ∈ xs.drop i, v.oneCell' = true := fun v hv => nums_one18 .i64 L v (by rw [← hxs]; exact List.mem_of_mem_drop hv)
 have hdl : (xs.drop i).length = n - i := by rw [List.length_drop, hnx]
 obtain ⟨k, hk⟩ : ∃ k, k = n + 1 - i := ⟨_, rfl⟩
 have hold : (Builtin.firstCells i0.size i (.slice (some ⟨g, 0, none⟩) i n)).run Tryz.prog W.drew = .ok (xs.take i).toArray W.drew := run_firstCells_some (P := Tryz.prog) W.drew i0.size i ⟨g, 0, none⟩ i n (xs.take i) (by rw [hz1, List.length_take, ← hnx, Nat.mul_one, Nat.min_eq_left (by omega)]) (cells_at18 (W := W.drew) hg fun j u hu => by
  rw [Nat.zero_add]
  rw [← htk, List.take_take, List.getElem?_take] at hu
  split at hu
  ·exact hu
  ·cases hu)
 obtain ⟨cp, hcp⟩ : ∃ x, x = grownCap W (i + k) n 3 := ⟨_, rfl⟩
 have hge : n + 1 ≤ cp := by rw [hcp]; have := grownCap_ge W (i + k) n 3; omega
 have hmx : cp ≤ maxLen := by rw [hcp]; exact grownCap_le_maxLen W (i + k) n 3 (by unfold maxLen; omega)
 obtain ⟨cu2, hcu2⟩ : ∃ l : List Value, l = xs.take i ++ (Builtin.zeroCells (Value.int .i64 0).cells k).toList ++ (Builtin.zeroCells (Value.int .i64 0).cells (cp - (i + k))).toList := ⟨_, rfl⟩
 have hil : (xs.take i).length = i := by rw [List.length_take, ← hnx, Nat.min_eq_left (by omega)]
 have hcs2 : cu2.length = cp := by rw [hcu2, List.length_append, List.length_append, zero_len18, zero_len18, hil]; omega
 have htk2 : cu2.take i = xs.take i := by rw [hcu2, List.append_assoc]; exact List.take_left' hil
 obtain ⟨H, hH⟩ : ∃ H, H = W.heap.size := ⟨_, rfl⟩
 obtain ⟨W1, hW1⟩ : ∃ W1, W1 = W.drew.alloc (.cells cu2.toArray 3) := ⟨_, rfl⟩
 have hg1 : W1.heap[H]? = some (.cells cu2.toArray 3 (0, 0)) := by rw [hW1, hH]; exact heap_alloc_new W.drew _
 have gr1 : W.grownBy W1 (some g) := by rw [hW1]; exact ⟨rfl, rfl, rfl, by simp, fun k hk _ => Below.heap_alloc W.drew _ k hk⟩
 have HAP := hid (show ∀ ty, (Builtin.append_ #[24, 3] ty #[.slice (some ⟨g, 0, none⟩) i n, .int .i64 k]).run Tryz.prog W = .ok (.slice (some ⟨H, 0, none⟩) (i + k) cp) W1 from fun ty => by
  have := Lib.run_append_grow_zeros (P := Tryz.prog) W 24 3 ty 3 i0 _ .i64 .i64 Tryz.underlying24 htn hi0 hz0 (some ⟨g, 0, none⟩) i n (xs.take i) hold k (by omega) (by rw [hz1]; omega) (by omega) (by omega) (by rw [hz2]; omega) (by rw [hz2]; exact growslice_fits (by omega) (by omega))
  rw [arr18] at this
  rw [this, hW1, hcu2, hH, hcp])
 obtain ⟨E, hE⟩ : ∃ E, E = cu2.take i ++ [Value.int .i64 x] ++ cu2.drop (i + ([Value.int .i64 x] : List Value).length) := ⟨_, rfl⟩
 obtain ⟨F, hF⟩ : ∃ F, F = E.take (i + 1) ++ xs.drop i ++ E.drop (i + 1 + (xs.drop i).length) := ⟨_, rfl⟩
 obtain ⟨k1, k2, k3⟩ := ins_grow18 (v := .int .i64 x) hnx hge hcs2 htk2 (by omega) hE hF
 have hVl : V < W.heap.size := (Array.getElem?_eq_some_iff.1 hV).1
 have hgl : g < W.heap.size := (Array.getElem?_eq_some_iff.1 hg).1
 have hV1 : W1.heap[V]? = some (.cells ([.int .i64 x] : List Value).toArray 3 (0, 0)) := by rw [hW1]; exact (Below.heap_alloc W.drew _ V hVl).trans hV
 obtain ⟨W2, hW2⟩ : ∃ W2, W2 = W1.setRow H E.toArray := ⟨_, rfl⟩
 have hg2 : W2.heap[H]? = some (.cells E.toArray 3 (0, 0)) := by rw [hW2]; exact setRow_heap W1 H _ _ _ _ hg1
 have gr2 : W.grownBy W2 (some g) := by rw [hW2]; exact setRow_new18 gr1 (by omega)
 have hgg : W2.heap[g]? = some (.cells cur.toArray 3 (0, 0)) := by rw [hW2, setRow_other _ _ _ _ (by omega), hW1]; exact (Below.heap_alloc W.drew _ g hgl).trans hg
 have HC1 := hid (show ∀ ty dc, (Builtin.copy_ #[24, 24] ty #[.slice (some ⟨H, i, none⟩) k dc, .slice (some ⟨V, 0, none⟩) 1 1]).run Tryz.prog W1 = .ok (goInt (Nat.min 1 k)) W2 from fun ty dc => by
  rw [hW2, hE]
  exact run_copy_at W1 _ _ ty 3 H i _ dc _ _ 1 1 _ 3 [.int .i64 x] Tryz.underlying24 hinf hg1 (by rw [show Nat.min 1 k = 1 from Nat.min_eq_left (by omega)]; rfl) (by simp [hcs2]; omega) ⟨V, 0, none⟩ rfl (cells_at18 hV1 (fun j u hu => by rw [Nat.zero_add]; exact hu)) (nums_one18 .i64 [x]))
 have HC2 := hid (show ∀ ty dc sc, (Builtin.copy_ #[24, 24] ty #[.slice (some ⟨H, i + 1, none⟩) (i + k - (i + 1)) dc, .slice (some ⟨g, i, none⟩) (n - i) sc]).run Tryz.prog W2.drew = .ok (goInt (Nat.min (n - i) (i + k - (i + 1)))) (W2.drew.setRow H F.toArray) from fun ty dc sc => by
  rw [hF]
  exact run_copy_at W2.drew _ _ ty 3 H (i + 1) _ dc _ _ sc 1 _ 3 (xs.drop i) Tryz.underlying24 hinf hg2 (by rw [hdl, Nat.mul_one]; exact (Nat.min_eq_left (show n - i ≤ i + k - (i + 1) by omega)).symm) (by rw [hdl]; simp [k1]; omega) ⟨g, i, none⟩ rfl (cells_at18 (W := W2.drew) hgg (row_at18 htk i)) hone)
 have HO := hid (own_set18 (W := W2.drew) (m := n + 1) (c := cp) hg2 (show B ≤ H by omega) hge hmx k2 k3)
 have hfin : W.grownBy (W2.drew.setRow H F.toArray) (some g) := setRow_new18 (W' := W2.drew) ⟨gr2.os, gr2.tape, gr2.output, gr2.size, gr2.block⟩ (by omega)
 have HG := hid (below_grown18 (B := B) hfin hBW (fun k e => by injection e with e; rw [← e]; exact hB))
 have HKP := hid (KeepT.grown hg hfin)
 have HXS := hid (show xs.take i ++ Value.int .i64 x :: xs.drop i = (L.take i ++ x :: L.drop i).map (Value.int .i64) by rw [hxs]; simp)
 have HK := hid (show i + k = n + 1 by omega)
 have e1 : i ≤ n := by omega
 have e2 : ¬ n = i := by omega
 have e3 : ¬ cp = i + 1 := by omega
 have e4 : (i : Int) ≤ n := by omega
 have e5 : ¬ (i : Int) = n := by omega
 have e6 : IntKind.i64.wrap ((n : Int) + 1) = (n : Int) + 1 := by rw [IntKind.wrap_i64]; omega
 have e7 : IntKind.i64.wrap ((i : Int) + 1) = (i : Int) + 1 := by rw [IntKind.wrap_i64]; omega
 have e8 : (n : Int) < (n : Int) + 1 := by omega
 have e9 : IntKind.i64.wrap ((n : Int) + 1 - (i : Int)) = (k : Nat) := by rw [IntKind.wrap_i64]; omega
 have e11 : (0 : Int) ≤ (i : Int) + 1 := by omega
 have e13 : ((i : Int) + 1).toNat = i + 1 := by omega
 have e14 : (i : Int) ≤ (i : Int) + (k : Int) := by omega
 have e15 : (i : Int) + 1 ≤ (i : Int) + (k : Int) := by omega
 have e16 : ¬ cp = i := by omega
 have e17 : i ≤ i + k := by omega
 have t1 : ¬ (1 : Int) = 0 := by decide
 clear hO hn hb hB hBW hg hcm hcs htk hinf htn hi0 hz0 hz1 hz2 hdl hk hold hcp hge hmx hcu2 hil hcs2 htk2 hH hW1 hg1 gr1 hE hF k1 k2 k3 hVl hgl hV1 hW2 hg2 gr2 hgg hV hi hfin hone hxs hnx
 go_enter Tryz.func187, Tryz.ntmps187
 go_wp2_with (first
  | ((with_reducible show wpList _ _ _ (⟨some 40, .call _, _, _, _, _⟩ :: _) _ _)
     go_loud (refine wpList_appr16 rfl (.tmp 34) (.tmp 39) #[24, 3] rfl rfl rfl (HAP.out _) ?_))
  | ((with_reducible show wpList _ _ _ (⟨some 45, .call _, _, _, _, _⟩ :: _) _ _)
     go_loud (refine wpList_copy16 rfl (.tmp 43) (.tmp 44) #[24, 24] rfl rfl rfl (HC1.out _ _) ?_)))

 go_region_law (refine step_copy16 rfl (.tmp 50) (.tmp 53) #[24, 24] (by rfl) (by simp [Act.eval, Act.put]) (by simp [Act.eval, Act.put]) (HC2.out _ (cp - (i + 1)) (n - i)) ?_)
 go_wp2_with fail
 go_ret
 exact ⟨_, _, by rw [HK.out]; rfl, by rw [← HXS.out]; exact HO.out, HG.out, HKP.out⟩
theorem insert_at_i18 (W : World) (B : Nat) (q : Option Addr) (n c V i : Nat) (L : List Int) (x : Int) (hO : W.ownsRow B 3 1 (.slice q n c) n (L.map (Value.int .i64))) (hn : n = L.length) (hi : i < n) (hb : n ≤ 100000) (hBW : B ≤ W.heap.size) (hV : W.heap[V]? = some (.cells ([.int .i64 x] : List Value).toArray 3 (0, 0))) (hne : ∀ g, q = some ⟨g, 0, none⟩ → V ≠ g) :
 Calls Tryz.prog 187 #[.slice q n c, .int .i64 i, .slice (some ⟨V, 0, none⟩) 1 1] W fun e w' => ∃ q' c', e = .returned (.slice q' (n + 1) c') ∧ w'.ownsRow B 3 1 (.slice q' (n + 1) c') (n + 1) ((L.take i ++ x :: L.drop i).map (Value.int .i64)) ∧ Below B W w' ∧ KeepT 3 W w' := by
 obtain ⟨g, c', he, _, _⟩ := hO.form (by omega)
 injection he with e1 e2 e3
 subst e1 e3
 obtain ⟨cur, _, _, hnc, _⟩ := own_cur18 hO
 by_cases hc : n + 1 ≤ c
 ·exact ins_room_i18 W B g n c V i L x hO hn hi hc hb hBW hV (hne g rfl)
 ·obtain rfl : c = n := by omega
  exact ins_more_i18 W B g c V i L x hO hn hi hb hBW hV
set_option maxHeartbeats 4000000 in
theorem ins_room_u18 (W : World) (B g n c V i : Nat) (L : List Int) (x : Int) (hO : W.ownsRow B 28 1 (.slice (some ⟨g, 0, none⟩) n c) n (L.map (Value.int .u32))) (hn : n = L.length) (hi : i < n) (hroom : n + 1 ≤ c) (hb : n ≤ 100000) (hBW : B ≤ W.heap.size) (hV : W.heap[V]? = some (.cells ([.int .u32 x] : List Value).toArray 28 (0, 0))) (hne : V ≠ g) :
 Calls Tryz.prog 220 #[.slice (some ⟨g, 0, none⟩) n c, .int .i64 i, .slice (some ⟨V, 0, none⟩) 1 1] W fun e w' => ∃ q' c', e = .returned (.slice q' (n + 1) c') ∧ w'.ownsRow B 28 1 (.slice q' (n + 1) c') (n + 1) ((L.take i ++ x :: L.drop i).map (Value.int .u32)) ∧ Below B W w' ∧ KeepT 28 W w' := by
 obtain ⟨cur, hB, hg, hnc, hcm, hcs, htk⟩ := own_cur18 hO
 obtain ⟨xs, hxs⟩ : ∃ xs, xs = L.map (Value.int .u32) := ⟨_, rfl⟩
 rw [← hxs] at htk
 have hnx : n = xs.length := by rw [hxs, List.length_map]; exact hn
 have hgl : g < W.heap.size := (Array.getElem?_eq_some_iff.1 hg).1
 have hinf : (Tryz.prog.info? 28).map (·.size) = some 1 := by kernel_rfl
 have hszC : ∀ w, (Go.sizeOf 28).run Tryz.prog w = .ok 1 w := fun w => by
  obtain ⟨i0, hi0, hz0, hz1, hz2⟩ := info_parts (show (Tryz.prog.info? 28).map (fun i => (i.zero, i.size, i.bytes)) = some (some (.int .u32 0), 1, 4) by kernel_rfl)
  simp [sizeOf, typeInfo, hi0, hz1]
 have hone : ∀ v ∈ xs.drop i, v.oneCell' = true := fun v hv => nums_one18 .u32 L v (by rw [← hxs]; exact List.mem_of_mem_drop hv)
 have hdl : (xs.drop i).length = n - i := by rw [List.length_drop, hnx]
 obtain ⟨E, hE⟩ : ∃ E, E = cur.take (i + 1) ++ xs.drop i ++ cur.drop (i + 1 + (xs.drop i).length) := ⟨_, rfl⟩
 obtain ⟨F, hF⟩ : ∃ F, F = E.take i ++ [Value.int .u32 x] ++ E.drop (i + ([Value.int .u32 x] : List Value).length) := ⟨_, rfl⟩
 obtain ⟨k1, k2, k3⟩ := ins_shift18 (v := .int .u32 x) hnx hroom hcs htk (by omega) hE hF
 obtain ⟨W1, hW1⟩ : ∃ W1, W1 = W.drew.setRow g E.toArray := ⟨_, rfl⟩
 have hg1 : W1.heap[g]? = some (.cells E.toArray 28 (0, 0)) := by rw [hW1]; exact setRow_heap W.drew g _ _ _ _ hg
 have hV1 : W1.heap[V]? = some (.cells ([.int .u32 x] : List Value).toArray 28 (0, 0)) := by rw [hW1, setRow_other _ _ _ _ hne]; exact hV
 have gr1 : W.grownBy W1 (some g) := by rw [hW1]; exact grown_set (grown_refl W _)
 have hov : ∀ lb cb, (callFunc 236 #[.slice (some ⟨V, 0, none⟩) 1 1, .slice (some ⟨g, i + 1, none⟩) lb cb]).run Tryz.prog W = .ok (.value (.bool false)) W := fun lb cb => by
  rw [run_callFunc_extern Tryz.func236 (by kernel_rfl) (by kernel_rfl) (by kernel_rfl) (e := Extern.SlicesOverlaps.overlaps #[29, 29] #[4]) (by kernel_rfl),
   Lib.run_overlaps_apart W 29 4 28 Tryz.underlying29 1 hszC ⟨V, 0, none⟩ ⟨g, i + 1, none⟩ 1 1 lb cb hne 28 28 1 c (by simp [World.shape?, hV]) (by simp [World.shape?, hg, hcs]) (by omega) (frozen_of_row _ _ _ _ _ hV) (frozen_of_row _ _ _ _ _ hV)]
  rfl
 have HC1 := hid (show ∀ ty dc sc, (Builtin.copy_ #[29, 29] ty #[.slice (some ⟨g, i + 1, none⟩) (n - i) dc, .slice (some ⟨g, i, none⟩) (n + 1 - i) sc]).run Tryz.prog W.drew = .ok (goInt (Nat.min (n + 1 - i) (n - i))) W1 from fun ty dc sc => by
  rw [hW1, hE]
  exact run_copy_at W.drew _ _ ty 28 g (i + 1) _ dc _ _ sc 1 _ 28 (xs.drop i) Tryz.underlying29 hinf hg (by rw [hdl, Nat.mul_one]; exact (Nat.min_eq_right (show n - i ≤ n + 1 - i by omega)).symm) (by rw [hdl]; simp; omega) ⟨g, i, none⟩ rfl (cells_at18 (W := W.drew) hg (row_at18 htk i)) hone)
 have HC2 := hid (show ∀ ty dc, (Builtin.copy_ #[29, 29] ty #[.slice (some ⟨g, i, none⟩) (n + 1 - i) dc, .slice (some ⟨V, 0, none⟩) 1 1]).run Tryz.prog W1 = .ok (goInt (Nat.min 1 (n + 1 - i))) (W1.setRow g F.toArray) from fun ty dc => by
  rw [hF]
  exact run_copy_at W1 _ _ ty 28 g i _ dc _ _ 1 1 _ 28 [.int .u32 x] Tryz.underlying29 hinf hg1 (by rw [show Nat.min 1 (n + 1 - i) = 1 from Nat.min_eq_left (by omega)]; rfl) (by simp [k1]; omega) ⟨V, 0, none⟩ rfl (cells_at18 hV1 (fun j u hu => by rw [Nat.zero_add]; exact hu)) (nums_one18 .u32 [x]))
 have HO := hid (own_set18 hg1 hB hroom hcm k2 k3)
 have hfin : W.grownBy (W1.setRow g F.toArray) (some g) := grown_set gr1
 have HG := hid (below_grown18 (B := B) hfin hBW (fun k e => by injection e with e; rw [← e]; exact hB))
 have HKP := hid (KeepT.grown hg hfin)
 have HXS := hid (show xs.take i ++ Value.int .u32 x :: xs.drop i = (L.take i ++ x :: L.drop i).map (Value.int .u32) by rw [hxs]; simp)
 have e1 : i ≤ c := by omega
 have e2 : ¬ c = i := by omega
 have e3 : ¬ c = i + 1 := by omega
 have e4 : (i : Int) ≤ n := by omega
 have e5 : ¬ (i : Int) = n := by omega
 have e6 : IntKind.i64.wrap ((n : Int) + 1) = (n : Int) + 1 := by rw [IntKind.wrap_i64]; omega
 have e7 : IntKind.i64.wrap ((i : Int) + 1) = (i : Int) + 1 := by rw [IntKind.wrap_i64]; omega
 have e8 : ¬ (c : Int) < (n : Int) + 1 := by omega
 have e9 : n + 1 ≤ c := hroom
 have e10 : (0 : Int) ≤ (n : Int) + 1 := by omega
 have e11 : (0 : Int) ≤ (i : Int) + 1 := by omega
 have e12 : ((n : Int) + 1).toNat = n + 1 := by omega
 have e13 : ((i : Int) + 1).toNat = i + 1 := by omega
 have e14 : (n : Int) + 1 ≤ c := by omega
 have e15 : (i : Int) + 1 ≤ (n : Int) + 1 := by omega
 have e16 : (i : Int) ≤ (n : Int) + 1 := by omega
 have e17 : i ≤ n + 1 := by omega
 have e18 : i ≤ n := by omega
 have t1 : ¬ (1 : Int) = 0 := by decide
 clear hO hn hb hB hg hcm hcs htk hinf hszC hdl hE hF k1 k2 k3 hW1 hg1 hV1 gr1 hV hne hi hfin hone hxs hnx hgl hBW
 go_enter Tryz.func220, Tryz.ntmps220
 go_wp2_with (simp only [hov])

 go_region_law (refine step_copy16 rfl (.tmp 73) (.tmp 76) #[29, 29] (by rfl) (by simp [Act.eval, Act.put]) (by simp [Act.eval, Act.put]) (HC1.out _ (c - (i + 1)) (c - i)) ?_)
 go_wp2_with ((with_reducible show wpList _ _ _ (⟨some 82, .call _, _, _, _, _⟩ :: _) _ _)
              go_loud (refine wpList_copy16 rfl (.tmp 80) (.tmp 81) #[29, 29] rfl rfl rfl (HC2.out _ _) ?_))
 go_ret
 exact ⟨_, _, rfl, by rw [← HXS.out]; exact HO.out, HG.out, HKP.out⟩
set_option maxHeartbeats 4000000 in
theorem ins_more_u18 (W : World) (B g n V i : Nat) (L : List Int) (x : Int) (hO : W.ownsRow B 28 1 (.slice (some ⟨g, 0, none⟩) n n) n (L.map (Value.int .u32))) (hn : n = L.length) (hi : i < n) (hb : n ≤ 100000) (hBW : B ≤ W.heap.size) (hV : W.heap[V]? = some (.cells ([.int .u32 x] : List Value).toArray 28 (0, 0))) :
 Calls Tryz.prog 220 #[.slice (some ⟨g, 0, none⟩) n n, .int .i64 i, .slice (some ⟨V, 0, none⟩) 1 1] W fun e w' => ∃ q' c', e = .returned (.slice q' (n + 1) c') ∧ w'.ownsRow B 28 1 (.slice q' (n + 1) c') (n + 1) ((L.take i ++ x :: L.drop i).map (Value.int .u32)) ∧ Below B W w' ∧ KeepT 28 W w' := by
 obtain ⟨cur, hB, hg, hnc, hcm, hcs, htk⟩ := own_cur18 hO
 obtain ⟨xs, hxs⟩ : ∃ xs, xs = L.map (Value.int .u32) := ⟨_, rfl⟩
 rw [← hxs] at htk
 have hnx : n = xs.length := by rw [hxs, List.length_map]; exact hn
 have hinf : (Tryz.prog.info? 28).map (·.size) = some 1 := by kernel_rfl
 have htn : Tryz.prog.underlying 3 = some (.int .i64) := Tryz.underlying3
 obtain ⟨i0, hi0, hz0, hz1, hz2⟩ := info_parts (show (Tryz.prog.info? 28).map (fun i => (i.zero, i.size, i.bytes)) = some (some (.int .u32 0), 1, 4) by kernel_rfl)
 have hone : ∀ v ∈ xs.drop i, v.oneCell' = true := fun v hv => nums_one18 .u32 L v (by rw [← hxs]; exact List.mem_of_mem_drop hv)
 have hdl : (xs.drop i).length = n - i := by rw [List.length_drop, hnx]
 obtain ⟨k, hk⟩ : ∃ k, k = n + 1 - i := ⟨_, rfl⟩
 have hold : (Builtin.firstCells i0.size i (.slice (some ⟨g, 0, none⟩) i n)).run Tryz.prog W.drew = .ok (xs.take i).toArray W.drew := run_firstCells_some (P := Tryz.prog) W.drew i0.size i ⟨g, 0, none⟩ i n (xs.take i) (by rw [hz1, List.length_take, ← hnx, Nat.mul_one, Nat.min_eq_left (by omega)]) (cells_at18 (W := W.drew) hg fun j u hu => by
  rw [Nat.zero_add]
  rw [← htk, List.take_take, List.getElem?_take] at hu
  split at hu
  ·exact hu
  ·cases hu)
 obtain ⟨cp, hcp⟩ : ∃ x, x = grownCap W (i + k) n 28 := ⟨_, rfl⟩
 have hge : n + 1 ≤ cp := by rw [hcp]; have := grownCap_ge W (i + k) n 28; omega
 have hmx : cp ≤ maxLen := by rw [hcp]; exact grownCap_le_maxLen W (i + k) n 28 (by unfold maxLen; omega)
 obtain ⟨cu2, hcu2⟩ : ∃ l : List Value, l = xs.take i ++ (Builtin.zeroCells (Value.int .u32 0).cells k).toList ++ (Builtin.zeroCells (Value.int .u32 0).cells (cp - (i + k))).toList := ⟨_, rfl⟩
 have hil : (xs.take i).length = i := by rw [List.length_take, ← hnx, Nat.min_eq_left (by omega)]
 have hcs2 : cu2.length = cp := by rw [hcu2, List.length_append, List.length_append, zero_len18, zero_len18, hil]; omega
 have htk2 : cu2.take i = xs.take i := by rw [hcu2, List.append_assoc]; exact List.take_left' hil
 obtain ⟨H, hH⟩ : ∃ H, H = W.heap.size := ⟨_, rfl⟩
 obtain ⟨W1, hW1⟩ : ∃ W1, W1 = W.drew.alloc (.cells cu2.toArray 28) := ⟨_, rfl⟩
 have hg1 : W1.heap[H]? = some (.cells cu2.toArray 28 (0, 0)) := by rw [hW1, hH]; exact heap_alloc_new W.drew _
 have gr1 : W.grownBy W1 (some g) := by rw [hW1]; exact ⟨rfl, rfl, rfl, by simp, fun k hk _ => Below.heap_alloc W.drew _ k hk⟩
 have HAP := hid (show ∀ ty, (Builtin.append_ #[29, 3] ty #[.slice (some ⟨g, 0, none⟩) i n, .int .i64 k]).run Tryz.prog W = .ok (.slice (some ⟨H, 0, none⟩) (i + k) cp) W1 from fun ty => by
  have := Lib.run_append_grow_zeros (P := Tryz.prog) W 29 3 ty 28 i0 _ .i64 .i64 Tryz.underlying29 htn hi0 hz0 (some ⟨g, 0, none⟩) i n (xs.take i) hold k (by omega) (by rw [hz1]; omega) (by omega) (by omega) (by rw [hz2]; omega) (by rw [hz2]; exact growslice_fits (by omega) (by omega))
  rw [arr18] at this
  rw [this, hW1, hcu2, hH, hcp])
 obtain ⟨E, hE⟩ : ∃ E, E = cu2.take i ++ [Value.int .u32 x] ++ cu2.drop (i + ([Value.int .u32 x] : List Value).length) := ⟨_, rfl⟩
 obtain ⟨F, hF⟩ : ∃ F, F = E.take (i + 1) ++ xs.drop i ++ E.drop (i + 1 + (xs.drop i).length) := ⟨_, rfl⟩
 obtain ⟨k1, k2, k3⟩ := ins_grow18 (v := .int .u32 x) hnx hge hcs2 htk2 (by omega) hE hF
 have hVl : V < W.heap.size := (Array.getElem?_eq_some_iff.1 hV).1
 have hgl : g < W.heap.size := (Array.getElem?_eq_some_iff.1 hg).1
 have hV1 : W1.heap[V]? = some (.cells ([.int .u32 x] : List Value).toArray 28 (0, 0)) := by rw [hW1]; exact (Below.heap_alloc W.drew _ V hVl).trans hV
 obtain ⟨W2, hW2⟩ : ∃ W2, W2 = W1.setRow H E.toArray := ⟨_, rfl⟩
 have hg2 : W2.heap[H]? = some (.cells E.toArray 28 (0, 0)) := by rw [hW2]; exact setRow_heap W1 H _ _ _ _ hg1
 have gr2 : W.grownBy W2 (some g) := by rw [hW2]; exact setRow_new18 gr1 (by omega)
 have hgg : W2.heap[g]? = some (.cells cur.toArray 28 (0, 0)) := by rw [hW2, setRow_other _ _ _ _ (by omega), hW1]; exact (Below.heap_alloc W.drew _ g hgl).trans hg
 have HC1 := hid (show ∀ ty dc, (Builtin.copy_ #[29, 29] ty #[.slice (some ⟨H, i, none⟩) k dc, .slice (some ⟨V, 0, none⟩) 1 1]).run Tryz.prog W1 = .ok (goInt (Nat.min 1 k)) W2 from fun ty dc => by
  rw [hW2, hE]
  exact run_copy_at W1 _ _ ty 28 H i _ dc _ _ 1 1 _ 28 [.int .u32 x] Tryz.underlying29 hinf hg1 (by rw [show Nat.min 1 k = 1 from Nat.min_eq_left (by omega)]; rfl) (by simp [hcs2]; omega) ⟨V, 0, none⟩ rfl (cells_at18 hV1 (fun j u hu => by rw [Nat.zero_add]; exact hu)) (nums_one18 .u32 [x]))
 have HC2 := hid (show ∀ ty dc sc, (Builtin.copy_ #[29, 29] ty #[.slice (some ⟨H, i + 1, none⟩) (i + k - (i + 1)) dc, .slice (some ⟨g, i, none⟩) (n - i) sc]).run Tryz.prog W2.drew = .ok (goInt (Nat.min (n - i) (i + k - (i + 1)))) (W2.drew.setRow H F.toArray) from fun ty dc sc => by
  rw [hF]
  exact run_copy_at W2.drew _ _ ty 28 H (i + 1) _ dc _ _ sc 1 _ 28 (xs.drop i) Tryz.underlying29 hinf hg2 (by rw [hdl, Nat.mul_one]; exact (Nat.min_eq_left (show n - i ≤ i + k - (i + 1) by omega)).symm) (by rw [hdl]; simp [k1]; omega) ⟨g, i, none⟩ rfl (cells_at18 (W := W2.drew) hgg (row_at18 htk i)) hone)
 have HO := hid (own_set18 (W := W2.drew) (m := n + 1) (c := cp) hg2 (show B ≤ H by omega) hge hmx k2 k3)
 have hfin : W.grownBy (W2.drew.setRow H F.toArray) (some g) := setRow_new18 (W' := W2.drew) ⟨gr2.os, gr2.tape, gr2.output, gr2.size, gr2.block⟩ (by omega)
 have HG := hid (below_grown18 (B := B) hfin hBW (fun k e => by injection e with e; rw [← e]; exact hB))
 have HKP := hid (KeepT.grown hg hfin)
 have HXS := hid (show xs.take i ++ Value.int .u32 x :: xs.drop i = (L.take i ++ x :: L.drop i).map (Value.int .u32) by rw [hxs]; simp)
 have HK := hid (show i + k = n + 1 by omega)
 have e1 : i ≤ n := by omega
 have e2 : ¬ n = i := by omega
 have e3 : ¬ cp = i + 1 := by omega
 have e4 : (i : Int) ≤ n := by omega
 have e5 : ¬ (i : Int) = n := by omega
 have e6 : IntKind.i64.wrap ((n : Int) + 1) = (n : Int) + 1 := by rw [IntKind.wrap_i64]; omega
 have e7 : IntKind.i64.wrap ((i : Int) + 1) = (i : Int) + 1 := by rw [IntKind.wrap_i64]; omega
 have e8 : (n : Int) < (n : Int) + 1 := by omega
 have e9 : IntKind.i64.wrap ((n : Int) + 1 - (i : Int)) = (k : Nat) := by rw [IntKind.wrap_i64]; omega
 have e11 : (0 : Int) ≤ (i : Int) + 1 := by omega
 have e13 : ((i : Int) + 1).toNat = i + 1 := by omega
 have e14 : (i : Int) ≤ (i : Int) + (k : Int) := by omega
 have e15 : (i : Int) + 1 ≤ (i : Int) + (k : Int) := by omega
 have e16 : ¬ cp = i := by omega
 have e17 : i ≤ i + k := by omega
 have t1 : ¬ (1 : Int) = 0 := by decide
 clear hO hn hb hB hBW hg hcm hcs htk hinf htn hi0 hz0 hz1 hz2 hdl hk hold hcp hge hmx hcu2 hil hcs2 htk2 hH hW1 hg1 gr1 hE hF k1 k2 k3 hVl hgl hV1 hW2 hg2 gr2 hgg hV hi hfin hone hxs hnx
 go_enter Tryz.func220, Tryz.ntmps220
 go_wp2_with (first
  | ((with_reducible show wpList _ _ _ (⟨some 40, .call _, _, _, _, _⟩ :: _) _ _)
     go_loud (refine wpList_appr16 rfl (.tmp 34) (.tmp 39) #[29, 3] rfl rfl rfl (HAP.out _) ?_))
  | ((with_reducible show wpList _ _ _ (⟨some 45, .call _, _, _, _, _⟩ :: _) _ _)
     go_loud (refine wpList_copy16 rfl (.tmp 43) (.tmp 44) #[29, 29] rfl rfl rfl (HC1.out _ _) ?_)))

 go_region_law (refine step_copy16 rfl (.tmp 50) (.tmp 53) #[29, 29] (by rfl) (by simp [Act.eval, Act.put]) (by simp [Act.eval, Act.put]) (HC2.out _ (cp - (i + 1)) (n - i)) ?_)
 go_wp2_with fail
 go_ret
 exact ⟨_, _, by rw [HK.out]; rfl, by rw [← HXS.out]; exact HO.out, HG.out, HKP.out⟩
theorem insert_at_u18 (W : World) (B : Nat) (q : Option Addr) (n c V i : Nat) (L : List Int) (x : Int) (hO : W.ownsRow B 28 1 (.slice q n c) n (L.map (Value.int .u32))) (hn : n = L.length) (hi : i < n) (hb : n ≤ 100000) (hBW : B ≤ W.heap.size) (hV : W.heap[V]? = some (.cells ([.int .u32 x] : List Value).toArray 28 (0, 0))) (hne : ∀ g, q = some ⟨g, 0, none⟩ → V ≠ g) :
 Calls Tryz.prog 220 #[.slice q n c, .int .i64 i, .slice (some ⟨V, 0, none⟩) 1 1] W fun e w' => ∃ q' c', e = .returned (.slice q' (n + 1) c') ∧ w'.ownsRow B 28 1 (.slice q' (n + 1) c') (n + 1) ((L.take i ++ x :: L.drop i).map (Value.int .u32)) ∧ Below B W w' ∧ KeepT 28 W w' := by
 obtain ⟨g, c', he, _, _⟩ := hO.form (by omega)
 injection he with e1 e2 e3
 subst e1 e3
 obtain ⟨cur, _, _, hnc, _⟩ := own_cur18 hO
 by_cases hc : n + 1 ≤ c
 ·exact ins_room_u18 W B g n c V i L x hO hn hi hc hb hBW hV (hne g rfl)
 ·obtain rfl : c = n := by omega
  exact ins_more_u18 W B g c V i L x hO hn hi hb hBW hV
end Go.Proofs.YtlenjfodjkhpmaaGreatDoor
