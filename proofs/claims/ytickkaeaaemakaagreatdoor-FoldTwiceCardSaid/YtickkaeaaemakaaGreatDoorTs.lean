/- What the calls of the package fold have to return, as the chapter says it; the helpers of its statements: a copy, a list written over. Conditions: lists of at most 1,000 calls. -/
import Derived.Test.YtickkaeaaemakaaGreatDoorTq
import Derived.Test.YtickkaeaaemakaaGreatDoorTr
namespace Go.Proofs.YtickkaeaaemakaaGreatDoor
open Go.RowKit
set_option linter.unusedVariables false
set_option linter.unusedSimpArgs false
attribute [local go_sem ↓] Go.wp_at_zero Go.wp_at_succ

/-- What fold.Step and so on have to return, over what must lie in memory. -/
structure FoldC (G : World → Prop) : Prop where
  on : ∀ {w w' : World}, G w → Below w.heap.size w w' → G w'
  may : ∀ (m : Nat) (q : Option Addr) (n c : Nat) (L : List Cl) (w : World), G w → m < 256 → n = L.length → n ≤ 1000 → (∀ e ∈ L, e.2 < 4294967296) → LsAt w q L → Calls Tryz.prog 23 #[lsV m q n c] w fun e w' => e = .returned (.bool (mayR knownR m L)) ∧ Below w.heap.size w w'
  find : ∀ (m : Nat) (q : Option Addr) (n c : Nat) (L : List Cl) (s : ByteArray) (w : World), G w → m < 256 → n = L.length → n ≤ 1000 → (∀ e ∈ L, e.2 < 4294967296) → LsAt w q L → Calls Tryz.prog 19 #[lsV m q n c, .string s] w fun e w' => e = .returned (.tuple #[.int .u32 ((findC L s).getD 0 : Nat), .bool (findC L s).isSome]) ∧ Below w.heap.size w w'
  put : ∀ (m : Nat) (q : Option Addr) (n c : Nat) (L : List Cl) (s : ByteArray) (a : Nat) (w : World), G w → m < 256 → n = L.length → n ≤ 1000 → (∀ e ∈ L, e.2 < 4294967296) → a < 4294967296 → LsAt w q L → Calls Tryz.prog 21 #[lsV m q n c, .string s, .int .u32 (a : Nat)] w fun e w' => NewL2 w w' e m (putK knownR m L s a)
  take : ∀ (m : Nat) (q : Option Addr) (n c : Nat) (L : List Cl) (s : ByteArray) (w : World), G w → m < 256 → n = L.length → n ≤ 1000 → (∀ e ∈ L, e.2 < 4294967296) → LsAt w q L → Calls Tryz.prog 22 #[lsV m q n c, .string s] w fun e w' => NewL2 w w' e m (takeK knownR m L s)
  step : ∀ (m : Nat) (q : Option Addr) (n c : Nat) (L : List Cl) (v : ByteArray) (sfx : Bool) (w : World), G w → m < 256 → n = L.length → n ≤ 1000 → (∀ e ∈ L, e.2 < 4294967296) → v.size ≤ 1000 → LsAt w q L → Calls Tryz.prog 11 #[lsV m q n c, .string v, .bool sfx] w fun e w' => ∃ q' n' c' vN, e = .returned (.tuple #[lsV (stepA sfx v (m, L)).1.1 q' n' c', vN]) ∧ n' = (stepA sfx v (m, L)).1.2.length ∧ w'.ownsRow w.heap.size 51 2 (.slice q' n' c') n' (rowC encC (stepA sfx v (m, L)).1.2) ∧ RowsAt 4 encN w' vN ((stepA sfx v (m, L)).2.map nteS) ∧ Below w.heap.size w w'
  fold : ∀ (u : Value) (V : List ByteArray) (sfx : Bool) (w : World), G w → StrsAt w u V → V.length ≤ 100 → (∀ x ∈ V, x.size ≤ 1000) → Calls Tryz.prog 17 #[u, .bool sfx] w fun e w' => ∃ q' n' c' vN, e = .returned (.tuple #[lsV (foldK sfx V V.length).1.1 q' n' c', vN]) ∧ n' = (foldK sfx V V.length).1.2.length ∧ LsAt w' q' (foldK sfx V V.length).1.2 ∧ RowsAt 4 encN w' vN ((foldK sfx V V.length).2.map nteS) ∧ Below w.heap.size w w'
  words : ∀ (s : ByteArray) (w : World), G w → s.size ≤ 1000 → Calls Tryz.prog 29 #[.string s] w fun e w' => ∃ q c, e = .returned (.slice q (wdL s.data.toList).length c) ∧ Below w.heap.size w w'
  turned : ∀ (s : ByteArray) (w : World), G w → s.size ≤ 1000 → Calls Tryz.prog 30 #[.string s] w fun e w' => e = .returned (.tuple #[.string (turnR s).1, .bool (turnR s).2]) ∧ Below w.heap.size w w'
  warns : ∀ (e : Int) (w : World), G w → Calls Tryz.prog 25 #[.int .i64 e] w fun r w' => r = .returned (.bool (warnsF e)) ∧ Below w.heap.size w w'
theorem step_bound (sfx : Bool) (v : ByteArray) (m : Nat) (L : List Cl) (hv : v.size ≤ 1000) (hL : L.length ≤ 100) : (stepA sfx v (m, L)).1.2.length ≤ 100 ∧ (stepA sfx v (m, L)).2.length ≤ 1000 := by
  unfold stepA
  by_cases h : mayR knownR m L = true
  · rw [if_pos h]
    have := okl_le (step_ok grpX_known sfx v (s := (m, L)) (may_iff.1 h))
    exact ⟨by omega, stepC_nts_le sfx v _ hv⟩
  · rw [if_neg h]
    exact ⟨hL, Nat.zero_le _⟩
theorem nts_rows {w : World} {B : Nat} {v : Value} {r : List (Int × ByteArray)} (h : w.ownsRow B 61 4 v r.length (rowC encN (r.map nteS))) : RowsAt 4 encN w v (r.map nteS) := rows_own encN_len (by rw [List.length_map]; exact h)
theorem blk_lt {w : World} {k : Nat} {o : Obj} (h : w.heap[k]? = some o) : k < w.heap.size := (Array.getElem?_eq_some_iff.1 h).1
theorem blk_on {w w' : World} {k : Nat} {o : Obj} (h : w.heap[k]? = some o) (b : Below w.heap.size w w') : w'.heap[k]? = some o := (b.block k (blk_lt h)).trans h
theorem great16 (m : Nat) (q : Option Addr) (n c : Nat) (w : World) : Calls Tryz.prog 9 #[lsV m q n c] w fun e w' => e = .returned (.bool (decide (100 < n))) ∧ Below w.heap.size w w' := by
  unfold lsV
  obtain ⟨mi, hmi⟩ : ∃ x : Int, x = (m : Nat) := ⟨_, rfl⟩
  rw [← hmi]
  clear hmi
  by_cases h : 100 < n
  · rw [decide_eq_true h]
    have h1 : (100 : Int) < n := by omega
    clear h
    go_enter Tryz.func9, Tryz.ntmps9
    go_wp2
    go_ret
    exact ⟨rfl, (Below.refl _ _).alloc (Nat.le_refl _) _⟩
  · rw [decide_eq_false h]
    have h1 : ¬ (100 : Int) < n := by omega
    clear h
    go_enter Tryz.func9, Tryz.ntmps9
    go_wp2
    go_ret
    exact ⟨rfl, (Below.refl _ _).alloc (Nat.le_refl _) _⟩
theorem call16 (s : ByteArray) (a : Int) (w : World) : Calls Tryz.prog 44 #[.string s, .int .u32 a] w fun e w' => e = .returned (.agg #[.string s, .int .u32 a]) ∧ Below w.heap.size w w' := by
  go_enter Tryz.func44, Tryz.ntmps44
  go_wp2
  refine bodyPost_ret (v := .agg #[.string s, .int .u32 a]) (by simp [results, Tryz.results44, go_sem]) rfl ⟨rfl, (Below.refl _ _).alloc (Nat.le_refl _) _⟩
set_option maxRecDepth 100000 in
set_option maxHeartbeats 8000000 in
/-- A list written over: what lies below its row stays, and each other block. -/
theorem spoil_on16 (m : Nat) (q : Option Addr) (n c B : Nat) (xs : List Value) (w : World) (hn : n ≤ 100000) (hB : B ≤ w.heap.size) (h : w.ownsRow B 51 2 (.slice q n c) n xs) : Calls Tryz.prog 15 #[lsV m q n c] w fun e w' => e = .returned (.tuple #[]) ∧ Below B w w' ∧ ∀ j o, q ≠ some ⟨j, 0, none⟩ → w.heap[j]? = some o → w'.heap[j]? = some o := by
  unfold lsV
  obtain ⟨mi, hmi⟩ : ∃ x : Int, x = (m : Nat) := ⟨_, rfl⟩
  rw [← hmi]
  obtain ⟨W, hW⟩ : ∃ W, W = w.alloc (.cells #[.int .u8 mi, .slice q n c] 24) := ⟨_, rfl⟩
  have HB := Lib.hid (show Below B w W from hW ▸ (Below.refl _ _).alloc hB _)
  have HO := Lib.hid (show W.ownsRow B 51 2 (.slice q n c) n xs from hW ▸ h.alloc _)
  have HX := Lib.hid (show W.heap[w.heap.size]? = some (.cells #[.int .u8 mi, .slice q n c] 24 (0, 0)) from hW ▸ heap_alloc_new w _)
  have HK := Lib.hid (show ∀ j o, q ≠ some ⟨j, 0, none⟩ → w.heap[j]? = some o → W.heap[j]? = some o from fun j o _ hj => hW ▸ blk_on hj (below16 w _))
  clear h hmi
  go_enter Tryz.func15, Tryz.ntmps15
  go_wp2
  rw [← hW]
  clear hW
  go_loopw [2] (fun v2 wr => ∃ (k : Nat) (ys : List Value), k ≤ n ∧ v2 = .int .i64 k ∧ Hid (wr.ownsRow B 51 2 (.slice q n c) n ys) ∧ Hid (wr.heap[w.heap.size]? = some (.cells #[.int .u8 mi, .slice q n c] 24 (0, 0))) ∧ Hid (Below B w wr) ∧ Hid (∀ j o, q ≠ some ⟨j, 0, none⟩ → w.heap[j]? = some o → wr.heap[j]? = some o)) (fun v2 _ => n - (intOf v2).toNat)
  case atStart => exact ⟨0, xs, by omega, rfl, HO, HX, HB, HK⟩
  case round =>
    clear HO HX HB HK
    obtain ⟨k, ys, hk, rfl, HO, HX, HB, HK⟩ := hrel
    obtain ⟨V0, rfl⟩ : ∃ wo : World, wo = wr := ⟨_, rfl⟩
    have x1 := (cell_of_row V0 w.heap.size 1 _ _ (0, 0) HX.out).trans (show _ = some (Value.slice q n c) from rfl)
    by_cases hlt : k < n
    · obtain ⟨g, cap, hv, hgB, hgl⟩ := HO.out.form (by omega)
      injection hv with h1 h2 h3
      subst h1 h3
      have hyl := HO.out.1
      have hky : k * 2 < ys.length := by rw [hyl]; omega
      have c0 := HO.out.cellAt (k * 2) (by omega)
      rw [List.getElem?_eq_getElem hky] at c0
      obtain ⟨y0, hy0⟩ : ∃ y, y = ys[k * 2] := ⟨_, rfl⟩
      rw [← hy0] at c0
      have f0 := HO.out.frozenAt (k * 2)
      have hne : g ≠ w.heap.size := by
        rcases HO.out.2 with ⟨hv, _⟩ | ⟨g2, cap2, cur, hv, _, hg2, _⟩
        · cases hv
        · injection hv with hv _ _
          injection hv with hv
          injection hv with hv _ _
          subst hv
          exact ne_type16 hg2 HX.out (by decide)
      have HS := Lib.hid (HO.out.stored (k * 2) (.string ⟨#[103, 111, 110, 101]⟩)).1
      have HX2 := Lib.hid ((heap_setCell_other V0 ⟨g, k * 2, none⟩ w.heap.size (.string ⟨#[103, 111, 110, 101]⟩) (fun e => hne e.symm)).trans HX.out)
      have HB2 := Lib.hid (HB.out.setCell (p := ⟨g, k * 2, none⟩) hgB (.string ⟨#[103, 111, 110, 101]⟩))
      have HK2 := Lib.hid (show ∀ j o, some (⟨g, 0, none⟩ : Addr) ≠ some ⟨j, 0, none⟩ → w.heap[j]? = some o → (V0.setCell ⟨g, k * 2, none⟩ (.string ⟨#[103, 111, 110, 101]⟩)).heap[j]? = some o from fun j o hj ho => (heap_setCell_other V0 ⟨g, k * 2, none⟩ j (.string ⟨#[103, 111, 110, 101]⟩) (fun e => hj (by rw [e]))).trans (HK.out j o hj ho))
      have k1 : (k : Int) < n := by omega
      have k0 : (0 : Int) ≤ k := by omega
      clear hy0 hyl hky hne
      go_wp2
      go_roundw
      case rel => exact ⟨k + 1, _, by omega, by go_num, HS, HX2, HB2, HK2⟩
      case measure => first | (simp [intOf]; done) | (simp [intOf]; omega)
    · obtain rfl : k = n := by omega
      have k1 : ¬ (k : Int) < k := by omega
      go_wp2
      (try simp only [Exit.inBlock, Exit.then])
      first | refine bodyPost_ret (results_none rfl _ _ _) rfl ?_ | refine bodyPost_end (results_none rfl _ _ _) rfl ?_
      exact ⟨rfl, HB.out, HK.out⟩
theorem spoil16 (m : Nat) (q : Option Addr) (n c B : Nat) (xs : List Value) (w : World) (hn : n ≤ 100000) (hB : B ≤ w.heap.size) (h : w.ownsRow B 51 2 (.slice q n c) n xs) : Calls Tryz.prog 15 #[lsV m q n c] w fun e w' => e = .returned (.tuple #[]) ∧ Below B w w' :=
  (spoil_on16 m q n c B xs w hn hB h).mono fun _ _ ⟨h1, h2, _⟩ => ⟨h1, h2⟩
theorem own_sep16 {w : World} {B t s n c k : Nat} {q : Option Addr} {xs : List Value} (h : w.ownsRow B t s (.slice q n c) k xs) : ∀ j, q = some ⟨j, 0, none⟩ → j < w.heap.size := fun j hj => by
  subst hj
  rcases h.2 with ⟨hv, _⟩ | ⟨g, cap, cur, hv, _, hg, _⟩
  · cases hv
  · injection hv with hv _ _
    injection hv with hv
    injection hv with hv _ _
    subst hv
    exact blk_lt hg
end Go.Proofs.YtickkaeaaemakaaGreatDoor
