/- FilterOwn: what its walks share. -/
import Derived.Test.YtanifiobfbfehaaGreatDoorP8
import Derived.BigQuiet
import Derived.Deep.QuietTactic
import Derived.Test.YtanifiobfbfehaaGreatDoorP9
namespace Go.Proofs.YtanifiobfbfehaaGreatDoor
open Go.RowKit
set_option linter.unusedVariables false
set_option linter.unusedSimpArgs false
attribute [local go_sem ↓] Go.wp_at_zero Go.wp_at_succ

/-- Lists of the same mode and calls are the same. -/
theorem sameLists17 (m : Nat) (q q' : Option Addr) (n cap cap' : Nat) (L : List Cl) (w : World) (hl : L.length = n) (hn : n ≤ 1000000) (h : LsAt w q L) (h' : LsAt w q' L) : Calls Tryz.prog 19 #[lsV m q n cap, lsV m q' n cap'] w fun e w' =>
    e = .returned (.bool true) ∧ Below w.heap.size w w' := by
  unfold lsV
  obtain ⟨mi, hmi⟩ : ∃ x, x = ((m : Nat) : Int) := ⟨_, rfl⟩
  rw [← hmi]
  have HL := Lib.hid hl
  have HR := Lib.hid h
  have HR' := Lib.hid h'
  have tm : (mi == mi) = true := by simp
  obtain ⟨W, hW⟩ : ∃ W, W = (w.alloc (.cells #[.int .u8 mi, .slice q n cap] 25)).alloc (.cells #[.int .u8 mi, .slice q' n cap'] 25) := ⟨_, rfl⟩
  have BB := Lib.hid (show Below w.heap.size w W from hW ▸ ((Below.refl _ _).alloc (Nat.le_refl _) _).alloc (by rw [World.size_alloc]; exact Nat.le_succ _) _)
  have p0 : W.cell? ⟨w.heap.size, 1, none⟩ = some (.slice q n cap) := by
    rw [hW, cell_of_row _ _ _ _ _ (0, 0) ((Below.heap_alloc _ _ _ (by rw [World.size_alloc]; exact Nat.lt_succ_self _)).trans (heap_alloc_new w _))]; rfl
  have p1 : W.cell? ⟨w.heap.size + 1, 1, none⟩ = some (.slice q' n cap') := by
    rw [hW, ← World.size_alloc w, cell_of_row _ _ _ _ _ (0, 0) (heap_alloc_new _ _)]; rfl
  have hlt0 : w.heap.size < W.heap.size := by rw [hW, World.size_alloc, World.size_alloc]; omega
  have hlt1 : w.heap.size + 1 < W.heap.size := by rw [hW, World.size_alloc, World.size_alloc]; omega
  clear h h' hl hmi
  go_enter Tryz.func19, Tryz.ntmps19
  go_wp2
  rw [← hW]
  clear hW
  go_loopw [5] (fun v5 wr => ∃ k : Nat, k ≤ n ∧ v5 = .int .i64 k ∧ Hid (Below W.heap.size W wr)) (fun v5 _ => n - (intOf v5).toNat)
  case atStart => exact ⟨0, by omega, rfl, Lib.hid (Below.refl _ _)⟩
  case round =>
    obtain ⟨k, hk, rfl, PB⟩ := hrel
    obtain ⟨V, rfl⟩ : ∃ wo : World, wo = wr := ⟨_, rfl⟩
    have r0 := (PB.out.cell (p := ⟨w.heap.size, 1, none⟩) hlt0).trans p0
    have r1 := (PB.out.cell (p := ⟨w.heap.size + 1, 1, none⟩) hlt1).trans p1
    by_cases hlt : k < n
    · have hx : L[k]? = some (L[k]'(by rw [HL.out]; exact hlt)) := List.getElem?_eq_getElem _
      obtain ⟨⟨x, y⟩, he⟩ : ∃ e, e = L[k]'(by rw [HL.out]; exact hlt) := ⟨_, rfl⟩
      rw [← he] at hx
      have BV := thn16 BB.out PB.out
      obtain ⟨g, o, rfl, c0, c1⟩ := (HR.out.on BV) k _ hx
      obtain ⟨g', o', rfl, d0, d1⟩ := (HR'.out.on BV) k _ hx
      simp only at c0 c1 d0 d1
      obtain ⟨yi, hyi⟩ : ∃ v, v = ((y : Nat) : Int) := ⟨_, rfl⟩
      rw [← hyi] at c1 d1
      have k1 : (k : Int) < n := by omega
      have k0 : (0 : Int) ≤ k := by omega
      have hw1 : IntKind.i64.wrap ((k : Int) + 1) = k + 1 := by rw [IntKind.wrap_i64]; omega
      have t1 : (x.toList == x.toList) = true := by simp
      have t2 : (yi == yi) = true := by simp
      clear hx he hyi BV p0 p1
      go_wp2_with fail
      go_quiet (fail)
      go_wp2_with fail
      go_roundw
      case rel => exact ⟨k + 1, by omega, by go_num, Lib.hid (below_drewN PB.out _)⟩
      case measure => first | (simp [intOf]; done) | (simp [intOf]; omega)
    · obtain rfl : k = n := by omega
      have k1 : ¬ (k : Int) < k := by omega
      clear p0 p1
      go_wp2_with fail
      go_ret
      exact ⟨rfl, thn16 BB.out PB.out⟩
end Go.Proofs.YtanifiobfbfehaaGreatDoor
namespace Go.Proofs.YtanifiobfbfehaaGreatDoor.filterOwn
open Go.RowKit Go.Proofs.YtanifiobfbfehaaGreatDoor.filterSets
set_option linter.unusedVariables false
set_option linter.unusedSimpArgs false
attribute [local go_sem ↓] Go.wp_at_zero Go.wp_at_succ

theorem OwnP.keep {B : Nat} {w w' : World} {p : Pls} {P : Pol} (h : OwnP B w p P) (hk : ∀ (g : Nat) (cs : Array Value) (t : TypeId) (fz : Nat × Nat), t ≠ 30 → w.heap[g]? = some (.cells cs t fz) → w'.heap[g]? = some (.cells cs t fz)) : OwnP B w' p P :=
  ⟨h.al, h.fl, h.ll, h.ml, owns_same16 h.ar (fun g cs fz _ hg => hk g cs _ fz (by decide) hg), owns_same16 h.fi (fun g cs fz _ hg => hk g cs _ fz (by decide) hg), owns_same16 h.lo (fun g cs fz _ hg => hk g cs _ fz (by decide) hg), owns_same16 h.fa (fun g cs fz _ hg => hk g cs _ fz (by decide) hg)⟩
theorem put17 {w v3 : World} {B g5 : Nat} {p q3 : Pls} {P P2 : Pol} {a : As} {vN : Value} {NN : List Nte} (X3 : v3.heap[w.heap.size]? = some (.cells (plC p P).toArray 30 (0, 0))) (Y3 : v3.heap[w.heap.size + 1]? = some (.cells (asC a).toArray 32 (0, 0))) (Z3 : v3.heap[g5]? = some (.cells ([.slice none 0 0, .int .u8 0, .slice none 0 0, .int .u32 0, .int .u8 0, .slice none 0 0, .slice none 0 0, .int .u8 0, .int .u64 0, .bool false, .bool false, .bool false, .bool false] : List Value).toArray 30 (0, 0)))
    (hx : w.heap.size ≠ g5) (hy : w.heap.size + 1 ≠ g5) (hw : w.heap.size ≤ g5) (B3 : Below w.heap.size w v3) (O3 : OwnP B v3 q3 P2) (R3 : v3.ownsRow w.heap.size 51 4 vN NN.length (rowC encN NN)) :
    (v3.setCells g5 0 (plC q3 P2)).heap[w.heap.size]? = some (.cells (plC p P).toArray 30 (0, 0)) ∧ (v3.setCells g5 0 (plC q3 P2)).heap[w.heap.size + 1]? = some (.cells (asC a).toArray 32 (0, 0)) ∧ (v3.setCells g5 0 (plC q3 P2)).heap[g5]? = some (.cells (plC q3 P2).toArray 30 (0, 0)) ∧ Below w.heap.size w (v3.setCells g5 0 (plC q3 P2)) ∧ PolAt (v3.setCells g5 0 (plC q3 P2)) q3 P2 ∧ RowsAt 4 encN (v3.setCells g5 0 (plC q3 P2)) vN NN := by
  have hk : ∀ (g : Nat) (cs : Array Value) (t : TypeId) (fz : Nat × Nat), t ≠ 30 → v3.heap[g]? = some (.cells cs t fz) → (v3.setCells g5 0 (plC q3 P2)).heap[g]? = some (.cells cs t fz) := fun g cs t fz ht h => (heap_setCells16 v3 _ _ (ne_type16 h Z3 ht) _ 0).trans h
  refine ⟨(heap_setCells16 v3 _ _ hx _ 0).trans X3, (heap_setCells16 v3 _ _ hy _ 0).trans Y3, ?_, below_setCells16 hw _ 0 _ B3, (OwnP.keep O3 hk).pol, rows_own encN_len (owns_same16 R3 fun g cs fz _ h => hk g cs _ fz (by decide) h)⟩
  have := set_row17 (W := v3) (plC q3 P2) 0 _ v3 Z3 (by rw [plC_len]; decide)
  rw [this, plC_len]
  rfl
end Go.Proofs.YtanifiobfbfehaaGreatDoor.filterOwn
