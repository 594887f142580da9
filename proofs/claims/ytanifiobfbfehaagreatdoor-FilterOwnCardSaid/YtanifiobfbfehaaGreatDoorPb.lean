/- Lists of the same mode and calls are the same. Condition: at most 1,000,000 calls. -/
import Derived.Test.YtanifiobfbfehaaGreatDoorP8
import Derived.BigQuiet
import Derived.Deep.QuietTactic
namespace Go.Proofs.YtanifiobfbfehaaGreatDoor
open Go.RowKit
set_option linter.unusedVariables false
set_option linter.unusedSimpArgs false
attribute [local go_sem ↓] Go.wp_at_zero Go.wp_at_succ

/-- Lists of the same mode and calls are the same. -/
theorem sameLists17 (m : Nat) (q q' : Option Addr) (n cap cap' : Nat) (L : List Cl) (w : World) (hl : L.length = n) (hn : n ≤ 1000000) (h : LsAt w q L) (h' : LsAt w q' L) : Calls Tryz.prog 19 #[lsV m q n cap, lsV m q' n cap'] w fun e w' =>
    e = .returned (.bool true) ∧ Below w.heap.size w w' := by
  unfold lsV
  obtain ⟨mi, hmi⟩ : ∃ x, x = ((m : Nat) : Int) := ⟨_, rfl⟩
  rw [← hmi]
  have HL := Lib.hid hl
  have HR := Lib.hid h
  have HR' := Lib.hid h'
  have tm : (mi == mi) = true := by simp
  obtain ⟨W, hW⟩ : ∃ W, W = (w.alloc (.cells #[.int .u8 mi, .slice q n cap] 25)).alloc (.cells #[.int .u8 mi, .slice q' n cap'] 25) := ⟨_, rfl⟩
  have BB := Lib.hid (show Below w.heap.size w W from hW ▸ ((Below.refl _ _).alloc (Nat.le_refl _) _).alloc (by rw [World.size_alloc]; exact Nat.le_succ _) _)
  have p0 : W.cell? ⟨w.heap.size, 1, none⟩ = some (.slice q n cap) := by
    rw [hW, cell_of_row _ _ _ _ _ (0, 0) ((Below.heap_alloc _ _ _ (by rw [World.size_alloc]; exact Nat.lt_succ_self _)).trans (heap_alloc_new w _))]; rfl
  have p1 : W.cell? ⟨w.heap.size + 1, 1, none⟩ = some (.slice q' n cap') := by
    rw [hW, ← World.size_alloc w, cell_of_row _ _ _ _ _ (0, 0) (heap_alloc_new _ _)]; rfl
  have hlt0 : w.heap.size < W.heap.size := by rw [hW, World.size_alloc, World.size_alloc]; omega
  have hlt1 : w.heap.size + 1 < W.heap.size := by rw [hW, World.size_alloc, World.size_alloc]; omega
  clear h h' hl hmi
  go_enter Tryz.func19, Tryz.ntmps19
  go_wp2
  rw [← hW]
  clear hW
  go_loopw [5] (fun v5 wr => ∃ k : Nat, k ≤ n ∧ v5 = .int .i64 k ∧ Hid (Below W.heap.size W wr)) (fun v5 _ => n - (intOf v5).toNat)
  case atStart => exact ⟨0, by omega, rfl, Lib.hid (Below.refl _ _)⟩
  case round =>
    obtain ⟨k, hk, rfl, PB⟩ := hrel
    obtain ⟨V, rfl⟩ : ∃ wo : World, wo = wr := ⟨_, rfl⟩
    have r0 := (PB.out.cell (p := ⟨w.heap.size, 1, none⟩) hlt0).trans p0
    have r1 := (PB.out.cell (p := ⟨w.heap.size + 1, 1, none⟩) hlt1).trans p1
    by_cases hlt : k < n
    · have hx : L[k]? = some (L[k]'(by rw [HL.out]; exact hlt)) := List.getElem?_eq_getElem _
      obtain ⟨⟨x, y⟩, he⟩ : ∃ e, e = L[k]'(by rw [HL.out]; exact hlt) := ⟨_, rfl⟩
      rw [← he] at hx
      have BV := thn16 BB.out PB.out
      obtain ⟨g, o, rfl, c0, c1⟩ := (HR.out.on BV) k _ hx
      obtain ⟨g', o', rfl, d0, d1⟩ := (HR'.out.on BV) k _ hx
      simp only at c0 c1 d0 d1
      obtain ⟨yi, hyi⟩ : ∃ v, v = ((y : Nat) : Int) := ⟨_, rfl⟩
      rw [← hyi] at c1 d1
      have k1 : (k : Int) < n := by omega
      have k0 : (0 : Int) ≤ k := by omega
      have hw1 : IntKind.i64.wrap ((k : Int) + 1) = k + 1 := by rw [IntKind.wrap_i64]; omega
      have t1 : (x.toList == x.toList) = true := by simp
      have t2 : (yi == yi) = true := by simp
      clear hx he hyi BV p0 p1
      go_wp2_with fail
      go_quiet (fail)
      go_wp2_with fail
      go_roundw
      case rel => exact ⟨k + 1, by omega, by go_num, Lib.hid (below_drewN PB.out _)⟩
      case measure => first | (simp [intOf]; done) | (simp [intOf]; omega)
    · obtain rfl : k = n := by omega
      have k1 : ¬ (k : Int) < k := by omega
      clear p0 p1
      go_wp2_with fail
      go_ret
      exact ⟨rfl, thn16 BB.out PB.out⟩
end Go.Proofs.YtanifiobfbfehaaGreatDoor
