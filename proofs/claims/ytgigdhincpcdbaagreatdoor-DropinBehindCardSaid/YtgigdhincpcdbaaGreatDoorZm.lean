/- What the landed calls of lines return, as the chapter says it. Conditions: the library's two tables lie in their variables; a file of at most 2^47 bytes. The library's two tables as the statements' conditions give them, and a world that meets the conditions. -/
import Derived.Test.YtgigdhincpcdbaaGreatDoorZj
import Derived.Test.YtgigdhincpcdbaaGreatDoorZf
import Derived.Test.YtgigdhincpcdbaaGreatDoorLz
import Derived.ProofKit
import Derived.LaidMore
import Derived.OpenShut
import Derived.Stop.Joined
import Derived.MakeChecks
import Derived.Lay
import Derived.Test.YtgigdhincpcdbaaGreatDoorRows
namespace Go.Proofs.YtgigdhincpcdbaaGreatDoor
open Go.RowKit Go.Shelf
set_option linter.unusedVariables false
set_option linter.unusedSimpArgs false
attribute [local go_sem ↓] Go.wp_at_zero Go.wp_at_succ

set_option maxRecDepth 100000 in
set_option maxHeartbeats 8000000 in
theorem split12 (a0 : Option Addr) (n cap : Nat) (l : List UInt8) (w : World) (hG : G12 w) (hl : l.length = n) (hn : n ≤ 140737488355328) (hR : RdB w w.heap.size a0 l) : Calls Tryz.prog 32 #[.slice a0 n cap] w fun e w' =>
    ∃ v, e = .returned (.tuple #[v, .int .i64 (splE l)]) ∧ LnsAt w' v (splL l) ∧ Below w.heap.size w w' := by
  by_cases h1 : 65536 < n
  · have e1 : splE l = 3 := by unfold splE; rw [if_pos (by omega)]
    have e2 : splL l = [] := by unfold splL; rw [if_pos (by omega)]
    rw [e1, e2]
    have n1 : (65536 : Int) < n := by omega
    clear e1 e2 hl hR h1 hG
    go_enter Tryz.func32, Tryz.ntmps32
    go_wp2_with fail
    go_ret2
    exact ⟨_, rfl, LnsAt.nil _, Below.refl _ _⟩
  · have n1 : ¬ (65536 : Int) < n := by omega
    have HCN := Lib.hid (count12 a0 n cap l w hl hn hR)
    by_cases h2 : 1000 < (linL l).length
    · have e1 : splE l = 4 := by unfold splE; rw [if_neg (by omega), if_pos h2]
      have e2 : splL l = [] := by unfold splL; rw [if_neg (by omega), if_pos h2]
      rw [e1, e2]
      obtain ⟨N, hN⟩ : ∃ N, N = (linL l).length := ⟨_, rfl⟩
      rw [← hN] at h2 HCN
      have n2 : (1000 : Int) < N := by omega
      clear e1 e2 hl hR h1 hN h2 hG
      go_enter Tryz.func32, Tryz.ntmps32
      go_wp2_with (go_at_call 46; ((with_reducible refine (HCN.out).mono ?_); rintro e W1 ⟨rfl, b1⟩))
      go_ret2
      exact ⟨_, rfl, LnsAt.nil _, b1⟩
    · have e1 : splE l = 0 := by unfold splE; rw [if_neg (by omega), if_neg h2]
      have e2 : splL l = logR (linL l).length (linL l) := by unfold splL; rw [if_neg (by omega), if_neg h2]
      rw [e1, e2]
      have HLG := Lib.hid (fun W (b : Below w.heap.size w W) => logical_call a0 n cap l W (G12_on hG b) hl (by omega) (by omega) (hR.on b))
      unfold LogTo at HLG
      obtain ⟨R, hRR⟩ : ∃ R, R = logR (linL l).length (linL l) := ⟨_, rfl⟩
      rw [← hRR] at HLG ⊢
      obtain ⟨N, hN⟩ : ∃ N, N = (linL l).length := ⟨_, rfl⟩
      rw [← hN] at h2 HCN
      have n2 : ¬ (1000 : Int) < N := by omega
      clear e1 e2 hl hR h1 hN h2 hG hRR
      go_enter Tryz.func32, Tryz.ntmps32
      go_wp2_with (first
        | (go_at_call 46; ((with_reducible refine (HCN.out).mono ?_); rintro e W1 ⟨rfl, b1⟩); have B1 := Lib.hid b1; clear b1)
        | (go_at_call 47; ((with_reducible refine (HLG.out _ B1.out).mono ?_); rintro e W2 ⟨v, rfl, h2, ⟨q, c1, c2, rfl⟩, b2⟩); have B2 := Lib.hid (th2 B1.out b2); have L2 := Lib.hid h2; clear b2 h2))
      go_ret2
      exact ⟨_, rfl, L2.out, B2.out⟩
/-- What the landed calls return. -/
theorem linesC : LinesC G12 where
  on := fun {w w'} h b => G12_on h b
  split := fun a0 n cap l w hG hl hn _ _ _ hR => split12 a0 n cap l w hG hl hn hR
  trim := fun s w hG hs => trim12 s w hG hs
  comment := fun s w hG hs => com12 s w hG hs
  count := fun a0 n cap l w hG hl hn _ _ _ hR => count12 a0 n cap l w hl hn hR
end Go.Proofs.YtgigdhincpcdbaaGreatDoor
namespace Go.Proofs.YtgigdhincpcdbaaGreatDoor
open Go.ChangeShapes Go.WideShapes Go.ChangeAt Go.RowKit
set_option linter.unusedVariables false

abbrev listed12 : List (String × DataW Unit) := [("unicode/utf8.acceptRanges", Rows.laid_unicode_utf8_acceptRanges), ("unicode/utf8.first", Rows.laid_unicode_utf8_first)]
def firstL12 : List Value := (List.range 256).map fun c => .int .u8 ((Lib.firstT c : Nat) : Int)
def rangeL12 : List Value := (List.range 32).map fun c => .int .u8 (((if c % 2 = 0 then Lib.accLo (c / 2) else Lib.accHi (c / 2)) : Nat) : Int)
theorem first_flat : flatD Tryz.prog 4 153 (Rows.laid_unicode_utf8_first : DataW Unit) = some firstL12 := by kernel_rfl
theorem range_flat : flatD Tryz.prog 4 156 (Rows.laid_unicode_utf8_acceptRanges : DataW Unit) = some rangeL12 := by kernel_rfl
theorem of_laid12 {W : World} (h : laidMetH Tryz.prog listed12 W) : G12 W := by
  rw [MakeChecks.laidMetH_plain _ _ _ (by kernel_rfl)] at h
  obtain ⟨ps, ⟨g0, t0, cs0, f0, p0, q0, hg0, ht0, hv0, hd0, ⟨g1, t1, cs1, f1, p1, q1, hg1, ht1, hv1, hd1, _, _⟩, _⟩, _, _⟩ := h
  have H0 := laidAt_of (g := 2) (t := 156) (by kernel_rfl) (by kernel_rfl) hg0 ht0 hv0 hd0 4 range_flat
  have H1 := laidAt_of (g := 1) (t := 153) (by kernel_rfl) (by kernel_rfl) hg1 ht1 hv1 hd1 4 first_flat
  refine ⟨fun c hc => H1 c _ ?_, fun i hi => ⟨H0 (2 * i) _ ?_, H0 (2 * i + 1) _ ?_⟩⟩
  · unfold firstL12
    rw [List.getElem?_map, List.getElem?_range hc]; rfl
  · unfold rangeL12
    rw [List.getElem?_map, List.getElem?_range (by omega)]
    show some (Value.int .u8 (((if 2 * i % 2 = 0 then Lib.accLo (2 * i / 2) else Lib.accHi (2 * i / 2)) : Nat) : Int)) = _
    rw [if_pos (by omega), show 2 * i / 2 = i by omega]
  · unfold rangeL12
    rw [List.getElem?_map, List.getElem?_range (by omega)]
    show some (Value.int .u8 (((if (2 * i + 1) % 2 = 0 then Lib.accLo ((2 * i + 1) / 2) else Lib.accHi ((2 * i + 1) / 2)) : Nat) : Int)) = _
    rw [if_neg (by omega), show (2 * i + 1) / 2 = i by omega]
end Go.Proofs.YtgigdhincpcdbaaGreatDoor
