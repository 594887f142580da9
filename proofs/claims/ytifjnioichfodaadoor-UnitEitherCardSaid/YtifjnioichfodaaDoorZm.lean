/- What the landed calls of lines return, as the chapter says it. Conditions: the library's two tables lie in their variables; a file of at most 2^47 bytes. -/
import Derived.Test.YtifjnioichfodaaDoorZl
namespace Go.Proofs.YtifjnioichfodaaDoor
open Go.RowKit Go.Shelf
set_option linter.unusedVariables false
set_option linter.unusedSimpArgs false
attribute [local go_sem ↓] Go.wp_at_zero Go.wp_at_succ

set_option maxRecDepth 100000 in
set_option maxHeartbeats 8000000 in
theorem split12 (a0 : Option Addr) (n cap : Nat) (l : List UInt8) (w : World) (hG : G12 w) (hl : l.length = n) (hn : n ≤ 140737488355328) (hR : RdB w w.heap.size a0 l) : Calls Tryd.prog 19 #[.slice a0 n cap] w fun e w' =>
    ∃ v, e = .returned (.tuple #[v, .int .i64 (splE l)]) ∧ LnsAt w' v (splL l) ∧ Below w.heap.size w w' := by
  by_cases h1 : 65536 < n
  · have e1 : splE l = 3 := by unfold splE; rw [if_pos (by omega)]
    have e2 : splL l = [] := by unfold splL; rw [if_pos (by omega)]
    rw [e1, e2]
    have n1 : (65536 : Int) < n := by omega
    clear e1 e2 hl hR h1 hG
    go_enter Tryd.func19, Tryd.ntmps19
    go_wp2_with fail
    go_ret2
    exact ⟨_, rfl, LnsAt.nil _, Below.refl _ _⟩
  · have n1 : ¬ (65536 : Int) < n := by omega
    have HCN := Lib.hid (count12 a0 n cap l w hl hn hR)
    by_cases h2 : 1000 < (linL l).length
    · have e1 : splE l = 4 := by unfold splE; rw [if_neg (by omega), if_pos h2]
      have e2 : splL l = [] := by unfold splL; rw [if_neg (by omega), if_pos h2]
      rw [e1, e2]
      obtain ⟨N, hN⟩ : ∃ N, N = (linL l).length := ⟨_, rfl⟩
      rw [← hN] at h2 HCN
      have n2 : (1000 : Int) < N := by omega
      clear e1 e2 hl hR h1 hN h2 hG
      go_enter Tryd.func19, Tryd.ntmps19
      go_wp2_with (go_at_call 34; ((with_reducible refine (HCN.out).mono ?_); rintro e W1 ⟨rfl, b1⟩))
      go_ret2
      exact ⟨_, rfl, LnsAt.nil _, b1⟩
    · have e1 : splE l = 0 := by unfold splE; rw [if_neg (by omega), if_neg h2]
      have e2 : splL l = logR (linL l).length (linL l) := by unfold splL; rw [if_neg (by omega), if_neg h2]
      rw [e1, e2]
      have HLG := Lib.hid (fun W (b : Below w.heap.size w W) => logical_call a0 n cap l W (G12_on hG b) hl (by omega) (by omega) (hR.on b))
      unfold LogTo at HLG
      obtain ⟨R, hRR⟩ : ∃ R, R = logR (linL l).length (linL l) := ⟨_, rfl⟩
      rw [← hRR] at HLG ⊢
      obtain ⟨N, hN⟩ : ∃ N, N = (linL l).length := ⟨_, rfl⟩
      rw [← hN] at h2 HCN
      have n2 : ¬ (1000 : Int) < N := by omega
      clear e1 e2 hl hR h1 hN h2 hG hRR
      go_enter Tryd.func19, Tryd.ntmps19
      go_wp2_with (first
        | (go_at_call 34; ((with_reducible refine (HCN.out).mono ?_); rintro e W1 ⟨rfl, b1⟩); have B1 := Lib.hid b1; clear b1)
        | (go_at_call 35; ((with_reducible refine (HLG.out _ B1.out).mono ?_); rintro e W2 ⟨v, rfl, h2, ⟨q, c1, c2, rfl⟩, b2⟩); have B2 := Lib.hid (th2 B1.out b2); have L2 := Lib.hid h2; clear b2 h2))
      go_ret2
      exact ⟨_, rfl, L2.out, B2.out⟩
/-- What the landed calls return. -/
theorem linesC : LinesC G12 where
  on := fun {w w'} h b => G12_on h b
  split := fun a0 n cap l w hG hl hn _ _ _ hR => split12 a0 n cap l w hG hl hn hR
  trim := fun s w hG hs => trim12 s w hG hs
  comment := fun s w hG hs => com12 s w hG hs
  count := fun a0 n cap l w hG hl hn _ _ _ hR => count12 a0 n cap l w hl hn hR
end Go.Proofs.YtifjnioichfodaaDoor
