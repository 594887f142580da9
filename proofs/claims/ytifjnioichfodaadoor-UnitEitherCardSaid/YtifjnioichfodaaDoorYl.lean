/- The statement UnitEither holds, over what the calls have to return: assignments, or notes. -/
import Derived.Test.YtifjnioichfodaaDoorRows
import Derived.Test.YtifjnioichfodaaDoorCards
import Derived.Test.YtifjnioichfodaaDoorTie
import Derived.SevenTiedAt
import Derived.Test.YtifjnioichfodaaDoorFr
import Derived.Test.YtifjnioichfodaaDoorZn
import Derived.Test.YtifjnioichfodaaDoorXf
import Derived.Test.YtifjnioichfodaaDoorYw
import Derived.Test.YtifjnioichfodaaDoorYh
import Derived.Test.YtifjnioichfodaaDoorLl
import Derived.Test.YtifjnioichfodaaDoorYk
namespace Go.Proofs.YtifjnioichfodaaDoor.unitEither
open Go.ChangeShapes Go.WideShapes Go.ChangeAt Go.RowKit
open Go.ChangeMaps (open_string shut_string)
set_option linter.unusedVariables false
attribute [local go_sem ↓] Go.wp_at_zero Go.wp_at_succ
set_option linter.unusedSimpArgs false
/-- What lines.Split has to return, over what must lie in memory. -/
abbrev SplitC (G : World → Prop) : Prop := ∀ (a0 : Option Addr) (n cap : Nat) (l : List UInt8) (w : World), G w → l.length = n → n ≤ 140737488355328 → n ≤ cap → cap ≤ maxLen → (a0 = none → cap = 0) → RdB w w.heap.size a0 l → Calls Tryd.prog 19 #[.slice a0 n cap] w fun e w' =>
    ∃ v, e = .returned (.tuple #[v, .int .i64 (splE l)]) ∧ LnsAt w' v (splL l) ∧ Below w.heap.size w w'
theorem rows_nil {α : Type} {sz : Nat} {enc : α → List Value} {w : World} {v : Value} (h : RowsAt sz enc w v []) : ∃ q c, v = .slice q 0 c := by
  obtain ⟨q, c, e, _⟩ := h
  exact ⟨q, c, e⟩
set_option maxRecDepth 100000 in
set_option maxHeartbeats 16000000 in
theorem either_err {G : World → Prop} (HC : UnitC G) (HL : SplitC G) (f0 : ByteArray) (d0 : Int) (p0 : Option Addr) (len0 cap0 : Nat) (l0 : List UInt8) (w : World) (hG : G w) (wf : f0.size ≤ maxLen) (hl0 : l0.length = len0) (hr0 : RdB w w.heap.size p0 l0) (hfit : len0 ≤ cap0) (hmost : cap0 ≤ maxLen) (hnil : p0 = none → cap0 = 0) (hs1 : len0 ≤ 5000) (hE : splE l0 ≠ 0) : Calls Tryd.prog 6 #[.agg #[.string f0, .int .i64 d0, .slice p0 len0 cap0]] w fun e w' => e = .returned (.bool true) ∧ Below w.heap.size w w' := by
  have HON := Lib.hid (fun (w w' : World) => HC.on (w := w) (w' := w'))
  have HG := Lib.hid hG
  have HR0 := Lib.hid hr0
  have HFIT := Lib.hid hfit
  have HMOST := Lib.hid hmost
  have HNIL := Lib.hid hnil
  have HP := Lib.hid (fun (W : World) (g : G W) (h5 : RdB W W.heap.size p0 l0) => HC.parse f0 d0 p0 len0 cap0 l0 W g wf hl0 (by omega) hfit hmost hnil h5)
  have HSP := Lib.hid (fun (W : World) (g : G W) (h5 : RdB W W.heap.size p0 l0) => HL p0 len0 cap0 l0 W g hl0 (by omega) hfit hmost hnil h5)
  have HW := Lib.hid (fun (W : World) (g : G W) => awake13_any HC W g)
  have k7 : (len0 : Int) ≤ 5000 := by omega
  have BU := Lib.hid ((Below.refl w.heap.size w).alloc (Nat.le_refl _) (.cells #[.string f0, .int .i64 d0, .slice p0 len0 cap0] 24))
  have GU := Lib.hid (HON.out _ _ HG.out BU.out)
  have e1 : filA f0 l0 = [] := by unfold filA; rw [if_pos hE]
  have e2 : filN f0 l0 = [⟨f0, 0, splE l0, ⟨#[]⟩⟩] := by unfold filN; rw [if_pos hE]
  rw [e1, e2] at HP
  obtain ⟨E, hE2⟩ : ∃ E, E = splE l0 := ⟨_, rfl⟩
  rw [← hE2] at hE HP HSP
  have t1 : (E != 0) = true := by rw [bne_iff_ne]; exact hE
  have t2 : (E == E) = true := by simp
  have t3 : (f0.toList == f0.toList) = true := by simp
  clear HC HL hG wf hl0 hr0 hfit hmost hnil hs1 e1 e2 hE2
  go_enter Tryd.func6, Tryd.ntmps6
  go_wp2_with (first
    | (go_at_call 8; ((with_reducible refine (HP.out _ GU.out (HR0.out.on BU.out)).mono ?_); rintro e v1 ⟨va, vn, rfl, sa, sn, b1⟩); have hb0 := (b1.block w.heap.size (by rw [World.size_alloc]; exact Nat.lt_succ_self _)).trans (heap_alloc_new w _); have x0 := (cell_of_row v1 w.heap.size 0 _ _ (0, 0) hb0).trans (show _ = some (Value.string f0) from rfl); have x2 := (cell_of_row v1 w.heap.size 2 _ _ (0, 0) hb0).trans (show _ = some (Value.slice p0 len0 cap0) from rfl); have B1 := Lib.hid (thn13 BU.out b1); have G1 := Lib.hid (HON.out _ _ HG.out B1.out); have SA := Lib.hid sa; have SN := Lib.hid sn; clear b1 hb0 sa sn)
    | (go_at_call 19; ((with_reducible refine (HSP.out _ G1.out (HR0.out.on B1.out)).mono ?_); rintro e v2 ⟨vl, rfl, _, b2⟩); obtain ⟨qa, ca, rfl⟩ := rows_nil SA.out; obtain ⟨qn, cn, rfl, hn⟩ := SN.out; obtain ⟨gn, on, rfl, hc⟩ := hn 0 _ rfl; have y0 := (b2.cell (World.block_lt_of_cell? _ _ x0)).trans x0; have n0 := (b2.cell (World.block_lt_of_cell? _ _ (hc 0 _ rfl))).trans (hc 0 _ rfl); have n1 := (b2.cell (World.block_lt_of_cell? _ _ (hc 1 _ rfl))).trans (hc 1 _ rfl); have n2 := (b2.cell (World.block_lt_of_cell? _ _ (hc 2 _ rfl))).trans (hc 2 _ rfl); have n3 := (b2.cell (World.block_lt_of_cell? _ _ (hc 3 _ rfl))).trans (hc 3 _ rfl); simp only [Nat.zero_mul, Nat.add_zero] at n0 n1 n2 n3; have B2 := Lib.hid (thn13 B1.out b2); have G2 := Lib.hid (HON.out _ _ HG.out B2.out); clear b2 hn hc))
  go_quiet (fail)
  go_wp2_with (go_at_call 12; ((with_reducible refine (HW.out _ (HON.out _ _ HG.out (Go.below_drewN B2.out _))).mono ?_); rintro e v3 ⟨rfl, b3⟩); have B3 := Lib.hid (thn13 (Go.below_drewN B2.out _) b3); clear b3)
  go_ret
  exact ⟨rfl, B3.out⟩
end Go.Proofs.YtifjnioichfodaaDoor.unitEither
