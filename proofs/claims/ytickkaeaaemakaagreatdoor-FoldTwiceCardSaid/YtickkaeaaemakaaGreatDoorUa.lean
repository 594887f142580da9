/- The statement FoldTwice holds, over what the calls have to return: a value folded twice comes to what it came to at once. -/
import Derived.Test.YtickkaeaaemakaaGreatDoorRows
import Derived.Test.YtickkaeaaemakaaGreatDoorCards
import Derived.Test.YtickkaeaaemakaaGreatDoorTie
import Derived.SevenTiedAt
import Derived.Test.YtickkaeaaemakaaGreatDoorWd
import Derived.Test.YtickkaeaaemakaaGreatDoorTz
import Derived.Test.YtickkaeaaemakaaGreatDoorTu
import Derived.Test.YtickkaeaaemakaaGreatDoorLr
import Derived.BigQuiet
import Derived.Deep.QuietTactic
namespace Go.Proofs.YtickkaeaaemakaaGreatDoor.foldTwice
open Go.ChangeShapes Go.WideShapes Go.ChangeAt Go.RowKit
open Go.ChangeMaps (open_string shut_string)
set_option linter.unusedVariables false
attribute [local go_sem ↓] Go.wp_at_zero Go.wp_at_succ
set_option maxRecDepth 100000 in
set_option maxHeartbeats 16000000 in
theorem walk {G : World → Prop} (HC : FoldC G) (m0 : Nat) (a0 : Option Addr) (len0 cap0 : Nat) (z0 : List Cl) (a1 : ByteArray) (a2 : Bool) (w : World) (hG : G w) (x0 : m0 < 256) (w0 : IsCalls w a0 len0 cap0 z0) (w1 : a1.size ≤ maxLen) (w2 : True) :
    Calls Tryz.prog 7 #[lsV m0 a0 len0 cap0, .string a1, .bool a2] w fun e w' => e = .returned (.bool true) ∧ Below w.heap.size w w' := by
  have HON := Lib.hid (fun (w w' : World) => HC.on (w := w) (w' := w'))
  have HG := Lib.hid hG
  have HLEN := Lib.hid w0.size
  have HACT := Lib.hid (fun e he => (w0.rng e he).2)
  have HRD := Lib.hid w0.rd
  have HAW := Lib.hid (fun (W : World) (g : G W) => awake16_any HC W g)
  have HGR := Lib.hid (fun (W : World) => great16 m0 a0 len0 cap0 W)
  unfold lsV at HGR ⊢
  obtain ⟨mi, hmi⟩ : ∃ x : Int, x = (m0 : Nat) := ⟨_, rfl⟩
  have HMI := Lib.hid hmi
  rw [← hmi] at HGR ⊢
  have HBX := Lib.hid (heap_alloc_new w (.cells #[.int .u8 mi, .slice a0 len0 cap0] 24))
  have B0 := Lib.hid (below16 w (.cells #[.int .u8 mi, .slice a0 len0 cap0] 24))
  by_cases hgr : 100 < len0
  · rw [decide_eq_true hgr] at HGR
    clear hgr hmi w0 w1 w2 hG HC
    go_enter Tryz.func7, Tryz.ntmps7
    go_wp2_with (first
      | (go_at_call 9
         (with_reducible refine (HGR.out _).mono ?_)
         rintro e v1 ⟨rfl, b1⟩
         have B1 := Lib.hid (thn16 B0.out b1)
         have X1 := Lib.hid (blk_on HBX.out b1)
         have y0 := (cell_of_row v1 w.heap.size 0 _ _ (0, 0) X1.out).trans (show _ = some (Value.int .u8 mi) from rfl)
         have y1 := (cell_of_row v1 w.heap.size 1 _ _ (0, 0) X1.out).trans (show _ = some (Value.slice a0 len0 cap0) from rfl)
         have hlw : w.heap.size < v1.heap.size := blk_lt X1.out
         clear b1)
      | (go_at_call 16
         (with_reducible refine (HAW.out _ (HON.out _ _ HG.out B1.out)).mono ?_)
         rintro e v9 ⟨rfl, b9⟩
         have B9 := Lib.hid (thn16 B1.out b9)
         clear b9))
    go_ret
    exact ⟨rfl, B9.out⟩
  rw [decide_eq_false hgr] at HGR
  by_cases hlong : (1000 : Int) < a1.size
  · clear hgr hmi w0 w1 w2 hG HC
    go_enter Tryz.func7, Tryz.ntmps7
    go_wp2_with (first
      | (go_at_call 9
         (with_reducible refine (HGR.out _).mono ?_)
         rintro e v1 ⟨rfl, b1⟩
         have B1 := Lib.hid (thn16 B0.out b1)
         have X1 := Lib.hid (blk_on HBX.out b1)
         have y0 := (cell_of_row v1 w.heap.size 0 _ _ (0, 0) X1.out).trans (show _ = some (Value.int .u8 mi) from rfl)
         have y1 := (cell_of_row v1 w.heap.size 1 _ _ (0, 0) X1.out).trans (show _ = some (Value.slice a0 len0 cap0) from rfl)
         have hlw : w.heap.size < v1.heap.size := blk_lt X1.out
         clear b1)
      | (go_at_call 16
         (with_reducible refine (HAW.out _ (HON.out _ _ HG.out B1.out)).mono ?_)
         rintro e v9 ⟨rfl, b9⟩
         have B9 := Lib.hid (thn16 B1.out b9)
         clear b9))
    go_ret
    exact ⟨rfl, B9.out⟩
  have hv : a1.size ≤ 1000 := by omega
  have hl1 : len0 ≤ 1000 := by omega
  have HMA := Lib.hid (fun (W : World) (g : G W) (b : Below w.heap.size w W) => HC.may m0 a0 len0 cap0 z0 W g x0 w0.size.symm hl1 (fun e he => (w0.rng e he).2) (w0.rd.on b))
  unfold lsV at HMA
  rw [← hmi] at HMA
  cases hmay : mayR knownR m0 z0 with
  | false =>
    rw [hmay] at HMA
    clear hgr hmi w0 w1 w2 hG HC hmay hl1 hv
    go_enter Tryz.func7, Tryz.ntmps7
    go_wp2_with (first
      | (go_at_call 9
         (with_reducible refine (HGR.out _).mono ?_)
         rintro e v1 ⟨rfl, b1⟩
         have B1 := Lib.hid (thn16 B0.out b1)
         have X1 := Lib.hid (blk_on HBX.out b1)
         have y0 := (cell_of_row v1 w.heap.size 0 _ _ (0, 0) X1.out).trans (show _ = some (Value.int .u8 mi) from rfl)
         have y1 := (cell_of_row v1 w.heap.size 1 _ _ (0, 0) X1.out).trans (show _ = some (Value.slice a0 len0 cap0) from rfl)
         have hlw : w.heap.size < v1.heap.size := blk_lt X1.out
         clear b1)
      | (go_at_call 23
         (with_reducible refine (HMA.out _ (HON.out _ _ HG.out B1.out) B1.out).mono ?_)
         rintro e v2 ⟨rfl, b2⟩
         have B2 := Lib.hid (thn16 B1.out b2)
         have X2 := Lib.hid (blk_on X1.out b2)
         have yy0 := y0
         clear y0 y1 hlw yy0
         have y0 := (cell_of_row v2 w.heap.size 0 _ _ (0, 0) X2.out).trans (show _ = some (Value.int .u8 mi) from rfl)
         have y1 := (cell_of_row v2 w.heap.size 1 _ _ (0, 0) X2.out).trans (show _ = some (Value.slice a0 len0 cap0) from rfl)
         have hlw : w.heap.size < v2.heap.size := blk_lt X2.out
         clear b2)
      | (go_at_call 16
         (with_reducible refine (HAW.out _ (HON.out _ _ HG.out B2.out)).mono ?_)
         rintro e v9 ⟨rfl, b9⟩
         have B9 := Lib.hid (thn16 B2.out b9)
         clear b9))
    go_ret
    exact ⟨rfl, B9.out⟩
  | true =>
    rw [hmay] at HMA
    have hok := may_iff.1 hmay
    have HWO := Lib.hid (fun (W : World) (g : G W) => HC.words a1 W g hv)
    obtain ⟨L, hL⟩ : ∃ L, L = wdL a1.data.toList := ⟨_, rfl⟩
    rw [← hL] at HWO
    cases L with
    | nil =>
      clear hgr hmi w0 w1 w2 hG HC hmay hl1 hv hok hL
      go_enter Tryz.func7, Tryz.ntmps7
      go_wp2_with (first
        | (go_at_call 9
           (with_reducible refine (HGR.out _).mono ?_)
           rintro e v1 ⟨rfl, b1⟩
           have B1 := Lib.hid (thn16 B0.out b1)
           have X1 := Lib.hid (blk_on HBX.out b1)
           have y0 := (cell_of_row v1 w.heap.size 0 _ _ (0, 0) X1.out).trans (show _ = some (Value.int .u8 mi) from rfl)
           have y1 := (cell_of_row v1 w.heap.size 1 _ _ (0, 0) X1.out).trans (show _ = some (Value.slice a0 len0 cap0) from rfl)
           have hlw : w.heap.size < v1.heap.size := blk_lt X1.out
           clear b1)
        | (go_at_call 23
           (with_reducible refine (HMA.out _ (HON.out _ _ HG.out B1.out) B1.out).mono ?_)
           rintro e v2 ⟨rfl, b2⟩
           have B2 := Lib.hid (thn16 B1.out b2)
           have X2 := Lib.hid (blk_on X1.out b2)
           have yy0 := y0
           clear y0 y1 hlw yy0
           have y0 := (cell_of_row v2 w.heap.size 0 _ _ (0, 0) X2.out).trans (show _ = some (Value.int .u8 mi) from rfl)
           have y1 := (cell_of_row v2 w.heap.size 1 _ _ (0, 0) X2.out).trans (show _ = some (Value.slice a0 len0 cap0) from rfl)
           have hlw : w.heap.size < v2.heap.size := blk_lt X2.out
           clear b2)
        | (go_at_call 29
           (with_reducible refine (HWO.out _ (HON.out _ _ HG.out B2.out)).mono ?_)
           rintro e v3 ⟨qw, cw, rfl, b3⟩
           have B3 := Lib.hid (thn16 B2.out b3)
           have X3 := Lib.hid (blk_on X2.out b3)
           clear y0 y1 hlw
           have y0 := (cell_of_row v3 w.heap.size 0 _ _ (0, 0) X3.out).trans (show _ = some (Value.int .u8 mi) from rfl)
           have y1 := (cell_of_row v3 w.heap.size 1 _ _ (0, 0) X3.out).trans (show _ = some (Value.slice a0 len0 cap0) from rfl)
           have hlw : w.heap.size < v3.heap.size := blk_lt X3.out
           clear b3)
        | (go_at_call 16
           (with_reducible refine (HAW.out _ (HON.out _ _ HG.out B3.out)).mono ?_)
           rintro e v9 ⟨rfl, b9⟩
           have B9 := Lib.hid (thn16 B3.out b9)
           clear b9))
      go_ret
      exact ⟨rfl, B9.out⟩
    | cons L1 L2 =>
      have hw : wdL a1.data.toList ≠ [] := by rw [← hL]; simp
      have hstep := stepA_ok (sfx := a2) (v := a1) (s := (m0, z0)) hok
      have hrk := step_ok grpX_known a2 a1 (s := (m0, z0)) hok
      have htw := step_twice (K := knownR) (X := grpX) a2 a1 (s := (m0, z0)) hok.asc hw
      rw [← hstep] at hrk htw
      have hstep2 := stepA_ok (sfx := a2) (v := a1) hrk
      rw [htw] at hstep2
      have hsb := step_bound a2 a1 m0 z0 hv (by rw [w0.size]; omega)
      obtain ⟨r, hr⟩ : ∃ r, r = stepA a2 a1 (m0, z0) := ⟨_, rfl⟩
      rw [← hr] at hrk hstep2 hsb
      obtain ⟨nr, hnr⟩ : ∃ n, n = r.1.2.length := ⟨_, rfl⟩
      have HNR := Lib.hid hnr
      have HS1 := Lib.hid (fun (W : World) (g : G W) (b : Below w.heap.size w W) => step_n HC m0 a0 len0 cap0 z0 a1 a2 W g x0 w0.size.symm hl1 (fun e he => (w0.rng e he).2) hv (w0.rd.on b) r hr.symm nr hnr)
      have HS2 := Lib.hid (fun (W : World) (q : Option Addr) (c : Nat) (g : G W) (h : LsAt W q r.1.2) => step_n HC r.1.1 q nr c r.1.2 a1 a2 W g (by have := hrk.mode; omega) hnr (by omega) (okl_lt hrk) hv h r hstep2 nr hnr)
      have HSN := Lib.hid (fun (W : World) (u v : Value) (hu : RowsAt 4 encN W u (r.2.map nteS)) (hv : RowsAt 4 encN W v (r.2.map nteS)) => sameN_yes u v (r.2.map nteS) W hu hv (by rw [List.length_map]; omega))
      unfold lsV at HS1 HS2
      have hnm : nr ≤ 100 := by omega
      obtain ⟨mr, hmr⟩ : ∃ x : Int, x = (r.1.1 : Nat) := ⟨_, rfl⟩
      rw [← hmi] at HS1
      rw [← hmr] at HS1 HS2
      have hlen : (((L1 :: L2).length : Nat) : Int) ≠ 0 := by rw [List.length_cons]; omega
      obtain ⟨nw, hnw⟩ : ∃ n, n = (L1 :: L2).length := ⟨_, rfl⟩
      rw [← hnw] at HWO hlen
      have hb1 : ((nw : Int) == 0) = false := beq_eq_false_iff_ne.2 hlen
      have tm : (mr == mr) = true := by simp
      have tn : ((nr : Int) == (nr : Int)) = true := by simp
      clear hgr hmi w0 w1 w2 hG HC hmay hl1 hv hok hL hw hstep hrk htw hstep2 hsb hr hnr hmr hnw hlen
      go_enter Tryz.func7, Tryz.ntmps7
      go_wp2_with (first
        | (go_at_call 9
           (with_reducible refine (HGR.out _).mono ?_)
           rintro e v1 ⟨rfl, b1⟩
           have B1 := Lib.hid (thn16 B0.out b1)
           have X1 := Lib.hid (blk_on HBX.out b1)
           have y0 := (cell_of_row v1 w.heap.size 0 _ _ (0, 0) X1.out).trans (show _ = some (Value.int .u8 mi) from rfl)
           have y1 := (cell_of_row v1 w.heap.size 1 _ _ (0, 0) X1.out).trans (show _ = some (Value.slice a0 len0 cap0) from rfl)
           have hlw : w.heap.size < v1.heap.size := blk_lt X1.out
           clear b1)
        | (go_at_call 23
           (with_reducible refine (HMA.out _ (HON.out _ _ HG.out B1.out) B1.out).mono ?_)
           rintro e v2 ⟨rfl, b2⟩
           have B2 := Lib.hid (thn16 B1.out b2)
           have X2 := Lib.hid (blk_on X1.out b2)
           have yy0 := y0
           clear y0 y1 hlw yy0
           have y0 := (cell_of_row v2 w.heap.size 0 _ _ (0, 0) X2.out).trans (show _ = some (Value.int .u8 mi) from rfl)
           have y1 := (cell_of_row v2 w.heap.size 1 _ _ (0, 0) X2.out).trans (show _ = some (Value.slice a0 len0 cap0) from rfl)
           have hlw : w.heap.size < v2.heap.size := blk_lt X2.out
           clear b2)
        | (go_at_call 29
           (with_reducible refine (HWO.out _ (HON.out _ _ HG.out B2.out)).mono ?_)
           rintro e v3 ⟨qw, cw, rfl, b3⟩
           have B3 := Lib.hid (thn16 B2.out b3)
           have X3 := Lib.hid (blk_on X2.out b3)
           clear y0 y1 hlw
           have y0 := (cell_of_row v3 w.heap.size 0 _ _ (0, 0) X3.out).trans (show _ = some (Value.int .u8 mi) from rfl)
           have y1 := (cell_of_row v3 w.heap.size 1 _ _ (0, 0) X3.out).trans (show _ = some (Value.slice a0 len0 cap0) from rfl)
           have hlw : w.heap.size < v3.heap.size := blk_lt X3.out
           clear b3)
        | (go_at_call 11
           (with_reducible refine (HS1.out _ (HON.out _ _ HG.out B3.out) B3.out).mono ?_)
           rintro e v4 ⟨q4, c4, vN4, rfl, o4, r4, b4⟩
           have B4 := Lib.hid (thn16 B3.out b4)
           have O4 := Lib.hid o4
           have R4 := Lib.hid r4
           have Y4 := Lib.hid (heap_alloc_new v4 (.cells #[.int .u8 mr, .slice q4 nr c4] 24))
           clear b4 o4 r4 y0 y1 hlw)
        | (go_at_call 11
           (with_reducible refine (HS2.out _ q4 c4 (HON.out _ _ HG.out (B4.out.alloc B4.out.size (.cells #[.int .u8 mr, .slice q4 nr c4] 24))) (LsAt.of_own (owns_on16 O4.out (below16 v4 (.cells #[.int .u8 mr, .slice q4 nr c4] 24))) HNR.out)).mono ?_)
           rintro e v5 ⟨q5, c5, vN5, rfl, o5, r5, b5⟩
           have B45 := Lib.hid (thn16 (below16 v4 (.cells #[.int .u8 mr, .slice q4 nr c4] 24)) b5)
           have B5 := Lib.hid (thn16 B4.out B45.out)
           have O5 := Lib.hid o5
           have R5 := Lib.hid r5
           have P4 := Lib.hid (owns_on16 O4.out B45.out)
           have Q4 := Lib.hid (R4.out.on B45.out)
           have Z4 := Lib.hid (blk_on Y4.out b5)
           have Z5 := Lib.hid (heap_alloc_new v5 (.cells #[.int .u8 mr, .slice q5 nr c5] 24))
           have g0 := (cell_of_row v5 v4.heap.size 0 _ _ (0, 0) Z4.out).trans (show _ = some (Value.int .u8 mr) from rfl)
           have g1 := (cell_of_row v5 v4.heap.size 1 _ _ (0, 0) Z4.out).trans (show _ = some (Value.slice q4 nr c4) from rfl)
           have hg4 : v4.heap.size < v5.heap.size := blk_lt Z4.out
           clear b5 o5 r5)
        | (go_at_call 14
           (with_reducible refine (HSN.out _ _ _ (Q4.out.on (below16 v5 (.cells #[.int .u8 mr, .slice q5 nr c5] 24))) (R5.out.on (below16 v5 (.cells #[.int .u8 mr, .slice q5 nr c5] 24)))).mono ?_)
           rintro e v6 ⟨rfl, b6⟩
           have B56 := Lib.hid (thn16 (below16 v5 (.cells #[.int .u8 mr, .slice q5 nr c5] 24)) b6)
           have B6 := Lib.hid (thn16 B5.out B56.out)
           have X4 := Lib.hid (blk_on Z4.out B56.out)
           have X5 := Lib.hid (blk_on Z5.out b6)
           have U4 := Lib.hid (LsAt.of_own (owns_on16 P4.out B56.out) HNR.out)
           have U5 := Lib.hid (LsAt.of_own (owns_on16 O5.out B56.out) HNR.out)
           have p0 := (cell_of_row v6 v4.heap.size 1 _ _ (0, 0) X4.out).trans (show _ = some (Value.slice q4 nr c4) from rfl)
           have p1 := (cell_of_row v6 v5.heap.size 1 _ _ (0, 0) X5.out).trans (show _ = some (Value.slice q5 nr c5) from rfl)
           have hlt0 : v4.heap.size < v6.heap.size := blk_lt X4.out
           have hlt1 : v5.heap.size < v6.heap.size := blk_lt X5.out
           clear b6 g0 g1 hg4))
      go_loopw [11] (fun v11 wr => ∃ k : Nat, k ≤ nr ∧ v11 = .int .i64 k ∧ Hid (Below v6.heap.size v6 wr)) (fun v11 _ => nr - (intOf v11).toNat)
      case atStart => exact ⟨0, by omega, rfl, Lib.hid (Below.refl _ _)⟩
      case round =>
        obtain ⟨k, hk, rfl, PB⟩ := hrel
        obtain ⟨V, rfl⟩ : ∃ wo : World, wo = wr := ⟨_, rfl⟩
        have r0 := (PB.out.cell (p := ⟨v4.heap.size, 1, none⟩) hlt0).trans p0
        have r1 := (PB.out.cell (p := ⟨v5.heap.size, 1, none⟩) hlt1).trans p1
        by_cases hlt : k < nr
        · have hx : r.1.2[k]? = some (r.1.2[k]'(by rw [← HNR.out]; exact hlt)) := List.getElem?_eq_getElem _
          obtain ⟨⟨x, y⟩, he⟩ : ∃ e, e = r.1.2[k]'(by rw [← HNR.out]; exact hlt) := ⟨_, rfl⟩
          rw [← he] at hx
          obtain ⟨g, o, rfl, c0, c1⟩ := (U4.out.on PB.out) k _ hx
          obtain ⟨g', o', rfl, d0, d1⟩ := (U5.out.on PB.out) k _ hx
          simp only at c0 c1 d0 d1
          obtain ⟨yi, hyi⟩ : ∃ v, v = ((y : Nat) : Int) := ⟨_, rfl⟩
          rw [← hyi] at c1 d1
          have k1 : (k : Int) < nr := by omega
          have k0 : (0 : Int) ≤ k := by omega
          have hw1 : IntKind.i64.wrap ((k : Int) + 1) = k + 1 := by rw [IntKind.wrap_i64]; omega
          have t1 : (x.toList == x.toList) = true := by simp
          have t2 : (yi == yi) = true := by simp
          clear hx he hyi p0 p1
          go_wp2_with fail
          go_quiet (fail)
          go_wp2_with fail
          go_roundw
          case rel => exact ⟨k + 1, by omega, by go_num, Lib.hid (Go.below_drewN PB.out _)⟩
          case measure => first | (simp [intOf]; done) | (simp [intOf]; omega)
        · obtain rfl : nr = k := by omega
          have k1 : ¬ (nr : Int) < nr := by omega
          clear p0 p1
          go_wp2_with (first
            | (go_at_call 16
               (with_reducible refine (HAW.out _ (HON.out _ _ HG.out (thn16 B6.out PB.out))).mono ?_)
               rintro e v9 ⟨rfl, b9⟩
               have B9 := Lib.hid (thn16 (thn16 B6.out PB.out) b9)
               clear b9))
          go_ret
          exact ⟨by first | rfl | simp, B9.out⟩

set_option maxRecDepth 100000 in
theorem lifted (HC : FoldC GN) (os : Os) (started : os.Started) (H : Type) (enc : TypeId × Value → H) :
    ReturnsInHanded {} Tryz.checked os 7 .any (fun w args => (Rows.foldTwiceSpec.pre enc Tryz.prog Tryz.f7 [] false w args ∧ laidMetH Tryz.prog listed16 w) ∧ sizedMet enc Tryz.prog Tryz.f7 (OpenSpec.ofChange Rows.foldTwiceSpec) false w args)
      (Rows.foldTwiceSpec.post enc Tryz.prog Tryz.f7 false true false false) := by
  refine returnsInHanded_of_change_and (C := Tryz.checked) (X := fun w _ => laidMetH Tryz.prog listed16 w) (fun _ _ _ hh h => h.of_heap hh) ownKnob_none started (by kernel_rfl) Tryz.func7
    (ChangeSpec.witness_shaped (enc := enc) (C := Tryz.checked) (os := os) (X := fun w _ => laidMetH Tryz.prog listed16 w) false (World.doorLaid Tryz.prog 4000 os) #[.agg #[.int .u8 0, .slice none 0 0], .string ⟨#[]⟩, .bool false] 8 rfl (World.shaped_of_RefB (by kernel_rfl) (by kernel_rfl)) (by kernel_rfl) (by kernel_rfl) (by kernel_rfl) (door_met16 os _)) ?_
  intro W base args ds gs before hval0 hW _ _ hL _
  have hG : GN W := of_laid16 hL
  have hval : ∀ (j : Nat) t v, Tryz.f7.params[j]? = some t → args[j]? = some v → Value.okWide Tryz.prog W .any base t v := hval0
  have hW' := hW
  obtain ⟨p, q, hA0, hV, rfl, hfz, hnd⟩ := hW
  have hA : DataW.TrodAll enc Tryz.prog W 0 (fun _ => true) true Tryz.f7.params.toList args.toList ds p := hA0
  rw [Tryz.params7] at hA hval
  obtain ⟨v0, vs0, d0, ds0, p0, q0, hargs, rfl, rfl, h0, r0⟩ := trodAll_cons hA
  obtain ⟨v1, vs1, d1, ds1, p1, q1, rfl, rfl, rfl, h1, r1⟩ := trodAll_cons r0
  obtain ⟨v2, vs2, d2, ds2, p2, q2, rfl, rfl, rfl, h2, r2⟩ := trodAll_cons r1
  obtain ⟨rfl, rfl, rfl⟩ := trodAll_nil r2
  obtain rfl : args = #[v0, v1, v2] := by cases args; simp_all
  obtain ⟨rfl, rfl⟩ := trodVars_none hV
  have k0 := h0
  have lt0 : ∀ x ∈ p0, x.block < W.heap.size := by obtain ⟨m, hm⟩ := k0; exact DataW.trod_lt m _ _ _ hm
  obtain ⟨m0, a0, len0, cap0, z0, x0, w0, rfl⟩ := list_open (hval 0 24 v0 rfl rfl) h0 lt0
  obtain ⟨a1, rfl, rfl, rfl, w1⟩ := open_string Tryz.underlying9 (hval 1 9 v1 rfl rfl) h1
  obtain ⟨a2, rfl, rfl, rfl⟩ := open_bool Tryz.underlying4 (hval 2 4 v2 rfl rfl) h2
  have w2 := trivial
  clear hA0 hval0
  refine (walk HC m0 a0 len0 cap0 z0 a1 a2 W hG x0 w0 w1 w2).mono fun e W' ⟨he, bel⟩ => ?_
  subst he
  exact ⟨_, rfl, _, _, _, [], _, [], hW', trodAll_mk1 (shut_bool Tryz.underlying4 _), (trodAll_cons_mk (Below.trod laidOut (by kernel_rfl) (of_decide_eq_true (by kernel_rfl)) k0 bel lt0) (trodAll_cons_mk (shut_string Tryz.underlying9 w1) (trodAll_cons_mk (shut_bool Tryz.underlying4 _) trodAll_mk0))), rfl, bel.frame _, fun h => by cases h⟩

theorem over (HC : FoldC GN) : Rows.foldTwiceRow.holds Tryz.pinned (OpenSpec.ofChange Rows.foldTwiceSpec) :=
  OpenClaim.holds_of_wide 7 Tryz.f7 rfl rfl rfl rfl rfl rfl rfl ⟨rfl, rfl, rfl, rfl, rfl⟩ rfl rfl rfl rfl rfl (by kernel_rfl) Tryz.func7 (by kernel_rfl)
    (of_decide_eq_true (by kernel_rfl)) (by unfold Func.isWrapper; first | (rw [if_pos (by decide +kernel)]; kernel_rfl) | (rw [if_neg (by decide +kernel)]; exact ⟨rfl, rfl⟩))
    (fun os started H enc _ => lifted HC os started H enc)

/-- The row's statement. -/
theorem row_holds : Rows.FoldTwiceSaid := over foldC
/-- The statement: the row, its table tied to the program's text. -/
theorem proved : Rows.FoldTwiceCardSaid :=
  Claim7.holds_tied_plain_at .later [] [.data, .data, .data, .sentinel, .sentinel, .data] true Rows.foldTwiceCard.stood.harness Rows.foldTwiceCard.stood.looks
    row_holds (fun _ h => by cases h) (by kernel_rfl) (fun _ h => by cases h) foldTwice_row_tie rfl ⟨rfl, rfl⟩ (by kernel_rfl) rfl
    (fun f fn hf hfn => by
      obtain rfl : f = 7 := Option.some.inj ((show Tryz.prog.funcNamed "vestibule/vestibulelaw16.FoldTwice" = some 7 by kernel_rfl).symm.trans hf) |>.symm
      obtain rfl : fn = Tryz.f7 := (Option.some.inj (Tryz.func7.symm.trans hfn)).symm
      exact ⟨by kernel_rfl, fun j t ht => by
        have hm : t ∈ Tryz.f7.params.toList := by simpa using Array.mem_of_getElem? ht
        have hall : (Tryz.f7.params.toList.all fun u => !Tryz.prog.wantsStandIn u) = true := by kernel_rfl
        exact (show Tryz.prog.wantsStandIn t = false by simpa using List.all_eq_true.1 hall t hm)⟩)
    (by kernel_rfl)
#print axioms proved
end Go.Proofs.YtickkaeaaemakaaGreatDoor.foldTwice
