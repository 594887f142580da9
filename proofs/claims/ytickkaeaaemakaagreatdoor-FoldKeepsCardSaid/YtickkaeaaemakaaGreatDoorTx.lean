/- The statement FoldKeeps holds, over what the calls have to return: what is folded of a list that may be may be; its mode. -/
import Derived.Test.YtickkaeaaemakaaGreatDoorRows
import Derived.Test.YtickkaeaaemakaaGreatDoorCards
import Derived.Test.YtickkaeaaemakaaGreatDoorTie
import Derived.SevenTiedAt
import Derived.Test.YtickkaeaaemakaaGreatDoorWd
import Derived.Test.YtickkaeaaemakaaGreatDoorTz
import Derived.Test.YtickkaeaaemakaaGreatDoorTu
import Derived.Test.YtickkaeaaemakaaGreatDoorLr
import Derived.BigQuiet
import Derived.Deep.QuietTactic
namespace Go.Proofs.YtickkaeaaemakaaGreatDoor.foldKeeps
open Go.ChangeShapes Go.WideShapes Go.ChangeAt Go.RowKit
open Go.ChangeMaps (open_string shut_string)
set_option linter.unusedVariables false
attribute [local go_sem ↓] Go.wp_at_zero Go.wp_at_succ
set_option maxRecDepth 100000 in
set_option maxHeartbeats 16000000 in
theorem walk {G : World → Prop} (HC : FoldC G) (m0 : Nat) (a0 : Option Addr) (len0 cap0 : Nat) (z0 : List Cl) (a1 : ByteArray) (a2 : Bool) (w : World) (hG : G w) (x0 : m0 < 256) (w0 : IsCalls w a0 len0 cap0 z0) (w1 : a1.size ≤ maxLen) (w2 : True) :
    Calls Tryz.prog 6 #[lsV m0 a0 len0 cap0, .string a1, .bool a2] w fun e w' => e = .returned (.bool true) ∧ Below w.heap.size w w' := by
  have HON := Lib.hid (fun (w w' : World) => HC.on (w := w) (w' := w'))
  have HG := Lib.hid hG
  have HLEN := Lib.hid w0.size
  have HACT := Lib.hid (fun e he => (w0.rng e he).2)
  have HRD := Lib.hid w0.rd
  have HAW := Lib.hid (fun (W : World) (g : G W) => awake16_any HC W g)
  have HGR := Lib.hid (fun (W : World) => great16 m0 a0 len0 cap0 W)
  unfold lsV at HGR ⊢
  obtain ⟨mi, hmi⟩ : ∃ x : Int, x = (m0 : Nat) := ⟨_, rfl⟩
  have HMI := Lib.hid hmi
  rw [← hmi] at HGR ⊢
  have HBX := Lib.hid (heap_alloc_new w (.cells #[.int .u8 mi, .slice a0 len0 cap0] 24))
  have B0 := Lib.hid (below16 w (.cells #[.int .u8 mi, .slice a0 len0 cap0] 24))
  by_cases hgr : 100 < len0
  · rw [decide_eq_true hgr] at HGR
    clear hgr hmi w0 w1 w2 hG HC
    go_enter Tryz.func6, Tryz.ntmps6
    go_wp2_with (first
      | (go_at_call 9
         (with_reducible refine (HGR.out _).mono ?_)
         rintro e v1 ⟨rfl, b1⟩
         have B1 := Lib.hid (thn16 B0.out b1)
         have X1 := Lib.hid (blk_on HBX.out b1)
         have y0 := (cell_of_row v1 w.heap.size 0 _ _ (0, 0) X1.out).trans (show _ = some (Value.int .u8 mi) from rfl)
         have y1 := (cell_of_row v1 w.heap.size 1 _ _ (0, 0) X1.out).trans (show _ = some (Value.slice a0 len0 cap0) from rfl)
         have hlw : w.heap.size < v1.heap.size := blk_lt X1.out
         clear b1)
      | (go_at_call 16
         (with_reducible refine (HAW.out _ (HON.out _ _ HG.out B1.out)).mono ?_)
         rintro e v9 ⟨rfl, b9⟩
         have B9 := Lib.hid (thn16 B1.out b9)
         clear b9))
    go_ret
    exact ⟨rfl, B9.out⟩
  rw [decide_eq_false hgr] at HGR
  by_cases hlong : (1000 : Int) < a1.size
  · clear hgr hmi w0 w1 w2 hG HC
    go_enter Tryz.func6, Tryz.ntmps6
    go_wp2_with (first
      | (go_at_call 9
         (with_reducible refine (HGR.out _).mono ?_)
         rintro e v1 ⟨rfl, b1⟩
         have B1 := Lib.hid (thn16 B0.out b1)
         have X1 := Lib.hid (blk_on HBX.out b1)
         have y0 := (cell_of_row v1 w.heap.size 0 _ _ (0, 0) X1.out).trans (show _ = some (Value.int .u8 mi) from rfl)
         have y1 := (cell_of_row v1 w.heap.size 1 _ _ (0, 0) X1.out).trans (show _ = some (Value.slice a0 len0 cap0) from rfl)
         have hlw : w.heap.size < v1.heap.size := blk_lt X1.out
         clear b1)
      | (go_at_call 16
         (with_reducible refine (HAW.out _ (HON.out _ _ HG.out B1.out)).mono ?_)
         rintro e v9 ⟨rfl, b9⟩
         have B9 := Lib.hid (thn16 B1.out b9)
         clear b9))
    go_ret
    exact ⟨rfl, B9.out⟩
  have hv : a1.size ≤ 1000 := by omega
  have hl1 : len0 ≤ 1000 := by omega
  have HMA := Lib.hid (fun (W : World) (g : G W) (b : Below w.heap.size w W) => HC.may m0 a0 len0 cap0 z0 W g x0 w0.size.symm hl1 (fun e he => (w0.rng e he).2) (w0.rd.on b))
  unfold lsV at HMA
  rw [← hmi] at HMA
  cases hmay : mayR knownR m0 z0 with
  | false =>
    rw [hmay] at HMA
    clear hgr hmi w0 w1 w2 hG HC hmay hl1 hv
    go_enter Tryz.func6, Tryz.ntmps6
    go_wp2_with (first
      | (go_at_call 9
         (with_reducible refine (HGR.out _).mono ?_)
         rintro e v1 ⟨rfl, b1⟩
         have B1 := Lib.hid (thn16 B0.out b1)
         have X1 := Lib.hid (blk_on HBX.out b1)
         have y0 := (cell_of_row v1 w.heap.size 0 _ _ (0, 0) X1.out).trans (show _ = some (Value.int .u8 mi) from rfl)
         have y1 := (cell_of_row v1 w.heap.size 1 _ _ (0, 0) X1.out).trans (show _ = some (Value.slice a0 len0 cap0) from rfl)
         have hlw : w.heap.size < v1.heap.size := blk_lt X1.out
         clear b1)
      | (go_at_call 23
         (with_reducible refine (HMA.out _ (HON.out _ _ HG.out B1.out) B1.out).mono ?_)
         rintro e v2 ⟨rfl, b2⟩
         have B2 := Lib.hid (thn16 B1.out b2)
         have X2 := Lib.hid (blk_on X1.out b2)
         have yy0 := y0
         clear y0 y1 hlw yy0
         have y0 := (cell_of_row v2 w.heap.size 0 _ _ (0, 0) X2.out).trans (show _ = some (Value.int .u8 mi) from rfl)
         have y1 := (cell_of_row v2 w.heap.size 1 _ _ (0, 0) X2.out).trans (show _ = some (Value.slice a0 len0 cap0) from rfl)
         have hlw : w.heap.size < v2.heap.size := blk_lt X2.out
         clear b2)
      | (go_at_call 16
         (with_reducible refine (HAW.out _ (HON.out _ _ HG.out B2.out)).mono ?_)
         rintro e v9 ⟨rfl, b9⟩
         have B9 := Lib.hid (thn16 B2.out b9)
         clear b9))
    go_ret
    exact ⟨rfl, B9.out⟩
  | true =>
    rw [hmay] at HMA
    have hok := may_iff.1 hmay
    have HST := Lib.hid (fun (W : World) (g : G W) (b : Below w.heap.size w W) => HC.step m0 a0 len0 cap0 z0 a1 a2 W g x0 w0.size.symm hl1 (fun e he => (w0.rng e he).2) hv (w0.rd.on b))
    have hstep := stepA_ok (sfx := a2) (v := a1) (s := (m0, z0)) hok
    have hrk := step_ok grpX_known a2 a1 (s := (m0, z0)) hok
    rw [← hstep] at hrk
    have HWO := Lib.hid (fun (W : World) (g : G W) => HC.words a1 W g hv)
    have HTU := Lib.hid (fun (W : World) (g : G W) => HC.turned a1 W g hv)
    have HEM := Lib.hid (fun h => (congrArg Prod.fst hstep).trans (step_empty (s := (m0, z0)) (v := a1) (sfx := a2) h))
    have HMD := Lib.hid (fun h => (congrArg (fun x => x.1.1) hstep).trans (step_mode (s := (m0, z0)) (v := a1) (sfx := a2) h))
    simp only at HMD HEM
    obtain ⟨r, hr⟩ : ∃ r, r = stepA a2 a1 (m0, z0) := ⟨_, rfl⟩
    rw [← hr] at HST hrk HEM HMD
    have hmay2 := may_iff.2 hrk
    have hle := okl_le hrk
    have hm2 : r.1.1 ≤ 2 := hrk.mode
    have HMB := Lib.hid (fun (W : World) (q : Option Addr) (n c : Nat) (g : G W) (hn : n = r.1.2.length) (h : LsAt W q r.1.2) => HC.may r.1.1 q n c r.1.2 W g (by omega) hn (by omega) (okl_lt hrk) h)
    rw [hmay2] at HMB
    obtain ⟨L, hL⟩ : ∃ L, L = wdL a1.data.toList := ⟨_, rfl⟩
    rw [← hL] at HWO HEM HMD
    obtain ⟨TT, hTT⟩ : ∃ t, t = turnR a1 := ⟨_, rfl⟩
    rw [← hTT] at HTU HMD
    unfold lsV at HST HMB
    obtain ⟨mr, hmr⟩ : ∃ x : Int, x = (r.1.1 : Nat) := ⟨_, rfl⟩
    rw [← hmi] at HST
    rw [← hmr] at HST HMB
    cases L with
    | nil =>
      have he := HEM.out rfl
      rw [he] at HST HMB hmr
      simp only at HST HMB hmr
      obtain rfl : mr = 0 := hmr
      clear hgr hmi w0 w1 w2 hG HC hmay hl1 hv hok hstep hrk hr hmay2 hle hm2 hL hTT HEM HMD he
      go_enter Tryz.func6, Tryz.ntmps6
      go_wp2_with (first
        | (go_at_call 9
           (with_reducible refine (HGR.out _).mono ?_)
           rintro e v1 ⟨rfl, b1⟩
           have B1 := Lib.hid (thn16 B0.out b1)
           have X1 := Lib.hid (blk_on HBX.out b1)
           have y0 := (cell_of_row v1 w.heap.size 0 _ _ (0, 0) X1.out).trans (show _ = some (Value.int .u8 mi) from rfl)
           have y1 := (cell_of_row v1 w.heap.size 1 _ _ (0, 0) X1.out).trans (show _ = some (Value.slice a0 len0 cap0) from rfl)
           have hlw : w.heap.size < v1.heap.size := blk_lt X1.out
           clear b1)
        | (go_at_call 23
           (with_reducible refine (HMA.out _ (HON.out _ _ HG.out B1.out) B1.out).mono ?_)
           rintro e v2 ⟨rfl, b2⟩
           have B2 := Lib.hid (thn16 B1.out b2)
           have X2 := Lib.hid (blk_on X1.out b2)
           have yy0 := y0
           clear y0 y1 hlw yy0
           have y0 := (cell_of_row v2 w.heap.size 0 _ _ (0, 0) X2.out).trans (show _ = some (Value.int .u8 mi) from rfl)
           have y1 := (cell_of_row v2 w.heap.size 1 _ _ (0, 0) X2.out).trans (show _ = some (Value.slice a0 len0 cap0) from rfl)
           have hlw : w.heap.size < v2.heap.size := blk_lt X2.out
           clear b2)
        | (go_at_call 11
           (with_reducible refine (HST.out _ (HON.out _ _ HG.out B2.out) B2.out).mono ?_)
           rintro e v3 ⟨q3, n3, c3, vN3, rfl, hn3, o3, r3, b3⟩
           have N3 := Lib.hid hn3
           have B23 := Lib.hid b3
           have B3 := Lib.hid (thn16 B2.out B23.out)
           have O3 := Lib.hid o3
           have R3 := Lib.hid r3
           have X3 := Lib.hid (blk_on X2.out B23.out)
           clear y0 y1 hlw
           have y0 := (cell_of_row v3 w.heap.size 0 _ _ (0, 0) X3.out).trans (show _ = some (Value.int .u8 mi) from rfl)
           have y1 := (cell_of_row v3 w.heap.size 1 _ _ (0, 0) X3.out).trans (show _ = some (Value.slice a0 len0 cap0) from rfl)
           have hlw : w.heap.size < v3.heap.size := blk_lt X3.out
           have Y3 := Lib.hid (heap_alloc_new v3 (.cells #[.int .u8 0, .slice q3 n3 c3] 24))
           clear b3 o3 r3 hn3)
        | (go_at_call 23
           (with_reducible refine (HMB.out _ q3 n3 c3 (HON.out _ _ HG.out (B3.out.alloc B3.out.size (.cells #[.int .u8 0, .slice q3 n3 c3] 24))) N3.out (LsAt.of_own (owns_on16 O3.out (below16 v3 (.cells #[.int .u8 0, .slice q3 n3 c3] 24))) N3.out)).mono ?_)
           rintro e v4 ⟨rfl, b4⟩
           have B34 := Lib.hid (thn16 (below16 v3 (.cells #[.int .u8 0, .slice q3 n3 c3] 24)) b4)
           have B4 := Lib.hid (thn16 B3.out B34.out)
           have X4 := Lib.hid (blk_on X3.out B34.out)
           have Y4 := Lib.hid (blk_on Y3.out b4)
           clear b4 y0 y1 hlw)
        | (go_at_call 29
           (with_reducible refine (HWO.out _ (HON.out _ _ HG.out B4.out)).mono ?_)
           rintro e v5 ⟨q5, c5, rfl, b5⟩
           have B5 := Lib.hid (thn16 B4.out b5)
           have X5 := Lib.hid (blk_on X4.out b5)
           have Y5 := Lib.hid (blk_on Y4.out b5)
           have g0 := (cell_of_row v5 v3.heap.size 0 _ _ (0, 0) Y5.out).trans (show _ = some (Value.int .u8 0) from rfl)
           have g1 := (cell_of_row v5 v3.heap.size 1 _ _ (0, 0) Y5.out).trans (show _ = some (Value.slice q3 n3 c3) from rfl)
           clear b5)
        | (go_at_call 16
           (with_reducible refine (HAW.out _ (HON.out _ _ HG.out B5.out)).mono ?_)
           rintro e v9 ⟨rfl, b9⟩
           have B9 := Lib.hid (thn16 B5.out b9)
           clear b9))
      go_ret
      exact ⟨by first | rfl | simp, B9.out⟩
    | cons L1 L2 =>
      have hm := HMD.out (by simp)
      have hlen : (((L1 :: L2).length : Nat) : Int) ≠ 0 := by rw [List.length_cons]; omega
      obtain ⟨nw, hnw⟩ : ∃ n, n = (L1 :: L2).length := ⟨_, rfl⟩
      rw [← hnw] at HWO hlen
      have hb1 : ((nw : Int) == 0) = false := beq_eq_false_iff_ne.2 hlen
      rw [hm] at hmr
      clear HMD HEM hnw hlen
      by_cases h0 : m0 = 0
      · subst h0
        obtain rfl : mi = 0 := hmi
        cases ht : TT.2 with
        | true =>
          rw [ht] at HTU hmr
          obtain rfl : mr = 2 := hmr
          clear hgr w0 w1 w2 hG HC hmay hl1 hv hok hstep hrk hr hmay2 hle hm2 hL hTT hm ht
          go_enter Tryz.func6, Tryz.ntmps6
          go_wp2_with (first
            | (go_at_call 9
               (with_reducible refine (HGR.out _).mono ?_)
               rintro e v1 ⟨rfl, b1⟩
               have B1 := Lib.hid (thn16 B0.out b1)
               have X1 := Lib.hid (blk_on HBX.out b1)
               have y0 := (cell_of_row v1 w.heap.size 0 _ _ (0, 0) X1.out).trans (show _ = some (Value.int .u8 0) from rfl)
               have y1 := (cell_of_row v1 w.heap.size 1 _ _ (0, 0) X1.out).trans (show _ = some (Value.slice a0 len0 cap0) from rfl)
               have hlw : w.heap.size < v1.heap.size := blk_lt X1.out
               clear b1)
            | (go_at_call 23
               (with_reducible refine (HMA.out _ (HON.out _ _ HG.out B1.out) B1.out).mono ?_)
               rintro e v2 ⟨rfl, b2⟩
               have B2 := Lib.hid (thn16 B1.out b2)
               have X2 := Lib.hid (blk_on X1.out b2)
               have yy0 := y0
               clear y0 y1 hlw yy0
               have y0 := (cell_of_row v2 w.heap.size 0 _ _ (0, 0) X2.out).trans (show _ = some (Value.int .u8 0) from rfl)
               have y1 := (cell_of_row v2 w.heap.size 1 _ _ (0, 0) X2.out).trans (show _ = some (Value.slice a0 len0 cap0) from rfl)
               have hlw : w.heap.size < v2.heap.size := blk_lt X2.out
               clear b2)
            | (go_at_call 11
               (with_reducible refine (HST.out _ (HON.out _ _ HG.out B2.out) B2.out).mono ?_)
               rintro e v3 ⟨q3, n3, c3, vN3, rfl, hn3, o3, r3, b3⟩
               have N3 := Lib.hid hn3
               have B23 := Lib.hid b3
               have B3 := Lib.hid (thn16 B2.out B23.out)
               have O3 := Lib.hid o3
               have R3 := Lib.hid r3
               have X3 := Lib.hid (blk_on X2.out B23.out)
               clear y0 y1 hlw
               have y0 := (cell_of_row v3 w.heap.size 0 _ _ (0, 0) X3.out).trans (show _ = some (Value.int .u8 0) from rfl)
               have y1 := (cell_of_row v3 w.heap.size 1 _ _ (0, 0) X3.out).trans (show _ = some (Value.slice a0 len0 cap0) from rfl)
               have hlw : w.heap.size < v3.heap.size := blk_lt X3.out
               have Y3 := Lib.hid (heap_alloc_new v3 (.cells #[.int .u8 2, .slice q3 n3 c3] 24))
               clear b3 o3 r3 hn3)
            | (go_at_call 23
               (with_reducible refine (HMB.out _ q3 n3 c3 (HON.out _ _ HG.out (B3.out.alloc B3.out.size (.cells #[.int .u8 2, .slice q3 n3 c3] 24))) N3.out (LsAt.of_own (owns_on16 O3.out (below16 v3 (.cells #[.int .u8 2, .slice q3 n3 c3] 24))) N3.out)).mono ?_)
               rintro e v4 ⟨rfl, b4⟩
               have B34 := Lib.hid (thn16 (below16 v3 (.cells #[.int .u8 2, .slice q3 n3 c3] 24)) b4)
               have B4 := Lib.hid (thn16 B3.out B34.out)
               have X4 := Lib.hid (blk_on X3.out B34.out)
               have Y4 := Lib.hid (blk_on Y3.out b4)
               clear b4 y0 y1 hlw)
            | (go_at_call 29
               (with_reducible refine (HWO.out _ (HON.out _ _ HG.out B4.out)).mono ?_)
               rintro e v5 ⟨q5, c5, rfl, b5⟩
               have B5 := Lib.hid (thn16 B4.out b5)
               have X5 := Lib.hid (blk_on X4.out b5)
               have Y5 := Lib.hid (blk_on Y4.out b5)
               have g0 := (cell_of_row v5 v3.heap.size 0 _ _ (0, 0) Y5.out).trans (show _ = some (Value.int .u8 2) from rfl)
               have g1 := (cell_of_row v5 v3.heap.size 1 _ _ (0, 0) Y5.out).trans (show _ = some (Value.slice q3 n3 c3) from rfl)
               clear b5)
            | (go_at_call 30
               (with_reducible refine (HTU.out _ (HON.out _ _ HG.out B5.out)).mono ?_)
               rintro e v6 ⟨rfl, b6⟩
               have B6 := Lib.hid (thn16 B5.out b6)
               have X6 := Lib.hid (blk_on X5.out b6)
               have Y6 := Lib.hid (blk_on Y5.out b6)
               clear g0 g1
               have g0 := (cell_of_row v6 v3.heap.size 0 _ _ (0, 0) Y6.out).trans (show _ = some (Value.int .u8 2) from rfl)
               have g1 := (cell_of_row v6 v3.heap.size 1 _ _ (0, 0) Y6.out).trans (show _ = some (Value.slice q3 n3 c3) from rfl)
               have y0 := (cell_of_row v6 w.heap.size 0 _ _ (0, 0) X6.out).trans (show _ = some (Value.int .u8 0) from rfl)
               have y1 := (cell_of_row v6 w.heap.size 1 _ _ (0, 0) X6.out).trans (show _ = some (Value.slice a0 len0 cap0) from rfl)
               clear b6)
            | (go_at_call 16
               (with_reducible refine (HAW.out _ (HON.out _ _ HG.out B6.out)).mono ?_)
               rintro e v9 ⟨rfl, b9⟩
               have B9 := Lib.hid (thn16 B6.out b9)
               clear b9))
          go_ret
          exact ⟨by first | rfl | simp, B9.out⟩
        | false =>
          rw [ht] at HTU hmr
          obtain rfl : mr = 1 := hmr
          clear hgr w0 w1 w2 hG HC hmay hl1 hv hok hstep hrk hr hmay2 hle hm2 hL hTT hm ht
          go_enter Tryz.func6, Tryz.ntmps6
          go_wp2_with (first
            | (go_at_call 9
               (with_reducible refine (HGR.out _).mono ?_)
               rintro e v1 ⟨rfl, b1⟩
               have B1 := Lib.hid (thn16 B0.out b1)
               have X1 := Lib.hid (blk_on HBX.out b1)
               have y0 := (cell_of_row v1 w.heap.size 0 _ _ (0, 0) X1.out).trans (show _ = some (Value.int .u8 0) from rfl)
               have y1 := (cell_of_row v1 w.heap.size 1 _ _ (0, 0) X1.out).trans (show _ = some (Value.slice a0 len0 cap0) from rfl)
               have hlw : w.heap.size < v1.heap.size := blk_lt X1.out
               clear b1)
            | (go_at_call 23
               (with_reducible refine (HMA.out _ (HON.out _ _ HG.out B1.out) B1.out).mono ?_)
               rintro e v2 ⟨rfl, b2⟩
               have B2 := Lib.hid (thn16 B1.out b2)
               have X2 := Lib.hid (blk_on X1.out b2)
               have yy0 := y0
               clear y0 y1 hlw yy0
               have y0 := (cell_of_row v2 w.heap.size 0 _ _ (0, 0) X2.out).trans (show _ = some (Value.int .u8 0) from rfl)
               have y1 := (cell_of_row v2 w.heap.size 1 _ _ (0, 0) X2.out).trans (show _ = some (Value.slice a0 len0 cap0) from rfl)
               have hlw : w.heap.size < v2.heap.size := blk_lt X2.out
               clear b2)
            | (go_at_call 11
               (with_reducible refine (HST.out _ (HON.out _ _ HG.out B2.out) B2.out).mono ?_)
               rintro e v3 ⟨q3, n3, c3, vN3, rfl, hn3, o3, r3, b3⟩
               have N3 := Lib.hid hn3
               have B23 := Lib.hid b3
               have B3 := Lib.hid (thn16 B2.out B23.out)
               have O3 := Lib.hid o3
               have R3 := Lib.hid r3
               have X3 := Lib.hid (blk_on X2.out B23.out)
               clear y0 y1 hlw
               have y0 := (cell_of_row v3 w.heap.size 0 _ _ (0, 0) X3.out).trans (show _ = some (Value.int .u8 0) from rfl)
               have y1 := (cell_of_row v3 w.heap.size 1 _ _ (0, 0) X3.out).trans (show _ = some (Value.slice a0 len0 cap0) from rfl)
               have hlw : w.heap.size < v3.heap.size := blk_lt X3.out
               have Y3 := Lib.hid (heap_alloc_new v3 (.cells #[.int .u8 1, .slice q3 n3 c3] 24))
               clear b3 o3 r3 hn3)
            | (go_at_call 23
               (with_reducible refine (HMB.out _ q3 n3 c3 (HON.out _ _ HG.out (B3.out.alloc B3.out.size (.cells #[.int .u8 1, .slice q3 n3 c3] 24))) N3.out (LsAt.of_own (owns_on16 O3.out (below16 v3 (.cells #[.int .u8 1, .slice q3 n3 c3] 24))) N3.out)).mono ?_)
               rintro e v4 ⟨rfl, b4⟩
               have B34 := Lib.hid (thn16 (below16 v3 (.cells #[.int .u8 1, .slice q3 n3 c3] 24)) b4)
               have B4 := Lib.hid (thn16 B3.out B34.out)
               have X4 := Lib.hid (blk_on X3.out B34.out)
               have Y4 := Lib.hid (blk_on Y3.out b4)
               clear b4 y0 y1 hlw)
            | (go_at_call 29
               (with_reducible refine (HWO.out _ (HON.out _ _ HG.out B4.out)).mono ?_)
               rintro e v5 ⟨q5, c5, rfl, b5⟩
               have B5 := Lib.hid (thn16 B4.out b5)
               have X5 := Lib.hid (blk_on X4.out b5)
               have Y5 := Lib.hid (blk_on Y4.out b5)
               have g0 := (cell_of_row v5 v3.heap.size 0 _ _ (0, 0) Y5.out).trans (show _ = some (Value.int .u8 1) from rfl)
               have g1 := (cell_of_row v5 v3.heap.size 1 _ _ (0, 0) Y5.out).trans (show _ = some (Value.slice q3 n3 c3) from rfl)
               clear b5)
            | (go_at_call 30
               (with_reducible refine (HTU.out _ (HON.out _ _ HG.out B5.out)).mono ?_)
               rintro e v6 ⟨rfl, b6⟩
               have B6 := Lib.hid (thn16 B5.out b6)
               have X6 := Lib.hid (blk_on X5.out b6)
               have Y6 := Lib.hid (blk_on Y5.out b6)
               clear g0 g1
               have g0 := (cell_of_row v6 v3.heap.size 0 _ _ (0, 0) Y6.out).trans (show _ = some (Value.int .u8 1) from rfl)
               have g1 := (cell_of_row v6 v3.heap.size 1 _ _ (0, 0) Y6.out).trans (show _ = some (Value.slice q3 n3 c3) from rfl)
               have y0 := (cell_of_row v6 w.heap.size 0 _ _ (0, 0) X6.out).trans (show _ = some (Value.int .u8 0) from rfl)
               have y1 := (cell_of_row v6 w.heap.size 1 _ _ (0, 0) X6.out).trans (show _ = some (Value.slice a0 len0 cap0) from rfl)
               clear b6)
            | (go_at_call 16
               (with_reducible refine (HAW.out _ (HON.out _ _ HG.out B6.out)).mono ?_)
               rintro e v9 ⟨rfl, b9⟩
               have B9 := Lib.hid (thn16 B6.out b9)
               clear b9))
          go_ret
          exact ⟨by first | rfl | simp, B9.out⟩
      · have hb0 : (mi == 0) = false := beq_eq_false_iff_ne.2 (by omega)
        obtain rfl : mi = mr := by
          rw [hmr, hmi]; unfold modeF; rw [if_neg h0]
        have tm : (mi == mi) = true := by simp
        clear hgr hmi w0 w1 w2 hG HC hmay hl1 hv hok hstep hrk hr hmay2 hle hm2 hL hTT hm hmr h0
        go_enter Tryz.func6, Tryz.ntmps6
        go_wp2_with (first
          | (go_at_call 9
             (with_reducible refine (HGR.out _).mono ?_)
             rintro e v1 ⟨rfl, b1⟩
             have B1 := Lib.hid (thn16 B0.out b1)
             have X1 := Lib.hid (blk_on HBX.out b1)
             have y0 := (cell_of_row v1 w.heap.size 0 _ _ (0, 0) X1.out).trans (show _ = some (Value.int .u8 mi) from rfl)
             have y1 := (cell_of_row v1 w.heap.size 1 _ _ (0, 0) X1.out).trans (show _ = some (Value.slice a0 len0 cap0) from rfl)
             have hlw : w.heap.size < v1.heap.size := blk_lt X1.out
             clear b1)
          | (go_at_call 23
             (with_reducible refine (HMA.out _ (HON.out _ _ HG.out B1.out) B1.out).mono ?_)
             rintro e v2 ⟨rfl, b2⟩
             have B2 := Lib.hid (thn16 B1.out b2)
             have X2 := Lib.hid (blk_on X1.out b2)
             have yy0 := y0
             clear y0 y1 hlw yy0
             have y0 := (cell_of_row v2 w.heap.size 0 _ _ (0, 0) X2.out).trans (show _ = some (Value.int .u8 mi) from rfl)
             have y1 := (cell_of_row v2 w.heap.size 1 _ _ (0, 0) X2.out).trans (show _ = some (Value.slice a0 len0 cap0) from rfl)
             have hlw : w.heap.size < v2.heap.size := blk_lt X2.out
             clear b2)
          | (go_at_call 11
             (with_reducible refine (HST.out _ (HON.out _ _ HG.out B2.out) B2.out).mono ?_)
             rintro e v3 ⟨q3, n3, c3, vN3, rfl, hn3, o3, r3, b3⟩
             have N3 := Lib.hid hn3
             have B23 := Lib.hid b3
             have B3 := Lib.hid (thn16 B2.out B23.out)
             have O3 := Lib.hid o3
             have R3 := Lib.hid r3
             have X3 := Lib.hid (blk_on X2.out B23.out)
             clear y0 y1 hlw
             have y0 := (cell_of_row v3 w.heap.size 0 _ _ (0, 0) X3.out).trans (show _ = some (Value.int .u8 mi) from rfl)
             have y1 := (cell_of_row v3 w.heap.size 1 _ _ (0, 0) X3.out).trans (show _ = some (Value.slice a0 len0 cap0) from rfl)
             have hlw : w.heap.size < v3.heap.size := blk_lt X3.out
             have Y3 := Lib.hid (heap_alloc_new v3 (.cells #[.int .u8 mi, .slice q3 n3 c3] 24))
             clear b3 o3 r3 hn3)
          | (go_at_call 23
             (with_reducible refine (HMB.out _ q3 n3 c3 (HON.out _ _ HG.out (B3.out.alloc B3.out.size (.cells #[.int .u8 mi, .slice q3 n3 c3] 24))) N3.out (LsAt.of_own (owns_on16 O3.out (below16 v3 (.cells #[.int .u8 mi, .slice q3 n3 c3] 24))) N3.out)).mono ?_)
             rintro e v4 ⟨rfl, b4⟩
             have B34 := Lib.hid (thn16 (below16 v3 (.cells #[.int .u8 mi, .slice q3 n3 c3] 24)) b4)
             have B4 := Lib.hid (thn16 B3.out B34.out)
             have X4 := Lib.hid (blk_on X3.out B34.out)
             have Y4 := Lib.hid (blk_on Y3.out b4)
             clear b4 y0 y1 hlw)
          | (go_at_call 29
             (with_reducible refine (HWO.out _ (HON.out _ _ HG.out B4.out)).mono ?_)
             rintro e v5 ⟨q5, c5, rfl, b5⟩
             have B5 := Lib.hid (thn16 B4.out b5)
             have X5 := Lib.hid (blk_on X4.out b5)
             have Y5 := Lib.hid (blk_on Y4.out b5)
             have g0 := (cell_of_row v5 v3.heap.size 0 _ _ (0, 0) Y5.out).trans (show _ = some (Value.int .u8 mi) from rfl)
             have g1 := (cell_of_row v5 v3.heap.size 1 _ _ (0, 0) Y5.out).trans (show _ = some (Value.slice q3 n3 c3) from rfl)
             clear b5)
          | (go_at_call 30
             (with_reducible refine (HTU.out _ (HON.out _ _ HG.out B5.out)).mono ?_)
             rintro e v6 ⟨rfl, b6⟩
             have B6 := Lib.hid (thn16 B5.out b6)
             have X6 := Lib.hid (blk_on X5.out b6)
             have Y6 := Lib.hid (blk_on Y5.out b6)
             clear g0 g1
             have g0 := (cell_of_row v6 v3.heap.size 0 _ _ (0, 0) Y6.out).trans (show _ = some (Value.int .u8 mi) from rfl)
             have g1 := (cell_of_row v6 v3.heap.size 1 _ _ (0, 0) Y6.out).trans (show _ = some (Value.slice q3 n3 c3) from rfl)
             have y0 := (cell_of_row v6 w.heap.size 0 _ _ (0, 0) X6.out).trans (show _ = some (Value.int .u8 mi) from rfl)
             have y1 := (cell_of_row v6 w.heap.size 1 _ _ (0, 0) X6.out).trans (show _ = some (Value.slice a0 len0 cap0) from rfl)
             clear b6)
          | (go_at_call 16
             (with_reducible refine (HAW.out _ (HON.out _ _ HG.out B6.out)).mono ?_)
             rintro e v9 ⟨rfl, b9⟩
             have B9 := Lib.hid (thn16 B6.out b9)
             clear b9))
        go_ret
        exact ⟨by first | rfl | simp, B9.out⟩

set_option maxRecDepth 100000 in
theorem lifted (HC : FoldC GN) (os : Os) (started : os.Started) (H : Type) (enc : TypeId × Value → H) :
    ReturnsInHanded {} Tryz.checked os 6 .any (fun w args => (Rows.foldKeepsSpec.pre enc Tryz.prog Tryz.f6 [] false w args ∧ laidMetH Tryz.prog listed16 w) ∧ sizedMet enc Tryz.prog Tryz.f6 (OpenSpec.ofChange Rows.foldKeepsSpec) false w args)
      (Rows.foldKeepsSpec.post enc Tryz.prog Tryz.f6 false true false false) := by
  refine returnsInHanded_of_change_and (C := Tryz.checked) (X := fun w _ => laidMetH Tryz.prog listed16 w) (fun _ _ _ hh h => h.of_heap hh) ownKnob_none started (by kernel_rfl) Tryz.func6
    (ChangeSpec.witness_shaped (enc := enc) (C := Tryz.checked) (os := os) (X := fun w _ => laidMetH Tryz.prog listed16 w) false (World.doorLaid Tryz.prog 4000 os) #[.agg #[.int .u8 0, .slice none 0 0], .string ⟨#[]⟩, .bool false] 8 rfl (World.shaped_of_RefB (by kernel_rfl) (by kernel_rfl)) (by kernel_rfl) (by kernel_rfl) (by kernel_rfl) (door_met16 os _)) ?_
  intro W base args ds gs before hval0 hW _ _ hL _
  have hG : GN W := of_laid16 hL
  have hval : ∀ (j : Nat) t v, Tryz.f6.params[j]? = some t → args[j]? = some v → Value.okWide Tryz.prog W .any base t v := hval0
  have hW' := hW
  obtain ⟨p, q, hA0, hV, rfl, hfz, hnd⟩ := hW
  have hA : DataW.TrodAll enc Tryz.prog W 0 (fun _ => true) true Tryz.f6.params.toList args.toList ds p := hA0
  rw [Tryz.params6] at hA hval
  obtain ⟨v0, vs0, d0, ds0, p0, q0, hargs, rfl, rfl, h0, r0⟩ := trodAll_cons hA
  obtain ⟨v1, vs1, d1, ds1, p1, q1, rfl, rfl, rfl, h1, r1⟩ := trodAll_cons r0
  obtain ⟨v2, vs2, d2, ds2, p2, q2, rfl, rfl, rfl, h2, r2⟩ := trodAll_cons r1
  obtain ⟨rfl, rfl, rfl⟩ := trodAll_nil r2
  obtain rfl : args = #[v0, v1, v2] := by cases args; simp_all
  obtain ⟨rfl, rfl⟩ := trodVars_none hV
  have k0 := h0
  have lt0 : ∀ x ∈ p0, x.block < W.heap.size := by obtain ⟨m, hm⟩ := k0; exact DataW.trod_lt m _ _ _ hm
  obtain ⟨m0, a0, len0, cap0, z0, x0, w0, rfl⟩ := list_open (hval 0 24 v0 rfl rfl) h0 lt0
  obtain ⟨a1, rfl, rfl, rfl, w1⟩ := open_string Tryz.underlying9 (hval 1 9 v1 rfl rfl) h1
  obtain ⟨a2, rfl, rfl, rfl⟩ := open_bool Tryz.underlying4 (hval 2 4 v2 rfl rfl) h2
  have w2 := trivial
  clear hA0 hval0
  refine (walk HC m0 a0 len0 cap0 z0 a1 a2 W hG x0 w0 w1 w2).mono fun e W' ⟨he, bel⟩ => ?_
  subst he
  exact ⟨_, rfl, _, _, _, [], _, [], hW', trodAll_mk1 (shut_bool Tryz.underlying4 _), (trodAll_cons_mk (Below.trod laidOut (by kernel_rfl) (of_decide_eq_true (by kernel_rfl)) k0 bel lt0) (trodAll_cons_mk (shut_string Tryz.underlying9 w1) (trodAll_cons_mk (shut_bool Tryz.underlying4 _) trodAll_mk0))), rfl, bel.frame _, fun h => by cases h⟩

theorem over (HC : FoldC GN) : Rows.foldKeepsRow.holds Tryz.pinned (OpenSpec.ofChange Rows.foldKeepsSpec) :=
  OpenClaim.holds_of_wide 6 Tryz.f6 rfl rfl rfl rfl rfl rfl rfl ⟨rfl, rfl, rfl, rfl, rfl⟩ rfl rfl rfl rfl rfl (by kernel_rfl) Tryz.func6 (by kernel_rfl)
    (of_decide_eq_true (by kernel_rfl)) (by unfold Func.isWrapper; first | (rw [if_pos (by decide +kernel)]; kernel_rfl) | (rw [if_neg (by decide +kernel)]; exact ⟨rfl, rfl⟩))
    (fun os started H enc _ => lifted HC os started H enc)

/-- The row's statement. -/
theorem row_holds : Rows.FoldKeepsSaid := over foldC
/-- The statement: the row, its table tied to the program's text. -/
theorem proved : Rows.FoldKeepsCardSaid :=
  Claim7.holds_tied_plain_at .later [] [.data, .data, .data, .sentinel, .sentinel, .data] true Rows.foldKeepsCard.stood.harness Rows.foldKeepsCard.stood.looks
    row_holds (fun _ h => by cases h) (by kernel_rfl) (fun _ h => by cases h) foldKeeps_row_tie rfl ⟨rfl, rfl⟩ (by kernel_rfl) rfl
    (fun f fn hf hfn => by
      obtain rfl : f = 6 := Option.some.inj ((show Tryz.prog.funcNamed "vestibule/vestibulelaw16.FoldKeeps" = some 6 by kernel_rfl).symm.trans hf) |>.symm
      obtain rfl : fn = Tryz.f6 := (Option.some.inj (Tryz.func6.symm.trans hfn)).symm
      exact ⟨by kernel_rfl, fun j t ht => by
        have hm : t ∈ Tryz.f6.params.toList := by simpa using Array.mem_of_getElem? ht
        have hall : (Tryz.f6.params.toList.all fun u => !Tryz.prog.wantsStandIn u) = true := by kernel_rfl
        exact (show Tryz.prog.wantsStandIn t = false by simpa using List.all_eq_true.1 hall t hm)⟩)
    (by kernel_rfl)
#print axioms proved
end Go.Proofs.YtickkaeaaemakaaGreatDoor.foldKeeps
