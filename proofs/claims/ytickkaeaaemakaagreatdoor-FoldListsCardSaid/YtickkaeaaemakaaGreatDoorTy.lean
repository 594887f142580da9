/- The statement FoldLists holds, over what the calls have to return: whether a list may be, what it says of a call, the list with it, without it; the list stays as it was. -/
import Derived.Test.YtickkaeaaemakaaGreatDoorRows
import Derived.Test.YtickkaeaaemakaaGreatDoorCards
import Derived.Test.YtickkaeaaemakaaGreatDoorTie
import Derived.SevenTiedAt
import Derived.Test.YtickkaeaaemakaaGreatDoorWd
import Derived.Test.YtickkaeaaemakaaGreatDoorTz
import Derived.Test.YtickkaeaaemakaaGreatDoorTu
import Derived.Test.YtickkaeaaemakaaGreatDoorLr
import Derived.BigQuiet
import Derived.Deep.QuietTactic
namespace Go.Proofs.YtickkaeaaemakaaGreatDoor.foldLists
open Go.ChangeShapes Go.WideShapes Go.ChangeAt Go.RowKit
open Go.ChangeMaps (open_string shut_string)
set_option linter.unusedVariables false
attribute [local go_sem ↓] Go.wp_at_zero Go.wp_at_succ
set_option maxRecDepth 100000 in
set_option maxHeartbeats 64000000 in
theorem walk {G : World → Prop} (HC : FoldC G) (m0 : Nat) (a0 : Option Addr) (len0 cap0 : Nat) (z0 : List Cl) (a1 : ByteArray) (a2 : Int) (a3 : Int) (w : World) (hG : G w) (x0 : m0 < 256) (w0 : IsCalls w a0 len0 cap0 z0) (w1 : a1.size ≤ maxLen) (w2 : (Lit.int .u32 a2).wf = true) (w3 : (Lit.int .i64 a3).wf = true) :
    Calls Tryz.prog 5 #[lsV m0 a0 len0 cap0, .string a1, .int .u32 a2, .int .i64 a3] w fun e w' => e = .returned (.bool true) ∧ Below w.heap.size w w' := by
  have HON := Lib.hid (fun (w w' : World) => HC.on (w := w) (w' := w'))
  have HG := Lib.hid hG
  have HLEN := Lib.hid w0.size
  have HACT := Lib.hid (fun e he => (w0.rng e he).2)
  have HRD := Lib.hid w0.rd
  have HAW := Lib.hid (fun (W : World) (g : G W) => awake16_any HC W g)
  have HGR := Lib.hid (fun (W : World) => great16 m0 a0 len0 cap0 W)
  unfold lsV at HGR ⊢
  obtain ⟨mi, hmi⟩ : ∃ x : Int, x = (m0 : Nat) := ⟨_, rfl⟩
  have HMI := Lib.hid hmi
  rw [← hmi] at HGR ⊢
  have HBX := Lib.hid (heap_alloc_new w (.cells #[.int .u8 mi, .slice a0 len0 cap0] 24))
  have B0 := Lib.hid (below16 w (.cells #[.int .u8 mi, .slice a0 len0 cap0] 24))
  by_cases hgr : 100 < len0
  · rw [decide_eq_true hgr] at HGR
    clear hgr hmi w0 w1 w2 w3 hG HC
    go_enter Tryz.func5, Tryz.ntmps5
    go_wp2_with (first
      | (go_at_call 9
         (with_reducible refine (HGR.out _).mono ?_)
         rintro e v1 ⟨rfl, b1⟩
         have B1 := Lib.hid (thn16 B0.out b1)
         have X1 := Lib.hid (blk_on HBX.out b1)
         have y0 := (cell_of_row v1 w.heap.size 0 _ _ (0, 0) X1.out).trans (show _ = some (Value.int .u8 mi) from rfl)
         have y1 := (cell_of_row v1 w.heap.size 1 _ _ (0, 0) X1.out).trans (show _ = some (Value.slice a0 len0 cap0) from rfl)
         have hlw : w.heap.size < v1.heap.size := blk_lt X1.out
         clear b1))
    go_ret
    exact ⟨rfl, B1.out⟩
  rw [decide_eq_false hgr] at HGR
  by_cases hlong : (200 : Int) < a1.size
  · clear hgr hmi w0 w1 w2 w3 hG HC
    go_enter Tryz.func5, Tryz.ntmps5
    go_wp2_with (first
      | (go_at_call 9
         (with_reducible refine (HGR.out _).mono ?_)
         rintro e v1 ⟨rfl, b1⟩
         have B1 := Lib.hid (thn16 B0.out b1)
         have X1 := Lib.hid (blk_on HBX.out b1)
         have y0 := (cell_of_row v1 w.heap.size 0 _ _ (0, 0) X1.out).trans (show _ = some (Value.int .u8 mi) from rfl)
         have y1 := (cell_of_row v1 w.heap.size 1 _ _ (0, 0) X1.out).trans (show _ = some (Value.slice a0 len0 cap0) from rfl)
         have hlw : w.heap.size < v1.heap.size := blk_lt X1.out
         clear b1))
    go_ret
    exact ⟨rfl, B1.out⟩
  have hv : a1.size ≤ 200 := by omega
  have hl1 : len0 ≤ 1000 := by omega
  obtain ⟨y0, y1⟩ := bounds_u32 w2
  obtain ⟨ak, rfl⟩ : ∃ k : Nat, a2 = k := ⟨a2.toNat, by omega⟩
  have hak : ak < 4294967296 := by omega
  have HCO := Lib.hid (fun (W : World) (b : Below w.heap.size w W) => copied16 m0 a0 len0 cap0 z0 W w0.size.symm (by omega) (w0.rd.on b))
  have hact := fun e he => (w0.rng e he).2
  have HFI := Lib.hid (fun (W : World) (q : Option Addr) (n c : Nat) (g : G W) (hn : n = z0.length) (h : LsAt W q z0) => HC.find m0 q n c z0 a1 W g x0 hn (by rw [hn, w0.size]; omega) hact h)
  have HRF := Lib.hid (fun (W : World) (b : Below w.heap.size w W) => refFind16 m0 a0 len0 cap0 z0 a1 W w0.size (by omega) (w0.rd.on b))
  have HPU := Lib.hid (fun (W : World) (q : Option Addr) (n c : Nat) (g : G W) (hn : n = z0.length) (h : LsAt W q z0) => HC.put m0 q n c z0 a1 ak W g x0 hn (by rw [hn, w0.size]; omega) hact hak h)
  have HTA := Lib.hid (fun (W : World) (q : Option Addr) (n c : Nat) (g : G W) (hn : n = z0.length) (h : LsAt W q z0) => HC.take m0 q n c z0 a1 W g x0 hn (by rw [hn, w0.size]; omega) hact h)
  have HMA := Lib.hid (fun (W : World) (q : Option Addr) (n c : Nat) (g : G W) (hn : n = z0.length) (h : LsAt W q z0) => HC.may m0 q n c z0 W g x0 hn (by rw [hn, w0.size]; omega) hact h)
  have HRM := Lib.hid (fun (W : World) (b : Below w.heap.size w W) => refMay m0 a0 len0 cap0 z0 W w0.size (by omega) hact (w0.rd.on b))
  have HRP := Lib.hid (fun (W : World) (b : Below w.heap.size w W) => refPut16 m0 a0 len0 cap0 z0 a1 ak W w0.size (by omega) hact (w0.rd.on b))
  have HRT := Lib.hid (fun (W : World) (b : Below w.heap.size w W) => refTake m0 a0 len0 cap0 z0 a1 W w0.size (by omega) hact (w0.rd.on b))
  have HWA := Lib.hid (fun (W : World) (g : G W) => HC.warns a3 W g)
  have HRW := Lib.hid (fun (W : World) => refWarns a3 W)
  have hpl2 : (putK knownR m0 z0 a1 ak).length ≤ 1000 := by
    have := putK_len knownR m0 z0 a1 ak; rw [w0.size] at this; omega
  have hql2 : (takeK knownR m0 z0 a1).length ≤ 1000 := by
    have := takeK_len knownR m0 z0 a1; rw [w0.size] at this; omega
  have hpl : (putK knownR m0 z0 a1 ak).length ≤ 1000000 := by
    have := hpl2; omega
  have hql : (takeK knownR m0 z0 a1).length ≤ 1000000 := by
    have := hql2; omega
  have HSZ := Lib.hid (fun (W : World) (q q' : Option Addr) (n n' c c' : Nat) (hn : n = z0.length) (hn' : n' = z0.length) (h : LsAt W q z0) (h' : LsAt W q' z0) => same2 m0 q q' n n' c c' z0 W hn hn' (by rw [w0.size]; omega) h h')
  obtain ⟨LP, hLP⟩ : ∃ L, L = putK knownR m0 z0 a1 ak := ⟨_, rfl⟩
  obtain ⟨LQ, hLQ⟩ : ∃ L, L = takeK knownR m0 z0 a1 := ⟨_, rfl⟩
  obtain ⟨fd, hfd⟩ : ∃ x : Int, x = ((findC z0 a1).getD 0 : Nat) := ⟨_, rfl⟩
  obtain ⟨fb, hfb⟩ : ∃ b, b = (findC z0 a1).isSome := ⟨_, rfl⟩
  obtain ⟨mb, hmb⟩ : ∃ b, b = mayR knownR m0 z0 := ⟨_, rfl⟩
  obtain ⟨wb, hwb⟩ : ∃ b, b = warnsF a3 := ⟨_, rfl⟩
  rw [← hLP] at HPU HRP hpl hpl2
  rw [← hLQ] at HTA HRT hql hql2
  rw [← hfd, ← hfb] at HFI HRF
  rw [← hmb] at HMA HRM
  rw [← hwb] at HWA HRW
  have HSP := Lib.hid (fun (W : World) (q q' : Option Addr) (n n' c c' : Nat) (hn : n = LP.length) (hn' : n' = LP.length) (h : LsAt W q LP) (h' : LsAt W q' LP) => same2 m0 q q' n n' c c' LP W hn hn' hpl h h')
  have HSQ := Lib.hid (fun (W : World) (q q' : Option Addr) (n n' c c' : Nat) (hn : n = LQ.length) (hn' : n' = LQ.length) (h : LsAt W q LQ) (h' : LsAt W q' LQ) => same2 m0 q q' n n' c c' LQ W hn hn' hql h h')
  have HSLP := Lib.hid (fun (W : World) (q : Option Addr) (n c B : Nat) (hn : n = LP.length) (hB : B ≤ W.heap.size) (h : W.ownsRow B 51 2 (.slice q n c) n (rowC encC LP)) => spoil_on16 m0 q n c B _ W (by have := hpl2; omega) hB h)
  have HSLQ := Lib.hid (fun (W : World) (q : Option Addr) (n c B : Nat) (xs : List Value) (hn : n = LQ.length) (hB : B ≤ W.heap.size) (h : W.ownsRow B 51 2 (.slice q n c) n xs) => spoil_on16 m0 q n c B xs W (by have := hql2; omega) hB h)
  unfold NewL2 lsV at HCO HPU HTA
  unfold OldL lsV at HRP HRT
  unfold lsV at HFI HRF HMA HRM HSZ HSP HSQ HSLP HSLQ
  rw [← hmi] at HCO HPU HTA HRP HRT HFI HRF HMA HRM HSZ HSP HSQ HSLP HSLQ
  obtain ⟨ai, hai⟩ : ∃ x : Int, x = (ak : Nat) := ⟨_, rfl⟩
  rw [← hai] at HPU HRP ⊢
  have tf : (fd == fd) = true := by simp
  have W0S := Lib.hid w0.size.symm
  clear hgr hmi w0 w1 w2 w3 hG HC hv hl1 y0 y1 hak hact hpl hql hpl2 hql2 hLP hLQ hfd hfb hmb hwb hai x0
  go_enter Tryz.func5, Tryz.ntmps5
  go_wp2_with (first
    | (go_at_call 9
       (with_reducible refine (HGR.out _).mono ?_)
       rintro e v1 ⟨rfl, b1⟩
       have B1 := Lib.hid (thn16 B0.out b1)
       have X1 := Lib.hid (blk_on HBX.out b1)
       have y0 := (cell_of_row v1 w.heap.size 0 _ _ (0, 0) X1.out).trans (show _ = some (Value.int .u8 mi) from rfl)
       have y1 := (cell_of_row v1 w.heap.size 1 _ _ (0, 0) X1.out).trans (show _ = some (Value.slice a0 len0 cap0) from rfl)
       have hlw : w.heap.size < v1.heap.size := blk_lt X1.out
       clear b1)
    | (go_at_call 10
       (with_reducible refine (HCO.out _ B1.out).mono ?_)
       rintro e v2 ⟨q2, n2, c2, rfl, hn2, o2, b2⟩
       have N2 := Lib.hid hn2
       have B2 := Lib.hid (thn16 B1.out b2)
       have O2 := Lib.hid (LsAt.of_own o2 hn2)
       have X2 := Lib.hid (blk_on X1.out b2)
       have I2 := Lib.hid (heap_alloc_new v2 (.cells #[.int .u8 mi, .slice q2 n2 c2] 24))
       clear b2 o2 hn2 y0 y1 hlw)
    | (go_at_call 19
       (with_reducible refine (HFI.out _ q2 n2 c2 (HON.out _ _ HG.out (B2.out.alloc B2.out.size (.cells #[.int .u8 mi, .slice q2 n2 c2] 24))) N2.out (O2.out.on (below16 v2 (.cells #[.int .u8 mi, .slice q2 n2 c2] 24)))).mono ?_)
       rintro e v3 ⟨rfl, b3⟩
       have B23 := Lib.hid (thn16 (below16 v2 (.cells #[.int .u8 mi, .slice q2 n2 c2] 24)) b3)
       have B3 := Lib.hid (thn16 B2.out B23.out)
       have O3 := Lib.hid (O2.out.on B23.out)
       have X3 := Lib.hid (blk_on X2.out B23.out)
       have I3 := Lib.hid (blk_on I2.out b3)
       have y0 := (cell_of_row v3 w.heap.size 0 _ _ (0, 0) X3.out).trans (show _ = some (Value.int .u8 mi) from rfl)
       have y1 := (cell_of_row v3 w.heap.size 1 _ _ (0, 0) X3.out).trans (show _ = some (Value.slice a0 len0 cap0) from rfl)
       have hlw : w.heap.size < v3.heap.size := blk_lt X3.out
       clear b3)
    | (go_at_call 20
       (with_reducible refine (HRF.out _ B3.out).mono ?_)
       rintro e v4 ⟨rfl, b4⟩
       have B4 := Lib.hid (thn16 B3.out b4)
       have O4 := Lib.hid (O3.out.on b4)
       have X4 := Lib.hid (blk_on X3.out b4)
       have I4 := Lib.hid (blk_on I3.out b4)
       clear b4 y0 y1 hlw))
  have HX0 := Lib.hid ((cell_of_row v4 v2.heap.size 0 _ _ (0, 0) I4.out).trans (show _ = some (Value.int .u8 mi) from rfl))
  have HX1 := Lib.hid ((cell_of_row v4 v2.heap.size 1 _ _ (0, 0) I4.out).trans (show _ = some (Value.slice q2 n2 c2) from rfl))
  have HLB := Lib.hid (blk_lt I4.out)
  refine key16 (F := Two16 v4 mi LP LQ) (R := ?R) ?h1 ?h2
  case h1 =>
    intro KEY
    refine wp_region_held_drew (S := (fun w' => Below v4.heap.size v4 w' ∧ w'.cell? ⟨v2.heap.size, 0, none⟩ = some (.int .u8 mi) ∧ w'.cell? ⟨v2.heap.size, 1, none⟩ = some (.slice q2 n2 c2))) (by kernel_rfl) ?_ (fun hHeld0 => ?_)
    · exact ⟨(Below.refl _ _).drew, HX0.out, HX1.out⟩
    obtain ⟨X0, hX0⟩ : ∃ X, X = v4.drew := ⟨_, rfl⟩
    rw [← hX0] at hHeld0 ⊢
    have hHeld := hHeld0
    clear hHeld0 hX0
    refine take_op2 (i := 0) (v := ?_) rfl (by kernel_rfl) (by kernel_rfl) (by kernel_rfl) (fun _ _ _ h => h) (Or.inl ⟨wanted_plain rfl, ?_⟩) (by assumption) ?_
    rotate_left
    · (intro w hSw; (try dsimp only at hSw); go_simp; try with_reducible rfl)
    intro act_ hact_; simp only [Act.put, List.setIfInBounds_toArray, List.set_cons_zero, List.set_cons_succ] at hact_; subst hact_
    refine take_op2 (i := 1) (v := ?_) rfl (by kernel_rfl) (by kernel_rfl) (by kernel_rfl) (fun _ _ _ h => h) (Or.inl ⟨wanted_plain rfl, ?_⟩) (by assumption) ?_
    rotate_left
    · (intro w hSw; (try dsimp only at hSw); go_simp; try with_reducible rfl)
    intro act_ hact_; simp only [Act.put, List.setIfInBounds_toArray, List.set_cons_zero, List.set_cons_succ] at hact_; subst hact_
    refine take_op2 (i := 2) (v := ?_) rfl (by kernel_rfl) (by kernel_rfl) (by kernel_rfl) (fun _ _ _ h => h) (Or.inl ⟨wanted_plain rfl, ?_⟩) (by assumption) ?_
    rotate_left
    · (intro w hSw; (try dsimp only at hSw); go_simp; try with_reducible rfl)
    intro act_ hact_; simp only [Act.put, List.setIfInBounds_toArray, List.set_cons_zero, List.set_cons_succ] at hact_; subst hact_
    refine take_op2 (i := 4) (v := ?_) rfl (by kernel_rfl) (by kernel_rfl) (by kernel_rfl) (fun _ _ _ h => h) (Or.inl ⟨wanted_plain rfl, ?_⟩) (by assumption) ?_
    rotate_left
    · (intro w hSw; (try dsimp only at hSw); go_simp; try with_reducible rfl)
    intro act_ hact_; simp only [Act.put, List.setIfInBounds_toArray, List.set_cons_zero, List.set_cons_succ] at hact_; subst hact_
    refine take_op2 (i := 5) (v := ?_) rfl (by kernel_rfl) (by kernel_rfl) (by kernel_rfl) (fun _ _ _ h => h) (Or.inl ⟨wanted_plain rfl, ?_⟩) (by assumption) ?_
    rotate_left
    · (intro w hSw; (try dsimp only at hSw); go_simp; try with_reducible rfl)
    intro act_ hact_; simp only [Act.put, List.setIfInBounds_toArray, List.set_cons_zero, List.set_cons_succ] at hact_; subst hact_
    refine wpAnyH_ready (rs := [3, 7, 8]) (by kernel_rfl) (List.cons_ne_nil _ _) ?_
    refine AllReadyH.cons rfl (fun K hK => ?_) ?_
    · go_simp
      go_wp2_with (go_at_call 21; ((with_reducible refine (HPU.out _ q2 n2 c2 (HON.out _ _ (HON.out _ _ HG.out B4.out) hHeld.1) N2.out (O4.out.on hHeld.1)).mono ?_); rintro e X1 ⟨qp, np, cp, rfl, lp, op, bp⟩); have NP := Lib.hid lp; clear lp)
      have OP := Lib.hid (owns_low16 op hHeld.1.size)
      have b := bp
      clear op bp
      refine hK.out _ _ ?_ (fun hHeld2 => ?_)
      · exact ⟨hHeld.1.trans (b.mono hHeld.1.size), (b.cell (World.block_lt_of_cell? _ _ hHeld.2.1)).trans hHeld.2.1, (b.cell (World.block_lt_of_cell? _ _ hHeld.2.2)).trans hHeld.2.2⟩
      clear hK K
      clear b
      have hHeld := hHeld2
      clear hHeld2
      refine wpAnyH_ready (rs := [6, 7, 8]) (by kernel_rfl) (List.cons_ne_nil _ _) ?_
      refine AllReadyH.cons rfl (fun K hK => ?_) ?_
      · go_simp
        go_wp2_with (go_at_call 22; ((with_reducible refine (HTA.out _ q2 n2 c2 (HON.out _ _ (HON.out _ _ HG.out B4.out) hHeld.1) N2.out (O4.out.on hHeld.1)).mono ?_); rintro e X2 ⟨qt, nt, ct, rfl, lq, oq, bq⟩); have NQ := Lib.hid lq; clear lq)
        obtain ⟨Bt, hBt⟩ : ∃ b, b = X1.heap.size := ⟨_, rfl⟩
        rw [← hBt] at oq
        have SEP := Lib.hid (show ∀ j, qp = some ⟨j, 0, none⟩ → j < Bt from hBt ▸ own_sep16 OP.out)
        have HBt := Lib.hid (show v4.heap.size ≤ Bt from hBt ▸ hHeld.1.size)
        have OQ := Lib.hid oq
        have b := bq
        clear oq bq hBt
        have OP := Lib.hid (owns_on16 OP.out b)
        refine hK.out _ _ ?_ (fun hHeld2 => ?_)
        · exact ⟨hHeld.1.trans (b.mono hHeld.1.size), (b.cell (World.block_lt_of_cell? _ _ hHeld.2.1)).trans hHeld.2.1, (b.cell (World.block_lt_of_cell? _ _ hHeld.2.2)).trans hHeld.2.2⟩
        clear hK K
        clear b
        have hHeld := hHeld2
        clear hHeld2
        refine wpAnyH_ready (rs := [7, 8]) (by kernel_rfl) (List.cons_ne_nil _ _) ?_
        refine AllReadyH.cons rfl (fun K hK => ?_) ?_
        · go_simp
          refine hK.out _ _ ?_ (fun hHeld2 => ?_)
          · exact ⟨hHeld.1.trans ((below16 X2 (.cells #[.int .u8 0, .slice none 0 0] 24)).mono hHeld.1.size), ((below16 X2 (.cells #[.int .u8 0, .slice none 0 0] 24)).cell (World.block_lt_of_cell? _ _ hHeld.2.1)).trans hHeld.2.1, ((below16 X2 (.cells #[.int .u8 0, .slice none 0 0] 24)).cell (World.block_lt_of_cell? _ _ hHeld.2.2)).trans hHeld.2.2⟩
          clear hK K
          obtain ⟨X3, hN⟩ : ∃ X, X = X2.alloc (.cells #[.int .u8 0, .slice none 0 0] 24) := ⟨_, rfl⟩
          have b : Below X2.heap.size X2 X3 := hN ▸ below16 X2 (.cells #[.int .u8 0, .slice none 0 0] 24)
          have ZA0 := Lib.hid (show X3.heap[X2.heap.size]? = some (.cells #[.int .u8 0, .slice none 0 0] 24 (0, 0)) from hN ▸ heap_alloc_new X2 _)
          rw [← hN] at hHeld2 ⊢
          have OP := Lib.hid (owns_on16 OP.out b)
          have OQ := Lib.hid (owns_on16 OQ.out b)
          obtain ⟨ga, hg⟩ : ∃ g, g = X2.heap.size := ⟨_, rfl⟩
          have GA := Lib.hid (show v4.heap.size ≤ ga from hg ▸ hHeld.1.size)
          rw [← hg] at ZA0 ⊢
          have ZA := ZA0
          clear ZA0 b hN hg
          have hHeld := hHeld2
          clear hHeld2
          refine wpAnyH_ready (rs := [8]) (by kernel_rfl) (List.cons_ne_nil _ _) ?_
          refine AllReadyH.cons rfl (fun K hK => ?_) AllReadyH.nil
          go_simp
          refine hK.out _ _ ?_ (fun hHeld2 => ?_)
          · exact ⟨hHeld.1.trans ((below16 X3 (.cells #[.int .u8 0, .slice none 0 0] 24)).mono hHeld.1.size), ((below16 X3 (.cells #[.int .u8 0, .slice none 0 0] 24)).cell (World.block_lt_of_cell? _ _ hHeld.2.1)).trans hHeld.2.1, ((below16 X3 (.cells #[.int .u8 0, .slice none 0 0] 24)).cell (World.block_lt_of_cell? _ _ hHeld.2.2)).trans hHeld.2.2⟩
          clear hK K
          obtain ⟨X4, hN⟩ : ∃ X, X = X3.alloc (.cells #[.int .u8 0, .slice none 0 0] 24) := ⟨_, rfl⟩
          have b : Below X3.heap.size X3 X4 := hN ▸ below16 X3 (.cells #[.int .u8 0, .slice none 0 0] 24)
          have ZB0 := Lib.hid (show X4.heap[X3.heap.size]? = some (.cells #[.int .u8 0, .slice none 0 0] 24 (0, 0)) from hN ▸ heap_alloc_new X3 _)
          rw [← hN] at hHeld2 ⊢
          have HNE := Lib.hid (show ga ≠ X3.heap.size from Nat.ne_of_lt (blk_lt ZA.out))
          have OP := Lib.hid (owns_on16 OP.out b)
          have OQ := Lib.hid (owns_on16 OQ.out b)
          have ZA := Lib.hid (blk_on ZA.out b)
          obtain ⟨gb, hg⟩ : ∃ g, g = X3.heap.size := ⟨_, rfl⟩
          have GB := Lib.hid (show v4.heap.size ≤ gb from hg ▸ hHeld.1.size)
          rw [← hg] at ZB0 HNE ⊢
          have ZB := ZB0
          clear ZB0 b hN hg
          have hHeld := hHeld2
          clear hHeld2
          refine wpAnyH_ready (rs := [9]) (by kernel_rfl) (List.cons_ne_nil _ _) ?_
          refine AllReadyH.cons rfl (fun K hK => ?_) AllReadyH.nil
          have z0 := (cell_of_row X4 ga 0 _ _ (0, 0) ZA.out).trans (show _ = some (Value.int .u8 0) from rfl)
          have z1 := (cell_of_row X4 ga 1 _ _ (0, 0) ZA.out).trans (show _ = some (Value.slice none 0 0) from rfl)
          have zf0 := frozen_of_row X4 ga 0 _ _ ZA.out
          have zf1 := frozen_of_row X4 ga 1 _ _ ZA.out
          go_simp
          refine hK.out _ _ ?_ (fun hHeld2 => ?_)
          · exact (fun HB => ⟨HB, (HB.cell (p := ⟨v2.heap.size, 0, none⟩) HLB.out).trans HX0.out, (HB.cell (p := ⟨v2.heap.size, 1, none⟩) HLB.out).trans HX1.out⟩) ((hHeld.1.setCell (p := ⟨ga, 0, none⟩) GA.out _).setCell (p := ⟨ga, 1, none⟩) GA.out _)
          clear hK K
          clear z0 z1 zf0 zf1
          have OP1 := Lib.hid (show ((X4.setCell ⟨ga, 0, none⟩ (.int .u8 mi)).setCell ⟨ga, 1, none⟩ (.slice qp np cp)).ownsRow _ 51 2 (.slice qp np cp) np _ from own_box16 ZA.out (by decide) OP.out [.int .u8 mi, .slice qp np cp])
          have OQ1 := Lib.hid (show ((X4.setCell ⟨ga, 0, none⟩ (.int .u8 mi)).setCell ⟨ga, 1, none⟩ (.slice qp np cp)).ownsRow _ 51 2 (.slice qt nt ct) nt _ from own_box16 ZA.out (by decide) OQ.out [.int .u8 mi, .slice qp np cp])
          have ZN := Lib.hid (show ((X4.setCell ⟨ga, 0, none⟩ (.int .u8 mi)).setCell ⟨ga, 1, none⟩ (.slice qp np cp)).heap[ga]? = some (.cells #[.int .u8 mi, .slice qp np cp] 24 (0, 0)) from by have hz2 := ZA.out; simp [World.setCell, Array.getElem?_modify, hz2])
          have ZO := Lib.hid (show ((X4.setCell ⟨ga, 0, none⟩ (.int .u8 mi)).setCell ⟨ga, 1, none⟩ (.slice qp np cp)).heap[gb]? = _ from ((heap_setCell_other _ ⟨ga, 1, none⟩ gb _ (fun e => HNE.out e.symm)).trans (heap_setCell_other _ ⟨ga, 0, none⟩ gb _ (fun e => HNE.out e.symm))).trans ZB.out)
          generalize (X4.setCell ⟨ga, 0, none⟩ (.int .u8 mi)).setCell ⟨ga, 1, none⟩ (.slice qp np cp) = X5 at OP1 OQ1 ZN ZO hHeld2 ⊢
          clear ZA ZB OP OQ hHeld
          have OP := OP1
          have OQ := OQ1
          have ZA := ZN
          have ZB := ZO
          have hHeld := hHeld2
          clear OP1 OQ1 ZN ZO hHeld2
          refine wpAnyH_ready (rs := [10]) (by kernel_rfl) (List.cons_ne_nil _ _) ?_
          refine AllReadyH.cons rfl (fun K hK => ?_) AllReadyH.nil
          have z0 := (cell_of_row X5 gb 0 _ _ (0, 0) ZB.out).trans (show _ = some (Value.int .u8 0) from rfl)
          have z1 := (cell_of_row X5 gb 1 _ _ (0, 0) ZB.out).trans (show _ = some (Value.slice none 0 0) from rfl)
          have zf0 := frozen_of_row X5 gb 0 _ _ ZB.out
          have zf1 := frozen_of_row X5 gb 1 _ _ ZB.out
          go_simp
          refine hK.out _ _ ?_ (fun hHeld2 => ?_)
          · exact (fun HB => ⟨HB, (HB.cell (p := ⟨v2.heap.size, 0, none⟩) HLB.out).trans HX0.out, (HB.cell (p := ⟨v2.heap.size, 1, none⟩) HLB.out).trans HX1.out⟩) ((hHeld.1.setCell (p := ⟨gb, 0, none⟩) GB.out _).setCell (p := ⟨gb, 1, none⟩) GB.out _)
          clear hK K
          clear z0 z1 zf0 zf1
          have OP1 := Lib.hid (show ((X5.setCell ⟨gb, 0, none⟩ (.int .u8 mi)).setCell ⟨gb, 1, none⟩ (.slice qt nt ct)).ownsRow _ 51 2 (.slice qp np cp) np _ from own_box16 ZB.out (by decide) OP.out [.int .u8 mi, .slice qt nt ct])
          have OQ1 := Lib.hid (show ((X5.setCell ⟨gb, 0, none⟩ (.int .u8 mi)).setCell ⟨gb, 1, none⟩ (.slice qt nt ct)).ownsRow _ 51 2 (.slice qt nt ct) nt _ from own_box16 ZB.out (by decide) OQ.out [.int .u8 mi, .slice qt nt ct])
          have ZN := Lib.hid (show ((X5.setCell ⟨gb, 0, none⟩ (.int .u8 mi)).setCell ⟨gb, 1, none⟩ (.slice qt nt ct)).heap[gb]? = some (.cells #[.int .u8 mi, .slice qt nt ct] 24 (0, 0)) from by have hz2 := ZB.out; simp [World.setCell, Array.getElem?_modify, hz2])
          have ZO := Lib.hid (show ((X5.setCell ⟨gb, 0, none⟩ (.int .u8 mi)).setCell ⟨gb, 1, none⟩ (.slice qt nt ct)).heap[ga]? = _ from ((heap_setCell_other _ ⟨gb, 1, none⟩ ga _ HNE.out).trans (heap_setCell_other _ ⟨gb, 0, none⟩ ga _ HNE.out)).trans ZA.out)
          generalize (X5.setCell ⟨gb, 0, none⟩ (.int .u8 mi)).setCell ⟨gb, 1, none⟩ (.slice qt nt ct) = X6 at OP1 OQ1 ZN ZO hHeld2 ⊢
          clear ZB ZA OP OQ hHeld
          have OP := OP1
          have OQ := OQ1
          have ZB := ZN
          have ZA := ZO
          have hHeld := hHeld2
          clear OP1 OQ1 ZN ZO hHeld2
          refine wpAnyH_done (by kernel_rfl) ?_ _
          exact KEY X6 ga gb qp np cp qt nt ct ⟨hHeld.1, ZA.out, ZB.out, GA.out, GB.out, HNE.out, NP.out, NQ.out, OP.out, Bt, HBt.out, OQ.out, SEP.out⟩
        refine AllReadyH.cons rfl (fun K hK => ?_) ?_
        · go_simp
          refine hK.out _ _ ?_ (fun hHeld2 => ?_)
          · exact ⟨hHeld.1.trans ((below16 X2 (.cells #[.int .u8 0, .slice none 0 0] 24)).mono hHeld.1.size), ((below16 X2 (.cells #[.int .u8 0, .slice none 0 0] 24)).cell (World.block_lt_of_cell? _ _ hHeld.2.1)).trans hHeld.2.1, ((below16 X2 (.cells #[.int .u8 0, .slice none 0 0] 24)).cell (World.block_lt_of_cell? _ _ hHeld.2.2)).trans hHeld.2.2⟩
          clear hK K
          obtain ⟨X3, hN⟩ : ∃ X, X = X2.alloc (.cells #[.int .u8 0, .slice none 0 0] 24) := ⟨_, rfl⟩
          have b : Below X2.heap.size X2 X3 := hN ▸ below16 X2 (.cells #[.int .u8 0, .slice none 0 0] 24)
          have ZB0 := Lib.hid (show X3.heap[X2.heap.size]? = some (.cells #[.int .u8 0, .slice none 0 0] 24 (0, 0)) from hN ▸ heap_alloc_new X2 _)
          rw [← hN] at hHeld2 ⊢
          have OP := Lib.hid (owns_on16 OP.out b)
          have OQ := Lib.hid (owns_on16 OQ.out b)
          obtain ⟨gb, hg⟩ : ∃ g, g = X2.heap.size := ⟨_, rfl⟩
          have GB := Lib.hid (show v4.heap.size ≤ gb from hg ▸ hHeld.1.size)
          rw [← hg] at ZB0 ⊢
          have ZB := ZB0
          clear ZB0 b hN hg
          have hHeld := hHeld2
          clear hHeld2
          refine wpAnyH_ready (rs := [7]) (by kernel_rfl) (List.cons_ne_nil _ _) ?_
          refine AllReadyH.cons rfl (fun K hK => ?_) AllReadyH.nil
          go_simp
          refine hK.out _ _ ?_ (fun hHeld2 => ?_)
          · exact ⟨hHeld.1.trans ((below16 X3 (.cells #[.int .u8 0, .slice none 0 0] 24)).mono hHeld.1.size), ((below16 X3 (.cells #[.int .u8 0, .slice none 0 0] 24)).cell (World.block_lt_of_cell? _ _ hHeld.2.1)).trans hHeld.2.1, ((below16 X3 (.cells #[.int .u8 0, .slice none 0 0] 24)).cell (World.block_lt_of_cell? _ _ hHeld.2.2)).trans hHeld.2.2⟩
          clear hK K
          obtain ⟨X4, hN⟩ : ∃ X, X = X3.alloc (.cells #[.int .u8 0, .slice none 0 0] 24) := ⟨_, rfl⟩
          have b : Below X3.heap.size X3 X4 := hN ▸ below16 X3 (.cells #[.int .u8 0, .slice none 0 0] 24)
          have ZA0 := Lib.hid (show X4.heap[X3.heap.size]? = some (.cells #[.int .u8 0, .slice none 0 0] 24 (0, 0)) from hN ▸ heap_alloc_new X3 _)
          rw [← hN] at hHeld2 ⊢
          have HNE := Lib.hid (show X3.heap.size ≠ gb from Nat.ne_of_gt (blk_lt ZB.out))
          have OP := Lib.hid (owns_on16 OP.out b)
          have OQ := Lib.hid (owns_on16 OQ.out b)
          have ZB := Lib.hid (blk_on ZB.out b)
          obtain ⟨ga, hg⟩ : ∃ g, g = X3.heap.size := ⟨_, rfl⟩
          have GA := Lib.hid (show v4.heap.size ≤ ga from hg ▸ hHeld.1.size)
          rw [← hg] at ZA0 HNE ⊢
          have ZA := ZA0
          clear ZA0 b hN hg
          have hHeld := hHeld2
          clear hHeld2
          refine wpAnyH_ready (rs := [9]) (by kernel_rfl) (List.cons_ne_nil _ _) ?_
          refine AllReadyH.cons rfl (fun K hK => ?_) AllReadyH.nil
          have z0 := (cell_of_row X4 ga 0 _ _ (0, 0) ZA.out).trans (show _ = some (Value.int .u8 0) from rfl)
          have z1 := (cell_of_row X4 ga 1 _ _ (0, 0) ZA.out).trans (show _ = some (Value.slice none 0 0) from rfl)
          have zf0 := frozen_of_row X4 ga 0 _ _ ZA.out
          have zf1 := frozen_of_row X4 ga 1 _ _ ZA.out
          go_simp
          refine hK.out _ _ ?_ (fun hHeld2 => ?_)
          · exact (fun HB => ⟨HB, (HB.cell (p := ⟨v2.heap.size, 0, none⟩) HLB.out).trans HX0.out, (HB.cell (p := ⟨v2.heap.size, 1, none⟩) HLB.out).trans HX1.out⟩) ((hHeld.1.setCell (p := ⟨ga, 0, none⟩) GA.out _).setCell (p := ⟨ga, 1, none⟩) GA.out _)
          clear hK K
          clear z0 z1 zf0 zf1
          have OP1 := Lib.hid (show ((X4.setCell ⟨ga, 0, none⟩ (.int .u8 mi)).setCell ⟨ga, 1, none⟩ (.slice qp np cp)).ownsRow _ 51 2 (.slice qp np cp) np _ from own_box16 ZA.out (by decide) OP.out [.int .u8 mi, .slice qp np cp])
          have OQ1 := Lib.hid (show ((X4.setCell ⟨ga, 0, none⟩ (.int .u8 mi)).setCell ⟨ga, 1, none⟩ (.slice qp np cp)).ownsRow _ 51 2 (.slice qt nt ct) nt _ from own_box16 ZA.out (by decide) OQ.out [.int .u8 mi, .slice qp np cp])
          have ZN := Lib.hid (show ((X4.setCell ⟨ga, 0, none⟩ (.int .u8 mi)).setCell ⟨ga, 1, none⟩ (.slice qp np cp)).heap[ga]? = some (.cells #[.int .u8 mi, .slice qp np cp] 24 (0, 0)) from by have hz2 := ZA.out; simp [World.setCell, Array.getElem?_modify, hz2])
          have ZO := Lib.hid (show ((X4.setCell ⟨ga, 0, none⟩ (.int .u8 mi)).setCell ⟨ga, 1, none⟩ (.slice qp np cp)).heap[gb]? = _ from ((heap_setCell_other _ ⟨ga, 1, none⟩ gb _ (fun e => HNE.out e.symm)).trans (heap_setCell_other _ ⟨ga, 0, none⟩ gb _ (fun e => HNE.out e.symm))).trans ZB.out)
          generalize (X4.setCell ⟨ga, 0, none⟩ (.int .u8 mi)).setCell ⟨ga, 1, none⟩ (.slice qp np cp) = X5 at OP1 OQ1 ZN ZO hHeld2 ⊢
          clear ZA ZB OP OQ hHeld
          have OP := OP1
          have OQ := OQ1
          have ZA := ZN
          have ZB := ZO
          have hHeld := hHeld2
          clear OP1 OQ1 ZN ZO hHeld2
          refine wpAnyH_ready (rs := [10]) (by kernel_rfl) (List.cons_ne_nil _ _) ?_
          refine AllReadyH.cons rfl (fun K hK => ?_) AllReadyH.nil
          have z0 := (cell_of_row X5 gb 0 _ _ (0, 0) ZB.out).trans (show _ = some (Value.int .u8 0) from rfl)
          have z1 := (cell_of_row X5 gb 1 _ _ (0, 0) ZB.out).trans (show _ = some (Value.slice none 0 0) from rfl)
          have zf0 := frozen_of_row X5 gb 0 _ _ ZB.out
          have zf1 := frozen_of_row X5 gb 1 _ _ ZB.out
          go_simp
          refine hK.out _ _ ?_ (fun hHeld2 => ?_)
          · exact (fun HB => ⟨HB, (HB.cell (p := ⟨v2.heap.size, 0, none⟩) HLB.out).trans HX0.out, (HB.cell (p := ⟨v2.heap.size, 1, none⟩) HLB.out).trans HX1.out⟩) ((hHeld.1.setCell (p := ⟨gb, 0, none⟩) GB.out _).setCell (p := ⟨gb, 1, none⟩) GB.out _)
          clear hK K
          clear z0 z1 zf0 zf1
          have OP1 := Lib.hid (show ((X5.setCell ⟨gb, 0, none⟩ (.int .u8 mi)).setCell ⟨gb, 1, none⟩ (.slice qt nt ct)).ownsRow _ 51 2 (.slice qp np cp) np _ from own_box16 ZB.out (by decide) OP.out [.int .u8 mi, .slice qt nt ct])
          have OQ1 := Lib.hid (show ((X5.setCell ⟨gb, 0, none⟩ (.int .u8 mi)).setCell ⟨gb, 1, none⟩ (.slice qt nt ct)).ownsRow _ 51 2 (.slice qt nt ct) nt _ from own_box16 ZB.out (by decide) OQ.out [.int .u8 mi, .slice qt nt ct])
          have ZN := Lib.hid (show ((X5.setCell ⟨gb, 0, none⟩ (.int .u8 mi)).setCell ⟨gb, 1, none⟩ (.slice qt nt ct)).heap[gb]? = some (.cells #[.int .u8 mi, .slice qt nt ct] 24 (0, 0)) from by have hz2 := ZB.out; simp [World.setCell, Array.getElem?_modify, hz2])
          have ZO := Lib.hid (show ((X5.setCell ⟨gb, 0, none⟩ (.int .u8 mi)).setCell ⟨gb, 1, none⟩ (.slice qt nt ct)).heap[ga]? = _ from ((heap_setCell_other _ ⟨gb, 1, none⟩ ga _ HNE.out).trans (heap_setCell_other _ ⟨gb, 0, none⟩ ga _ HNE.out)).trans ZA.out)
          generalize (X5.setCell ⟨gb, 0, none⟩ (.int .u8 mi)).setCell ⟨gb, 1, none⟩ (.slice qt nt ct) = X6 at OP1 OQ1 ZN ZO hHeld2 ⊢
          clear ZB ZA OP OQ hHeld
          have OP := OP1
          have OQ := OQ1
          have ZB := ZN
          have ZA := ZO
          have hHeld := hHeld2
          clear OP1 OQ1 ZN ZO hHeld2
          refine wpAnyH_done (by kernel_rfl) ?_ _
          exact KEY X6 ga gb qp np cp qt nt ct ⟨hHeld.1, ZA.out, ZB.out, GA.out, GB.out, HNE.out, NP.out, NQ.out, OP.out, Bt, HBt.out, OQ.out, SEP.out⟩
        exact AllReadyH.nil
      refine AllReadyH.cons rfl (fun K hK => ?_) ?_
      · go_simp
        refine hK.out _ _ ?_ (fun hHeld2 => ?_)
        · exact ⟨hHeld.1.trans ((below16 X1 (.cells #[.int .u8 0, .slice none 0 0] 24)).mono hHeld.1.size), ((below16 X1 (.cells #[.int .u8 0, .slice none 0 0] 24)).cell (World.block_lt_of_cell? _ _ hHeld.2.1)).trans hHeld.2.1, ((below16 X1 (.cells #[.int .u8 0, .slice none 0 0] 24)).cell (World.block_lt_of_cell? _ _ hHeld.2.2)).trans hHeld.2.2⟩
        clear hK K
        obtain ⟨X2, hN⟩ : ∃ X, X = X1.alloc (.cells #[.int .u8 0, .slice none 0 0] 24) := ⟨_, rfl⟩
        have b : Below X1.heap.size X1 X2 := hN ▸ below16 X1 (.cells #[.int .u8 0, .slice none 0 0] 24)
        have ZA0 := Lib.hid (show X2.heap[X1.heap.size]? = some (.cells #[.int .u8 0, .slice none 0 0] 24 (0, 0)) from hN ▸ heap_alloc_new X1 _)
        rw [← hN] at hHeld2 ⊢
        have OP := Lib.hid (owns_on16 OP.out b)
        obtain ⟨ga, hg⟩ : ∃ g, g = X1.heap.size := ⟨_, rfl⟩
        have GA := Lib.hid (show v4.heap.size ≤ ga from hg ▸ hHeld.1.size)
        rw [← hg] at ZA0 ⊢
        have ZA := ZA0
        clear ZA0 b hN hg
        have hHeld := hHeld2
        clear hHeld2
        refine wpAnyH_ready (rs := [6, 8]) (by kernel_rfl) (List.cons_ne_nil _ _) ?_
        refine AllReadyH.cons rfl (fun K hK => ?_) ?_
        · go_simp
          go_wp2_with (go_at_call 22; ((with_reducible refine (HTA.out _ q2 n2 c2 (HON.out _ _ (HON.out _ _ HG.out B4.out) hHeld.1) N2.out (O4.out.on hHeld.1)).mono ?_); rintro e X3 ⟨qt, nt, ct, rfl, lq, oq, bq⟩); have NQ := Lib.hid lq; clear lq)
          obtain ⟨Bt, hBt⟩ : ∃ b, b = X2.heap.size := ⟨_, rfl⟩
          rw [← hBt] at oq
          have SEP := Lib.hid (show ∀ j, qp = some ⟨j, 0, none⟩ → j < Bt from hBt ▸ own_sep16 OP.out)
          have HBt := Lib.hid (show v4.heap.size ≤ Bt from hBt ▸ hHeld.1.size)
          have OQ := Lib.hid oq
          have b := bq
          clear oq bq hBt
          have OP := Lib.hid (owns_on16 OP.out b)
          have ZA := Lib.hid (blk_on ZA.out b)
          refine hK.out _ _ ?_ (fun hHeld2 => ?_)
          · exact ⟨hHeld.1.trans (b.mono hHeld.1.size), (b.cell (World.block_lt_of_cell? _ _ hHeld.2.1)).trans hHeld.2.1, (b.cell (World.block_lt_of_cell? _ _ hHeld.2.2)).trans hHeld.2.2⟩
          clear hK K
          clear b
          have hHeld := hHeld2
          clear hHeld2
          refine wpAnyH_ready (rs := [8]) (by kernel_rfl) (List.cons_ne_nil _ _) ?_
          refine AllReadyH.cons rfl (fun K hK => ?_) AllReadyH.nil
          go_simp
          refine hK.out _ _ ?_ (fun hHeld2 => ?_)
          · exact ⟨hHeld.1.trans ((below16 X3 (.cells #[.int .u8 0, .slice none 0 0] 24)).mono hHeld.1.size), ((below16 X3 (.cells #[.int .u8 0, .slice none 0 0] 24)).cell (World.block_lt_of_cell? _ _ hHeld.2.1)).trans hHeld.2.1, ((below16 X3 (.cells #[.int .u8 0, .slice none 0 0] 24)).cell (World.block_lt_of_cell? _ _ hHeld.2.2)).trans hHeld.2.2⟩
          clear hK K
          obtain ⟨X4, hN⟩ : ∃ X, X = X3.alloc (.cells #[.int .u8 0, .slice none 0 0] 24) := ⟨_, rfl⟩
          have b : Below X3.heap.size X3 X4 := hN ▸ below16 X3 (.cells #[.int .u8 0, .slice none 0 0] 24)
          have ZB0 := Lib.hid (show X4.heap[X3.heap.size]? = some (.cells #[.int .u8 0, .slice none 0 0] 24 (0, 0)) from hN ▸ heap_alloc_new X3 _)
          rw [← hN] at hHeld2 ⊢
          have HNE := Lib.hid (show ga ≠ X3.heap.size from Nat.ne_of_lt (blk_lt ZA.out))
          have OP := Lib.hid (owns_on16 OP.out b)
          have OQ := Lib.hid (owns_on16 OQ.out b)
          have ZA := Lib.hid (blk_on ZA.out b)
          obtain ⟨gb, hg⟩ : ∃ g, g = X3.heap.size := ⟨_, rfl⟩
          have GB := Lib.hid (show v4.heap.size ≤ gb from hg ▸ hHeld.1.size)
          rw [← hg] at ZB0 HNE ⊢
          have ZB := ZB0
          clear ZB0 b hN hg
          have hHeld := hHeld2
          clear hHeld2
          refine wpAnyH_ready (rs := [9]) (by kernel_rfl) (List.cons_ne_nil _ _) ?_
          refine AllReadyH.cons rfl (fun K hK => ?_) AllReadyH.nil
          have z0 := (cell_of_row X4 ga 0 _ _ (0, 0) ZA.out).trans (show _ = some (Value.int .u8 0) from rfl)
          have z1 := (cell_of_row X4 ga 1 _ _ (0, 0) ZA.out).trans (show _ = some (Value.slice none 0 0) from rfl)
          have zf0 := frozen_of_row X4 ga 0 _ _ ZA.out
          have zf1 := frozen_of_row X4 ga 1 _ _ ZA.out
          go_simp
          refine hK.out _ _ ?_ (fun hHeld2 => ?_)
          · exact (fun HB => ⟨HB, (HB.cell (p := ⟨v2.heap.size, 0, none⟩) HLB.out).trans HX0.out, (HB.cell (p := ⟨v2.heap.size, 1, none⟩) HLB.out).trans HX1.out⟩) ((hHeld.1.setCell (p := ⟨ga, 0, none⟩) GA.out _).setCell (p := ⟨ga, 1, none⟩) GA.out _)
          clear hK K
          clear z0 z1 zf0 zf1
          have OP1 := Lib.hid (show ((X4.setCell ⟨ga, 0, none⟩ (.int .u8 mi)).setCell ⟨ga, 1, none⟩ (.slice qp np cp)).ownsRow _ 51 2 (.slice qp np cp) np _ from own_box16 ZA.out (by decide) OP.out [.int .u8 mi, .slice qp np cp])
          have OQ1 := Lib.hid (show ((X4.setCell ⟨ga, 0, none⟩ (.int .u8 mi)).setCell ⟨ga, 1, none⟩ (.slice qp np cp)).ownsRow _ 51 2 (.slice qt nt ct) nt _ from own_box16 ZA.out (by decide) OQ.out [.int .u8 mi, .slice qp np cp])
          have ZN := Lib.hid (show ((X4.setCell ⟨ga, 0, none⟩ (.int .u8 mi)).setCell ⟨ga, 1, none⟩ (.slice qp np cp)).heap[ga]? = some (.cells #[.int .u8 mi, .slice qp np cp] 24 (0, 0)) from by have hz2 := ZA.out; simp [World.setCell, Array.getElem?_modify, hz2])
          have ZO := Lib.hid (show ((X4.setCell ⟨ga, 0, none⟩ (.int .u8 mi)).setCell ⟨ga, 1, none⟩ (.slice qp np cp)).heap[gb]? = _ from ((heap_setCell_other _ ⟨ga, 1, none⟩ gb _ (fun e => HNE.out e.symm)).trans (heap_setCell_other _ ⟨ga, 0, none⟩ gb _ (fun e => HNE.out e.symm))).trans ZB.out)
          generalize (X4.setCell ⟨ga, 0, none⟩ (.int .u8 mi)).setCell ⟨ga, 1, none⟩ (.slice qp np cp) = X5 at OP1 OQ1 ZN ZO hHeld2 ⊢
          clear ZA ZB OP OQ hHeld
          have OP := OP1
          have OQ := OQ1
          have ZA := ZN
          have ZB := ZO
          have hHeld := hHeld2
          clear OP1 OQ1 ZN ZO hHeld2
          refine wpAnyH_ready (rs := [10]) (by kernel_rfl) (List.cons_ne_nil _ _) ?_
          refine AllReadyH.cons rfl (fun K hK => ?_) AllReadyH.nil
          have z0 := (cell_of_row X5 gb 0 _ _ (0, 0) ZB.out).trans (show _ = some (Value.int .u8 0) from rfl)
          have z1 := (cell_of_row X5 gb 1 _ _ (0, 0) ZB.out).trans (show _ = some (Value.slice none 0 0) from rfl)
          have zf0 := frozen_of_row X5 gb 0 _ _ ZB.out
          have zf1 := frozen_of_row X5 gb 1 _ _ ZB.out
          go_simp
          refine hK.out _ _ ?_ (fun hHeld2 => ?_)
          · exact (fun HB => ⟨HB, (HB.cell (p := ⟨v2.heap.size, 0, none⟩) HLB.out).trans HX0.out, (HB.cell (p := ⟨v2.heap.size, 1, none⟩) HLB.out).trans HX1.out⟩) ((hHeld.1.setCell (p := ⟨gb, 0, none⟩) GB.out _).setCell (p := ⟨gb, 1, none⟩) GB.out _)
          clear hK K
          clear z0 z1 zf0 zf1
          have OP1 := Lib.hid (show ((X5.setCell ⟨gb, 0, none⟩ (.int .u8 mi)).setCell ⟨gb, 1, none⟩ (.slice qt nt ct)).ownsRow _ 51 2 (.slice qp np cp) np _ from own_box16 ZB.out (by decide) OP.out [.int .u8 mi, .slice qt nt ct])
          have OQ1 := Lib.hid (show ((X5.setCell ⟨gb, 0, none⟩ (.int .u8 mi)).setCell ⟨gb, 1, none⟩ (.slice qt nt ct)).ownsRow _ 51 2 (.slice qt nt ct) nt _ from own_box16 ZB.out (by decide) OQ.out [.int .u8 mi, .slice qt nt ct])
          have ZN := Lib.hid (show ((X5.setCell ⟨gb, 0, none⟩ (.int .u8 mi)).setCell ⟨gb, 1, none⟩ (.slice qt nt ct)).heap[gb]? = some (.cells #[.int .u8 mi, .slice qt nt ct] 24 (0, 0)) from by have hz2 := ZB.out; simp [World.setCell, Array.getElem?_modify, hz2])
          have ZO := Lib.hid (show ((X5.setCell ⟨gb, 0, none⟩ (.int .u8 mi)).setCell ⟨gb, 1, none⟩ (.slice qt nt ct)).heap[ga]? = _ from ((heap_setCell_other _ ⟨gb, 1, none⟩ ga _ HNE.out).trans (heap_setCell_other _ ⟨gb, 0, none⟩ ga _ HNE.out)).trans ZA.out)
          generalize (X5.setCell ⟨gb, 0, none⟩ (.int .u8 mi)).setCell ⟨gb, 1, none⟩ (.slice qt nt ct) = X6 at OP1 OQ1 ZN ZO hHeld2 ⊢
          clear ZB ZA OP OQ hHeld
          have OP := OP1
          have OQ := OQ1
          have ZB := ZN
          have ZA := ZO
          have hHeld := hHeld2
          clear OP1 OQ1 ZN ZO hHeld2
          refine wpAnyH_done (by kernel_rfl) ?_ _
          exact KEY X6 ga gb qp np cp qt nt ct ⟨hHeld.1, ZA.out, ZB.out, GA.out, GB.out, HNE.out, NP.out, NQ.out, OP.out, Bt, HBt.out, OQ.out, SEP.out⟩
        refine AllReadyH.cons rfl (fun K hK => ?_) ?_
        · go_simp
          refine hK.out _ _ ?_ (fun hHeld2 => ?_)
          · exact ⟨hHeld.1.trans ((below16 X2 (.cells #[.int .u8 0, .slice none 0 0] 24)).mono hHeld.1.size), ((below16 X2 (.cells #[.int .u8 0, .slice none 0 0] 24)).cell (World.block_lt_of_cell? _ _ hHeld.2.1)).trans hHeld.2.1, ((below16 X2 (.cells #[.int .u8 0, .slice none 0 0] 24)).cell (World.block_lt_of_cell? _ _ hHeld.2.2)).trans hHeld.2.2⟩
          clear hK K
          obtain ⟨X3, hN⟩ : ∃ X, X = X2.alloc (.cells #[.int .u8 0, .slice none 0 0] 24) := ⟨_, rfl⟩
          have b : Below X2.heap.size X2 X3 := hN ▸ below16 X2 (.cells #[.int .u8 0, .slice none 0 0] 24)
          have ZB0 := Lib.hid (show X3.heap[X2.heap.size]? = some (.cells #[.int .u8 0, .slice none 0 0] 24 (0, 0)) from hN ▸ heap_alloc_new X2 _)
          rw [← hN] at hHeld2 ⊢
          have HNE := Lib.hid (show ga ≠ X2.heap.size from Nat.ne_of_lt (blk_lt ZA.out))
          have OP := Lib.hid (owns_on16 OP.out b)
          have ZA := Lib.hid (blk_on ZA.out b)
          obtain ⟨gb, hg⟩ : ∃ g, g = X2.heap.size := ⟨_, rfl⟩
          have GB := Lib.hid (show v4.heap.size ≤ gb from hg ▸ hHeld.1.size)
          rw [← hg] at ZB0 HNE ⊢
          have ZB := ZB0
          clear ZB0 b hN hg
          have hHeld := hHeld2
          clear hHeld2
          refine wpAnyH_ready (rs := [6]) (by kernel_rfl) (List.cons_ne_nil _ _) ?_
          refine AllReadyH.cons rfl (fun K hK => ?_) AllReadyH.nil
          go_simp
          go_wp2_with (go_at_call 22; ((with_reducible refine (HTA.out _ q2 n2 c2 (HON.out _ _ (HON.out _ _ HG.out B4.out) hHeld.1) N2.out (O4.out.on hHeld.1)).mono ?_); rintro e X4 ⟨qt, nt, ct, rfl, lq, oq, bq⟩); have NQ := Lib.hid lq; clear lq)
          obtain ⟨Bt, hBt⟩ : ∃ b, b = X3.heap.size := ⟨_, rfl⟩
          rw [← hBt] at oq
          have SEP := Lib.hid (show ∀ j, qp = some ⟨j, 0, none⟩ → j < Bt from hBt ▸ own_sep16 OP.out)
          have HBt := Lib.hid (show v4.heap.size ≤ Bt from hBt ▸ hHeld.1.size)
          have OQ := Lib.hid oq
          have b := bq
          clear oq bq hBt
          have OP := Lib.hid (owns_on16 OP.out b)
          have ZA := Lib.hid (blk_on ZA.out b)
          have ZB := Lib.hid (blk_on ZB.out b)
          refine hK.out _ _ ?_ (fun hHeld2 => ?_)
          · exact ⟨hHeld.1.trans (b.mono hHeld.1.size), (b.cell (World.block_lt_of_cell? _ _ hHeld.2.1)).trans hHeld.2.1, (b.cell (World.block_lt_of_cell? _ _ hHeld.2.2)).trans hHeld.2.2⟩
          clear hK K
          clear b
          have hHeld := hHeld2
          clear hHeld2
          refine wpAnyH_ready (rs := [9]) (by kernel_rfl) (List.cons_ne_nil _ _) ?_
          refine AllReadyH.cons rfl (fun K hK => ?_) AllReadyH.nil
          have z0 := (cell_of_row X4 ga 0 _ _ (0, 0) ZA.out).trans (show _ = some (Value.int .u8 0) from rfl)
          have z1 := (cell_of_row X4 ga 1 _ _ (0, 0) ZA.out).trans (show _ = some (Value.slice none 0 0) from rfl)
          have zf0 := frozen_of_row X4 ga 0 _ _ ZA.out
          have zf1 := frozen_of_row X4 ga 1 _ _ ZA.out
          go_simp
          refine hK.out _ _ ?_ (fun hHeld2 => ?_)
          · exact (fun HB => ⟨HB, (HB.cell (p := ⟨v2.heap.size, 0, none⟩) HLB.out).trans HX0.out, (HB.cell (p := ⟨v2.heap.size, 1, none⟩) HLB.out).trans HX1.out⟩) ((hHeld.1.setCell (p := ⟨ga, 0, none⟩) GA.out _).setCell (p := ⟨ga, 1, none⟩) GA.out _)
          clear hK K
          clear z0 z1 zf0 zf1
          have OP1 := Lib.hid (show ((X4.setCell ⟨ga, 0, none⟩ (.int .u8 mi)).setCell ⟨ga, 1, none⟩ (.slice qp np cp)).ownsRow _ 51 2 (.slice qp np cp) np _ from own_box16 ZA.out (by decide) OP.out [.int .u8 mi, .slice qp np cp])
          have OQ1 := Lib.hid (show ((X4.setCell ⟨ga, 0, none⟩ (.int .u8 mi)).setCell ⟨ga, 1, none⟩ (.slice qp np cp)).ownsRow _ 51 2 (.slice qt nt ct) nt _ from own_box16 ZA.out (by decide) OQ.out [.int .u8 mi, .slice qp np cp])
          have ZN := Lib.hid (show ((X4.setCell ⟨ga, 0, none⟩ (.int .u8 mi)).setCell ⟨ga, 1, none⟩ (.slice qp np cp)).heap[ga]? = some (.cells #[.int .u8 mi, .slice qp np cp] 24 (0, 0)) from by have hz2 := ZA.out; simp [World.setCell, Array.getElem?_modify, hz2])
          have ZO := Lib.hid (show ((X4.setCell ⟨ga, 0, none⟩ (.int .u8 mi)).setCell ⟨ga, 1, none⟩ (.slice qp np cp)).heap[gb]? = _ from ((heap_setCell_other _ ⟨ga, 1, none⟩ gb _ (fun e => HNE.out e.symm)).trans (heap_setCell_other _ ⟨ga, 0, none⟩ gb _ (fun e => HNE.out e.symm))).trans ZB.out)
          generalize (X4.setCell ⟨ga, 0, none⟩ (.int .u8 mi)).setCell ⟨ga, 1, none⟩ (.slice qp np cp) = X5 at OP1 OQ1 ZN ZO hHeld2 ⊢
          clear ZA ZB OP OQ hHeld
          have OP := OP1
          have OQ := OQ1
          have ZA := ZN
          have ZB := ZO
          have hHeld := hHeld2
          clear OP1 OQ1 ZN ZO hHeld2
          refine wpAnyH_ready (rs := [10]) (by kernel_rfl) (List.cons_ne_nil _ _) ?_
          refine AllReadyH.cons rfl (fun K hK => ?_) AllReadyH.nil
          have z0 := (cell_of_row X5 gb 0 _ _ (0, 0) ZB.out).trans (show _ = some (Value.int .u8 0) from rfl)
          have z1 := (cell_of_row X5 gb 1 _ _ (0, 0) ZB.out).trans (show _ = some (Value.slice none 0 0) from rfl)
          have zf0 := frozen_of_row X5 gb 0 _ _ ZB.out
          have zf1 := frozen_of_row X5 gb 1 _ _ ZB.out
          go_simp
          refine hK.out _ _ ?_ (fun hHeld2 => ?_)
          · exact (fun HB => ⟨HB, (HB.cell (p := ⟨v2.heap.size, 0, none⟩) HLB.out).trans HX0.out, (HB.cell (p := ⟨v2.heap.size, 1, none⟩) HLB.out).trans HX1.out⟩) ((hHeld.1.setCell (p := ⟨gb, 0, none⟩) GB.out _).setCell (p := ⟨gb, 1, none⟩) GB.out _)
          clear hK K
          clear z0 z1 zf0 zf1
          have OP1 := Lib.hid (show ((X5.setCell ⟨gb, 0, none⟩ (.int .u8 mi)).setCell ⟨gb, 1, none⟩ (.slice qt nt ct)).ownsRow _ 51 2 (.slice qp np cp) np _ from own_box16 ZB.out (by decide) OP.out [.int .u8 mi, .slice qt nt ct])
          have OQ1 := Lib.hid (show ((X5.setCell ⟨gb, 0, none⟩ (.int .u8 mi)).setCell ⟨gb, 1, none⟩ (.slice qt nt ct)).ownsRow _ 51 2 (.slice qt nt ct) nt _ from own_box16 ZB.out (by decide) OQ.out [.int .u8 mi, .slice qt nt ct])
          have ZN := Lib.hid (show ((X5.setCell ⟨gb, 0, none⟩ (.int .u8 mi)).setCell ⟨gb, 1, none⟩ (.slice qt nt ct)).heap[gb]? = some (.cells #[.int .u8 mi, .slice qt nt ct] 24 (0, 0)) from by have hz2 := ZB.out; simp [World.setCell, Array.getElem?_modify, hz2])
          have ZO := Lib.hid (show ((X5.setCell ⟨gb, 0, none⟩ (.int .u8 mi)).setCell ⟨gb, 1, none⟩ (.slice qt nt ct)).heap[ga]? = _ from ((heap_setCell_other _ ⟨gb, 1, none⟩ ga _ HNE.out).trans (heap_setCell_other _ ⟨gb, 0, none⟩ ga _ HNE.out)).trans ZA.out)
          generalize (X5.setCell ⟨gb, 0, none⟩ (.int .u8 mi)).setCell ⟨gb, 1, none⟩ (.slice qt nt ct) = X6 at OP1 OQ1 ZN ZO hHeld2 ⊢
          clear ZB ZA OP OQ hHeld
          have OP := OP1
          have OQ := OQ1
          have ZB := ZN
          have ZA := ZO
          have hHeld := hHeld2
          clear OP1 OQ1 ZN ZO hHeld2
          refine wpAnyH_done (by kernel_rfl) ?_ _
          exact KEY X6 ga gb qp np cp qt nt ct ⟨hHeld.1, ZA.out, ZB.out, GA.out, GB.out, HNE.out, NP.out, NQ.out, OP.out, Bt, HBt.out, OQ.out, SEP.out⟩
        exact AllReadyH.nil
      refine AllReadyH.cons rfl (fun K hK => ?_) ?_
      · go_simp
        refine hK.out _ _ ?_ (fun hHeld2 => ?_)
        · exact ⟨hHeld.1.trans ((below16 X1 (.cells #[.int .u8 0, .slice none 0 0] 24)).mono hHeld.1.size), ((below16 X1 (.cells #[.int .u8 0, .slice none 0 0] 24)).cell (World.block_lt_of_cell? _ _ hHeld.2.1)).trans hHeld.2.1, ((below16 X1 (.cells #[.int .u8 0, .slice none 0 0] 24)).cell (World.block_lt_of_cell? _ _ hHeld.2.2)).trans hHeld.2.2⟩
        clear hK K
        obtain ⟨X2, hN⟩ : ∃ X, X = X1.alloc (.cells #[.int .u8 0, .slice none 0 0] 24) := ⟨_, rfl⟩
        have b : Below X1.heap.size X1 X2 := hN ▸ below16 X1 (.cells #[.int .u8 0, .slice none 0 0] 24)
        have ZB0 := Lib.hid (show X2.heap[X1.heap.size]? = some (.cells #[.int .u8 0, .slice none 0 0] 24 (0, 0)) from hN ▸ heap_alloc_new X1 _)
        rw [← hN] at hHeld2 ⊢
        have OP := Lib.hid (owns_on16 OP.out b)
        obtain ⟨gb, hg⟩ : ∃ g, g = X1.heap.size := ⟨_, rfl⟩
        have GB := Lib.hid (show v4.heap.size ≤ gb from hg ▸ hHeld.1.size)
        rw [← hg] at ZB0 ⊢
        have ZB := ZB0
        clear ZB0 b hN hg
        have hHeld := hHeld2
        clear hHeld2
        refine wpAnyH_ready (rs := [6, 7]) (by kernel_rfl) (List.cons_ne_nil _ _) ?_
        refine AllReadyH.cons rfl (fun K hK => ?_) ?_
        · go_simp
          go_wp2_with (go_at_call 22; ((with_reducible refine (HTA.out _ q2 n2 c2 (HON.out _ _ (HON.out _ _ HG.out B4.out) hHeld.1) N2.out (O4.out.on hHeld.1)).mono ?_); rintro e X3 ⟨qt, nt, ct, rfl, lq, oq, bq⟩); have NQ := Lib.hid lq; clear lq)
          obtain ⟨Bt, hBt⟩ : ∃ b, b = X2.heap.size := ⟨_, rfl⟩
          rw [← hBt] at oq
          have SEP := Lib.hid (show ∀ j, qp = some ⟨j, 0, none⟩ → j < Bt from hBt ▸ own_sep16 OP.out)
          have HBt := Lib.hid (show v4.heap.size ≤ Bt from hBt ▸ hHeld.1.size)
          have OQ := Lib.hid oq
          have b := bq
          clear oq bq hBt
          have OP := Lib.hid (owns_on16 OP.out b)
          have ZB := Lib.hid (blk_on ZB.out b)
          refine hK.out _ _ ?_ (fun hHeld2 => ?_)
          · exact ⟨hHeld.1.trans (b.mono hHeld.1.size), (b.cell (World.block_lt_of_cell? _ _ hHeld.2.1)).trans hHeld.2.1, (b.cell (World.block_lt_of_cell? _ _ hHeld.2.2)).trans hHeld.2.2⟩
          clear hK K
          clear b
          have hHeld := hHeld2
          clear hHeld2
          refine wpAnyH_ready (rs := [7]) (by kernel_rfl) (List.cons_ne_nil _ _) ?_
          refine AllReadyH.cons rfl (fun K hK => ?_) AllReadyH.nil
          go_simp
          refine hK.out _ _ ?_ (fun hHeld2 => ?_)
          · exact ⟨hHeld.1.trans ((below16 X3 (.cells #[.int .u8 0, .slice none 0 0] 24)).mono hHeld.1.size), ((below16 X3 (.cells #[.int .u8 0, .slice none 0 0] 24)).cell (World.block_lt_of_cell? _ _ hHeld.2.1)).trans hHeld.2.1, ((below16 X3 (.cells #[.int .u8 0, .slice none 0 0] 24)).cell (World.block_lt_of_cell? _ _ hHeld.2.2)).trans hHeld.2.2⟩
          clear hK K
          obtain ⟨X4, hN⟩ : ∃ X, X = X3.alloc (.cells #[.int .u8 0, .slice none 0 0] 24) := ⟨_, rfl⟩
          have b : Below X3.heap.size X3 X4 := hN ▸ below16 X3 (.cells #[.int .u8 0, .slice none 0 0] 24)
          have ZA0 := Lib.hid (show X4.heap[X3.heap.size]? = some (.cells #[.int .u8 0, .slice none 0 0] 24 (0, 0)) from hN ▸ heap_alloc_new X3 _)
          rw [← hN] at hHeld2 ⊢
          have HNE := Lib.hid (show X3.heap.size ≠ gb from Nat.ne_of_gt (blk_lt ZB.out))
          have OP := Lib.hid (owns_on16 OP.out b)
          have OQ := Lib.hid (owns_on16 OQ.out b)
          have ZB := Lib.hid (blk_on ZB.out b)
          obtain ⟨ga, hg⟩ : ∃ g, g = X3.heap.size := ⟨_, rfl⟩
          have GA := Lib.hid (show v4.heap.size ≤ ga from hg ▸ hHeld.1.size)
          rw [← hg] at ZA0 HNE ⊢
          have ZA := ZA0
          clear ZA0 b hN hg
          have hHeld := hHeld2
          clear hHeld2
          refine wpAnyH_ready (rs := [9]) (by kernel_rfl) (List.cons_ne_nil _ _) ?_
          refine AllReadyH.cons rfl (fun K hK => ?_) AllReadyH.nil
          have z0 := (cell_of_row X4 ga 0 _ _ (0, 0) ZA.out).trans (show _ = some (Value.int .u8 0) from rfl)
          have z1 := (cell_of_row X4 ga 1 _ _ (0, 0) ZA.out).trans (show _ = some (Value.slice none 0 0) from rfl)
          have zf0 := frozen_of_row X4 ga 0 _ _ ZA.out
          have zf1 := frozen_of_row X4 ga 1 _ _ ZA.out
          go_simp
          refine hK.out _ _ ?_ (fun hHeld2 => ?_)
          · exact (fun HB => ⟨HB, (HB.cell (p := ⟨v2.heap.size, 0, none⟩) HLB.out).trans HX0.out, (HB.cell (p := ⟨v2.heap.size, 1, none⟩) HLB.out).trans HX1.out⟩) ((hHeld.1.setCell (p := ⟨ga, 0, none⟩) GA.out _).setCell (p := ⟨ga, 1, none⟩) GA.out _)
          clear hK K
          clear z0 z1 zf0 zf1
          have OP1 := Lib.hid (show ((X4.setCell ⟨ga, 0, none⟩ (.int .u8 mi)).setCell ⟨ga, 1, none⟩ (.slice qp np cp)).ownsRow _ 51 2 (.slice qp np cp) np _ from own_box16 ZA.out (by decide) OP.out [.int .u8 mi, .slice qp np cp])
          have OQ1 := Lib.hid (show ((X4.setCell ⟨ga, 0, none⟩ (.int .u8 mi)).setCell ⟨ga, 1, none⟩ (.slice qp np cp)).ownsRow _ 51 2 (.slice qt nt ct) nt _ from own_box16 ZA.out (by decide) OQ.out [.int .u8 mi, .slice qp np cp])
          have ZN := Lib.hid (show ((X4.setCell ⟨ga, 0, none⟩ (.int .u8 mi)).setCell ⟨ga, 1, none⟩ (.slice qp np cp)).heap[ga]? = some (.cells #[.int .u8 mi, .slice qp np cp] 24 (0, 0)) from by have hz2 := ZA.out; simp [World.setCell, Array.getElem?_modify, hz2])
          have ZO := Lib.hid (show ((X4.setCell ⟨ga, 0, none⟩ (.int .u8 mi)).setCell ⟨ga, 1, none⟩ (.slice qp np cp)).heap[gb]? = _ from ((heap_setCell_other _ ⟨ga, 1, none⟩ gb _ (fun e => HNE.out e.symm)).trans (heap_setCell_other _ ⟨ga, 0, none⟩ gb _ (fun e => HNE.out e.symm))).trans ZB.out)
          generalize (X4.setCell ⟨ga, 0, none⟩ (.int .u8 mi)).setCell ⟨ga, 1, none⟩ (.slice qp np cp) = X5 at OP1 OQ1 ZN ZO hHeld2 ⊢
          clear ZA ZB OP OQ hHeld
          have OP := OP1
          have OQ := OQ1
          have ZA := ZN
          have ZB := ZO
          have hHeld := hHeld2
          clear OP1 OQ1 ZN ZO hHeld2
          refine wpAnyH_ready (rs := [10]) (by kernel_rfl) (List.cons_ne_nil _ _) ?_
          refine AllReadyH.cons rfl (fun K hK => ?_) AllReadyH.nil
          have z0 := (cell_of_row X5 gb 0 _ _ (0, 0) ZB.out).trans (show _ = some (Value.int .u8 0) from rfl)
          have z1 := (cell_of_row X5 gb 1 _ _ (0, 0) ZB.out).trans (show _ = some (Value.slice none 0 0) from rfl)
          have zf0 := frozen_of_row X5 gb 0 _ _ ZB.out
          have zf1 := frozen_of_row X5 gb 1 _ _ ZB.out
          go_simp
          refine hK.out _ _ ?_ (fun hHeld2 => ?_)
          · exact (fun HB => ⟨HB, (HB.cell (p := ⟨v2.heap.size, 0, none⟩) HLB.out).trans HX0.out, (HB.cell (p := ⟨v2.heap.size, 1, none⟩) HLB.out).trans HX1.out⟩) ((hHeld.1.setCell (p := ⟨gb, 0, none⟩) GB.out _).setCell (p := ⟨gb, 1, none⟩) GB.out _)
          clear hK K
          clear z0 z1 zf0 zf1
          have OP1 := Lib.hid (show ((X5.setCell ⟨gb, 0, none⟩ (.int .u8 mi)).setCell ⟨gb, 1, none⟩ (.slice qt nt ct)).ownsRow _ 51 2 (.slice qp np cp) np _ from own_box16 ZB.out (by decide) OP.out [.int .u8 mi, .slice qt nt ct])
          have OQ1 := Lib.hid (show ((X5.setCell ⟨gb, 0, none⟩ (.int .u8 mi)).setCell ⟨gb, 1, none⟩ (.slice qt nt ct)).ownsRow _ 51 2 (.slice qt nt ct) nt _ from own_box16 ZB.out (by decide) OQ.out [.int .u8 mi, .slice qt nt ct])
          have ZN := Lib.hid (show ((X5.setCell ⟨gb, 0, none⟩ (.int .u8 mi)).setCell ⟨gb, 1, none⟩ (.slice qt nt ct)).heap[gb]? = some (.cells #[.int .u8 mi, .slice qt nt ct] 24 (0, 0)) from by have hz2 := ZB.out; simp [World.setCell, Array.getElem?_modify, hz2])
          have ZO := Lib.hid (show ((X5.setCell ⟨gb, 0, none⟩ (.int .u8 mi)).setCell ⟨gb, 1, none⟩ (.slice qt nt ct)).heap[ga]? = _ from ((heap_setCell_other _ ⟨gb, 1, none⟩ ga _ HNE.out).trans (heap_setCell_other _ ⟨gb, 0, none⟩ ga _ HNE.out)).trans ZA.out)
          generalize (X5.setCell ⟨gb, 0, none⟩ (.int .u8 mi)).setCell ⟨gb, 1, none⟩ (.slice qt nt ct) = X6 at OP1 OQ1 ZN ZO hHeld2 ⊢
          clear ZB ZA OP OQ hHeld
          have OP := OP1
          have OQ := OQ1
          have ZB := ZN
          have ZA := ZO
          have hHeld := hHeld2
          clear OP1 OQ1 ZN ZO hHeld2
          refine wpAnyH_done (by kernel_rfl) ?_ _
          exact KEY X6 ga gb qp np cp qt nt ct ⟨hHeld.1, ZA.out, ZB.out, GA.out, GB.out, HNE.out, NP.out, NQ.out, OP.out, Bt, HBt.out, OQ.out, SEP.out⟩
        refine AllReadyH.cons rfl (fun K hK => ?_) ?_
        · go_simp
          refine hK.out _ _ ?_ (fun hHeld2 => ?_)
          · exact ⟨hHeld.1.trans ((below16 X2 (.cells #[.int .u8 0, .slice none 0 0] 24)).mono hHeld.1.size), ((below16 X2 (.cells #[.int .u8 0, .slice none 0 0] 24)).cell (World.block_lt_of_cell? _ _ hHeld.2.1)).trans hHeld.2.1, ((below16 X2 (.cells #[.int .u8 0, .slice none 0 0] 24)).cell (World.block_lt_of_cell? _ _ hHeld.2.2)).trans hHeld.2.2⟩
          clear hK K
          obtain ⟨X3, hN⟩ : ∃ X, X = X2.alloc (.cells #[.int .u8 0, .slice none 0 0] 24) := ⟨_, rfl⟩
          have b : Below X2.heap.size X2 X3 := hN ▸ below16 X2 (.cells #[.int .u8 0, .slice none 0 0] 24)
          have ZA0 := Lib.hid (show X3.heap[X2.heap.size]? = some (.cells #[.int .u8 0, .slice none 0 0] 24 (0, 0)) from hN ▸ heap_alloc_new X2 _)
          rw [← hN] at hHeld2 ⊢
          have HNE := Lib.hid (show X2.heap.size ≠ gb from Nat.ne_of_gt (blk_lt ZB.out))
          have OP := Lib.hid (owns_on16 OP.out b)
          have ZB := Lib.hid (blk_on ZB.out b)
          obtain ⟨ga, hg⟩ : ∃ g, g = X2.heap.size := ⟨_, rfl⟩
          have GA := Lib.hid (show v4.heap.size ≤ ga from hg ▸ hHeld.1.size)
          rw [← hg] at ZA0 HNE ⊢
          have ZA := ZA0
          clear ZA0 b hN hg
          have hHeld := hHeld2
          clear hHeld2
          refine wpAnyH_ready (rs := [6]) (by kernel_rfl) (List.cons_ne_nil _ _) ?_
          refine AllReadyH.cons rfl (fun K hK => ?_) AllReadyH.nil
          go_simp
          go_wp2_with (go_at_call 22; ((with_reducible refine (HTA.out _ q2 n2 c2 (HON.out _ _ (HON.out _ _ HG.out B4.out) hHeld.1) N2.out (O4.out.on hHeld.1)).mono ?_); rintro e X4 ⟨qt, nt, ct, rfl, lq, oq, bq⟩); have NQ := Lib.hid lq; clear lq)
          obtain ⟨Bt, hBt⟩ : ∃ b, b = X3.heap.size := ⟨_, rfl⟩
          rw [← hBt] at oq
          have SEP := Lib.hid (show ∀ j, qp = some ⟨j, 0, none⟩ → j < Bt from hBt ▸ own_sep16 OP.out)
          have HBt := Lib.hid (show v4.heap.size ≤ Bt from hBt ▸ hHeld.1.size)
          have OQ := Lib.hid oq
          have b := bq
          clear oq bq hBt
          have OP := Lib.hid (owns_on16 OP.out b)
          have ZA := Lib.hid (blk_on ZA.out b)
          have ZB := Lib.hid (blk_on ZB.out b)
          refine hK.out _ _ ?_ (fun hHeld2 => ?_)
          · exact ⟨hHeld.1.trans (b.mono hHeld.1.size), (b.cell (World.block_lt_of_cell? _ _ hHeld.2.1)).trans hHeld.2.1, (b.cell (World.block_lt_of_cell? _ _ hHeld.2.2)).trans hHeld.2.2⟩
          clear hK K
          clear b
          have hHeld := hHeld2
          clear hHeld2
          refine wpAnyH_ready (rs := [9]) (by kernel_rfl) (List.cons_ne_nil _ _) ?_
          refine AllReadyH.cons rfl (fun K hK => ?_) AllReadyH.nil
          have z0 := (cell_of_row X4 ga 0 _ _ (0, 0) ZA.out).trans (show _ = some (Value.int .u8 0) from rfl)
          have z1 := (cell_of_row X4 ga 1 _ _ (0, 0) ZA.out).trans (show _ = some (Value.slice none 0 0) from rfl)
          have zf0 := frozen_of_row X4 ga 0 _ _ ZA.out
          have zf1 := frozen_of_row X4 ga 1 _ _ ZA.out
          go_simp
          refine hK.out _ _ ?_ (fun hHeld2 => ?_)
          · exact (fun HB => ⟨HB, (HB.cell (p := ⟨v2.heap.size, 0, none⟩) HLB.out).trans HX0.out, (HB.cell (p := ⟨v2.heap.size, 1, none⟩) HLB.out).trans HX1.out⟩) ((hHeld.1.setCell (p := ⟨ga, 0, none⟩) GA.out _).setCell (p := ⟨ga, 1, none⟩) GA.out _)
          clear hK K
          clear z0 z1 zf0 zf1
          have OP1 := Lib.hid (show ((X4.setCell ⟨ga, 0, none⟩ (.int .u8 mi)).setCell ⟨ga, 1, none⟩ (.slice qp np cp)).ownsRow _ 51 2 (.slice qp np cp) np _ from own_box16 ZA.out (by decide) OP.out [.int .u8 mi, .slice qp np cp])
          have OQ1 := Lib.hid (show ((X4.setCell ⟨ga, 0, none⟩ (.int .u8 mi)).setCell ⟨ga, 1, none⟩ (.slice qp np cp)).ownsRow _ 51 2 (.slice qt nt ct) nt _ from own_box16 ZA.out (by decide) OQ.out [.int .u8 mi, .slice qp np cp])
          have ZN := Lib.hid (show ((X4.setCell ⟨ga, 0, none⟩ (.int .u8 mi)).setCell ⟨ga, 1, none⟩ (.slice qp np cp)).heap[ga]? = some (.cells #[.int .u8 mi, .slice qp np cp] 24 (0, 0)) from by have hz2 := ZA.out; simp [World.setCell, Array.getElem?_modify, hz2])
          have ZO := Lib.hid (show ((X4.setCell ⟨ga, 0, none⟩ (.int .u8 mi)).setCell ⟨ga, 1, none⟩ (.slice qp np cp)).heap[gb]? = _ from ((heap_setCell_other _ ⟨ga, 1, none⟩ gb _ (fun e => HNE.out e.symm)).trans (heap_setCell_other _ ⟨ga, 0, none⟩ gb _ (fun e => HNE.out e.symm))).trans ZB.out)
          generalize (X4.setCell ⟨ga, 0, none⟩ (.int .u8 mi)).setCell ⟨ga, 1, none⟩ (.slice qp np cp) = X5 at OP1 OQ1 ZN ZO hHeld2 ⊢
          clear ZA ZB OP OQ hHeld
          have OP := OP1
          have OQ := OQ1
          have ZA := ZN
          have ZB := ZO
          have hHeld := hHeld2
          clear OP1 OQ1 ZN ZO hHeld2
          refine wpAnyH_ready (rs := [10]) (by kernel_rfl) (List.cons_ne_nil _ _) ?_
          refine AllReadyH.cons rfl (fun K hK => ?_) AllReadyH.nil
          have z0 := (cell_of_row X5 gb 0 _ _ (0, 0) ZB.out).trans (show _ = some (Value.int .u8 0) from rfl)
          have z1 := (cell_of_row X5 gb 1 _ _ (0, 0) ZB.out).trans (show _ = some (Value.slice none 0 0) from rfl)
          have zf0 := frozen_of_row X5 gb 0 _ _ ZB.out
          have zf1 := frozen_of_row X5 gb 1 _ _ ZB.out
          go_simp
          refine hK.out _ _ ?_ (fun hHeld2 => ?_)
          · exact (fun HB => ⟨HB, (HB.cell (p := ⟨v2.heap.size, 0, none⟩) HLB.out).trans HX0.out, (HB.cell (p := ⟨v2.heap.size, 1, none⟩) HLB.out).trans HX1.out⟩) ((hHeld.1.setCell (p := ⟨gb, 0, none⟩) GB.out _).setCell (p := ⟨gb, 1, none⟩) GB.out _)
          clear hK K
          clear z0 z1 zf0 zf1
          have OP1 := Lib.hid (show ((X5.setCell ⟨gb, 0, none⟩ (.int .u8 mi)).setCell ⟨gb, 1, none⟩ (.slice qt nt ct)).ownsRow _ 51 2 (.slice qp np cp) np _ from own_box16 ZB.out (by decide) OP.out [.int .u8 mi, .slice qt nt ct])
          have OQ1 := Lib.hid (show ((X5.setCell ⟨gb, 0, none⟩ (.int .u8 mi)).setCell ⟨gb, 1, none⟩ (.slice qt nt ct)).ownsRow _ 51 2 (.slice qt nt ct) nt _ from own_box16 ZB.out (by decide) OQ.out [.int .u8 mi, .slice qt nt ct])
          have ZN := Lib.hid (show ((X5.setCell ⟨gb, 0, none⟩ (.int .u8 mi)).setCell ⟨gb, 1, none⟩ (.slice qt nt ct)).heap[gb]? = some (.cells #[.int .u8 mi, .slice qt nt ct] 24 (0, 0)) from by have hz2 := ZB.out; simp [World.setCell, Array.getElem?_modify, hz2])
          have ZO := Lib.hid (show ((X5.setCell ⟨gb, 0, none⟩ (.int .u8 mi)).setCell ⟨gb, 1, none⟩ (.slice qt nt ct)).heap[ga]? = _ from ((heap_setCell_other _ ⟨gb, 1, none⟩ ga _ HNE.out).trans (heap_setCell_other _ ⟨gb, 0, none⟩ ga _ HNE.out)).trans ZA.out)
          generalize (X5.setCell ⟨gb, 0, none⟩ (.int .u8 mi)).setCell ⟨gb, 1, none⟩ (.slice qt nt ct) = X6 at OP1 OQ1 ZN ZO hHeld2 ⊢
          clear ZB ZA OP OQ hHeld
          have OP := OP1
          have OQ := OQ1
          have ZB := ZN
          have ZA := ZO
          have hHeld := hHeld2
          clear OP1 OQ1 ZN ZO hHeld2
          refine wpAnyH_done (by kernel_rfl) ?_ _
          exact KEY X6 ga gb qp np cp qt nt ct ⟨hHeld.1, ZA.out, ZB.out, GA.out, GB.out, HNE.out, NP.out, NQ.out, OP.out, Bt, HBt.out, OQ.out, SEP.out⟩
        exact AllReadyH.nil
      exact AllReadyH.nil
    refine AllReadyH.cons rfl (fun K hK => ?_) ?_
    · go_simp
      refine hK.out _ _ ?_ (fun hHeld2 => ?_)
      · exact ⟨hHeld.1.trans ((below16 X0 (.cells #[.int .u8 0, .slice none 0 0] 24)).mono hHeld.1.size), ((below16 X0 (.cells #[.int .u8 0, .slice none 0 0] 24)).cell (World.block_lt_of_cell? _ _ hHeld.2.1)).trans hHeld.2.1, ((below16 X0 (.cells #[.int .u8 0, .slice none 0 0] 24)).cell (World.block_lt_of_cell? _ _ hHeld.2.2)).trans hHeld.2.2⟩
      clear hK K
      obtain ⟨X1, hN⟩ : ∃ X, X = X0.alloc (.cells #[.int .u8 0, .slice none 0 0] 24) := ⟨_, rfl⟩
      have b : Below X0.heap.size X0 X1 := hN ▸ below16 X0 (.cells #[.int .u8 0, .slice none 0 0] 24)
      have ZA0 := Lib.hid (show X1.heap[X0.heap.size]? = some (.cells #[.int .u8 0, .slice none 0 0] 24 (0, 0)) from hN ▸ heap_alloc_new X0 _)
      rw [← hN] at hHeld2 ⊢
      obtain ⟨ga, hg⟩ : ∃ g, g = X0.heap.size := ⟨_, rfl⟩
      have GA := Lib.hid (show v4.heap.size ≤ ga from hg ▸ hHeld.1.size)
      rw [← hg] at ZA0 ⊢
      have ZA := ZA0
      clear ZA0 b hN hg
      have hHeld := hHeld2
      clear hHeld2
      refine wpAnyH_ready (rs := [3, 8]) (by kernel_rfl) (List.cons_ne_nil _ _) ?_
      refine AllReadyH.cons rfl (fun K hK => ?_) ?_
      · go_simp
        go_wp2_with (go_at_call 21; ((with_reducible refine (HPU.out _ q2 n2 c2 (HON.out _ _ (HON.out _ _ HG.out B4.out) hHeld.1) N2.out (O4.out.on hHeld.1)).mono ?_); rintro e X2 ⟨qp, np, cp, rfl, lp, op, bp⟩); have NP := Lib.hid lp; clear lp)
        have OP := Lib.hid (owns_low16 op hHeld.1.size)
        have b := bp
        clear op bp
        have ZA := Lib.hid (blk_on ZA.out b)
        refine hK.out _ _ ?_ (fun hHeld2 => ?_)
        · exact ⟨hHeld.1.trans (b.mono hHeld.1.size), (b.cell (World.block_lt_of_cell? _ _ hHeld.2.1)).trans hHeld.2.1, (b.cell (World.block_lt_of_cell? _ _ hHeld.2.2)).trans hHeld.2.2⟩
        clear hK K
        clear b
        have hHeld := hHeld2
        clear hHeld2
        refine wpAnyH_ready (rs := [6, 8]) (by kernel_rfl) (List.cons_ne_nil _ _) ?_
        refine AllReadyH.cons rfl (fun K hK => ?_) ?_
        · go_simp
          go_wp2_with (go_at_call 22; ((with_reducible refine (HTA.out _ q2 n2 c2 (HON.out _ _ (HON.out _ _ HG.out B4.out) hHeld.1) N2.out (O4.out.on hHeld.1)).mono ?_); rintro e X3 ⟨qt, nt, ct, rfl, lq, oq, bq⟩); have NQ := Lib.hid lq; clear lq)
          obtain ⟨Bt, hBt⟩ : ∃ b, b = X2.heap.size := ⟨_, rfl⟩
          rw [← hBt] at oq
          have SEP := Lib.hid (show ∀ j, qp = some ⟨j, 0, none⟩ → j < Bt from hBt ▸ own_sep16 OP.out)
          have HBt := Lib.hid (show v4.heap.size ≤ Bt from hBt ▸ hHeld.1.size)
          have OQ := Lib.hid oq
          have b := bq
          clear oq bq hBt
          have OP := Lib.hid (owns_on16 OP.out b)
          have ZA := Lib.hid (blk_on ZA.out b)
          refine hK.out _ _ ?_ (fun hHeld2 => ?_)
          · exact ⟨hHeld.1.trans (b.mono hHeld.1.size), (b.cell (World.block_lt_of_cell? _ _ hHeld.2.1)).trans hHeld.2.1, (b.cell (World.block_lt_of_cell? _ _ hHeld.2.2)).trans hHeld.2.2⟩
          clear hK K
          clear b
          have hHeld := hHeld2
          clear hHeld2
          refine wpAnyH_ready (rs := [8]) (by kernel_rfl) (List.cons_ne_nil _ _) ?_
          refine AllReadyH.cons rfl (fun K hK => ?_) AllReadyH.nil
          go_simp
          refine hK.out _ _ ?_ (fun hHeld2 => ?_)
          · exact ⟨hHeld.1.trans ((below16 X3 (.cells #[.int .u8 0, .slice none 0 0] 24)).mono hHeld.1.size), ((below16 X3 (.cells #[.int .u8 0, .slice none 0 0] 24)).cell (World.block_lt_of_cell? _ _ hHeld.2.1)).trans hHeld.2.1, ((below16 X3 (.cells #[.int .u8 0, .slice none 0 0] 24)).cell (World.block_lt_of_cell? _ _ hHeld.2.2)).trans hHeld.2.2⟩
          clear hK K
          obtain ⟨X4, hN⟩ : ∃ X, X = X3.alloc (.cells #[.int .u8 0, .slice none 0 0] 24) := ⟨_, rfl⟩
          have b : Below X3.heap.size X3 X4 := hN ▸ below16 X3 (.cells #[.int .u8 0, .slice none 0 0] 24)
          have ZB0 := Lib.hid (show X4.heap[X3.heap.size]? = some (.cells #[.int .u8 0, .slice none 0 0] 24 (0, 0)) from hN ▸ heap_alloc_new X3 _)
          rw [← hN] at hHeld2 ⊢
          have HNE := Lib.hid (show ga ≠ X3.heap.size from Nat.ne_of_lt (blk_lt ZA.out))
          have OP := Lib.hid (owns_on16 OP.out b)
          have OQ := Lib.hid (owns_on16 OQ.out b)
          have ZA := Lib.hid (blk_on ZA.out b)
          obtain ⟨gb, hg⟩ : ∃ g, g = X3.heap.size := ⟨_, rfl⟩
          have GB := Lib.hid (show v4.heap.size ≤ gb from hg ▸ hHeld.1.size)
          rw [← hg] at ZB0 HNE ⊢
          have ZB := ZB0
          clear ZB0 b hN hg
          have hHeld := hHeld2
          clear hHeld2
          refine wpAnyH_ready (rs := [9]) (by kernel_rfl) (List.cons_ne_nil _ _) ?_
          refine AllReadyH.cons rfl (fun K hK => ?_) AllReadyH.nil
          have z0 := (cell_of_row X4 ga 0 _ _ (0, 0) ZA.out).trans (show _ = some (Value.int .u8 0) from rfl)
          have z1 := (cell_of_row X4 ga 1 _ _ (0, 0) ZA.out).trans (show _ = some (Value.slice none 0 0) from rfl)
          have zf0 := frozen_of_row X4 ga 0 _ _ ZA.out
          have zf1 := frozen_of_row X4 ga 1 _ _ ZA.out
          go_simp
          refine hK.out _ _ ?_ (fun hHeld2 => ?_)
          · exact (fun HB => ⟨HB, (HB.cell (p := ⟨v2.heap.size, 0, none⟩) HLB.out).trans HX0.out, (HB.cell (p := ⟨v2.heap.size, 1, none⟩) HLB.out).trans HX1.out⟩) ((hHeld.1.setCell (p := ⟨ga, 0, none⟩) GA.out _).setCell (p := ⟨ga, 1, none⟩) GA.out _)
          clear hK K
          clear z0 z1 zf0 zf1
          have OP1 := Lib.hid (show ((X4.setCell ⟨ga, 0, none⟩ (.int .u8 mi)).setCell ⟨ga, 1, none⟩ (.slice qp np cp)).ownsRow _ 51 2 (.slice qp np cp) np _ from own_box16 ZA.out (by decide) OP.out [.int .u8 mi, .slice qp np cp])
          have OQ1 := Lib.hid (show ((X4.setCell ⟨ga, 0, none⟩ (.int .u8 mi)).setCell ⟨ga, 1, none⟩ (.slice qp np cp)).ownsRow _ 51 2 (.slice qt nt ct) nt _ from own_box16 ZA.out (by decide) OQ.out [.int .u8 mi, .slice qp np cp])
          have ZN := Lib.hid (show ((X4.setCell ⟨ga, 0, none⟩ (.int .u8 mi)).setCell ⟨ga, 1, none⟩ (.slice qp np cp)).heap[ga]? = some (.cells #[.int .u8 mi, .slice qp np cp] 24 (0, 0)) from by have hz2 := ZA.out; simp [World.setCell, Array.getElem?_modify, hz2])
          have ZO := Lib.hid (show ((X4.setCell ⟨ga, 0, none⟩ (.int .u8 mi)).setCell ⟨ga, 1, none⟩ (.slice qp np cp)).heap[gb]? = _ from ((heap_setCell_other _ ⟨ga, 1, none⟩ gb _ (fun e => HNE.out e.symm)).trans (heap_setCell_other _ ⟨ga, 0, none⟩ gb _ (fun e => HNE.out e.symm))).trans ZB.out)
          generalize (X4.setCell ⟨ga, 0, none⟩ (.int .u8 mi)).setCell ⟨ga, 1, none⟩ (.slice qp np cp) = X5 at OP1 OQ1 ZN ZO hHeld2 ⊢
          clear ZA ZB OP OQ hHeld
          have OP := OP1
          have OQ := OQ1
          have ZA := ZN
          have ZB := ZO
          have hHeld := hHeld2
          clear OP1 OQ1 ZN ZO hHeld2
          refine wpAnyH_ready (rs := [10]) (by kernel_rfl) (List.cons_ne_nil _ _) ?_
          refine AllReadyH.cons rfl (fun K hK => ?_) AllReadyH.nil
          have z0 := (cell_of_row X5 gb 0 _ _ (0, 0) ZB.out).trans (show _ = some (Value.int .u8 0) from rfl)
          have z1 := (cell_of_row X5 gb 1 _ _ (0, 0) ZB.out).trans (show _ = some (Value.slice none 0 0) from rfl)
          have zf0 := frozen_of_row X5 gb 0 _ _ ZB.out
          have zf1 := frozen_of_row X5 gb 1 _ _ ZB.out
          go_simp
          refine hK.out _ _ ?_ (fun hHeld2 => ?_)
          · exact (fun HB => ⟨HB, (HB.cell (p := ⟨v2.heap.size, 0, none⟩) HLB.out).trans HX0.out, (HB.cell (p := ⟨v2.heap.size, 1, none⟩) HLB.out).trans HX1.out⟩) ((hHeld.1.setCell (p := ⟨gb, 0, none⟩) GB.out _).setCell (p := ⟨gb, 1, none⟩) GB.out _)
          clear hK K
          clear z0 z1 zf0 zf1
          have OP1 := Lib.hid (show ((X5.setCell ⟨gb, 0, none⟩ (.int .u8 mi)).setCell ⟨gb, 1, none⟩ (.slice qt nt ct)).ownsRow _ 51 2 (.slice qp np cp) np _ from own_box16 ZB.out (by decide) OP.out [.int .u8 mi, .slice qt nt ct])
          have OQ1 := Lib.hid (show ((X5.setCell ⟨gb, 0, none⟩ (.int .u8 mi)).setCell ⟨gb, 1, none⟩ (.slice qt nt ct)).ownsRow _ 51 2 (.slice qt nt ct) nt _ from own_box16 ZB.out (by decide) OQ.out [.int .u8 mi, .slice qt nt ct])
          have ZN := Lib.hid (show ((X5.setCell ⟨gb, 0, none⟩ (.int .u8 mi)).setCell ⟨gb, 1, none⟩ (.slice qt nt ct)).heap[gb]? = some (.cells #[.int .u8 mi, .slice qt nt ct] 24 (0, 0)) from by have hz2 := ZB.out; simp [World.setCell, Array.getElem?_modify, hz2])
          have ZO := Lib.hid (show ((X5.setCell ⟨gb, 0, none⟩ (.int .u8 mi)).setCell ⟨gb, 1, none⟩ (.slice qt nt ct)).heap[ga]? = _ from ((heap_setCell_other _ ⟨gb, 1, none⟩ ga _ HNE.out).trans (heap_setCell_other _ ⟨gb, 0, none⟩ ga _ HNE.out)).trans ZA.out)
          generalize (X5.setCell ⟨gb, 0, none⟩ (.int .u8 mi)).setCell ⟨gb, 1, none⟩ (.slice qt nt ct) = X6 at OP1 OQ1 ZN ZO hHeld2 ⊢
          clear ZB ZA OP OQ hHeld
          have OP := OP1
          have OQ := OQ1
          have ZB := ZN
          have ZA := ZO
          have hHeld := hHeld2
          clear OP1 OQ1 ZN ZO hHeld2
          refine wpAnyH_done (by kernel_rfl) ?_ _
          exact KEY X6 ga gb qp np cp qt nt ct ⟨hHeld.1, ZA.out, ZB.out, GA.out, GB.out, HNE.out, NP.out, NQ.out, OP.out, Bt, HBt.out, OQ.out, SEP.out⟩
        refine AllReadyH.cons rfl (fun K hK => ?_) ?_
        · go_simp
          refine hK.out _ _ ?_ (fun hHeld2 => ?_)
          · exact ⟨hHeld.1.trans ((below16 X2 (.cells #[.int .u8 0, .slice none 0 0] 24)).mono hHeld.1.size), ((below16 X2 (.cells #[.int .u8 0, .slice none 0 0] 24)).cell (World.block_lt_of_cell? _ _ hHeld.2.1)).trans hHeld.2.1, ((below16 X2 (.cells #[.int .u8 0, .slice none 0 0] 24)).cell (World.block_lt_of_cell? _ _ hHeld.2.2)).trans hHeld.2.2⟩
          clear hK K
          obtain ⟨X3, hN⟩ : ∃ X, X = X2.alloc (.cells #[.int .u8 0, .slice none 0 0] 24) := ⟨_, rfl⟩
          have b : Below X2.heap.size X2 X3 := hN ▸ below16 X2 (.cells #[.int .u8 0, .slice none 0 0] 24)
          have ZB0 := Lib.hid (show X3.heap[X2.heap.size]? = some (.cells #[.int .u8 0, .slice none 0 0] 24 (0, 0)) from hN ▸ heap_alloc_new X2 _)
          rw [← hN] at hHeld2 ⊢
          have HNE := Lib.hid (show ga ≠ X2.heap.size from Nat.ne_of_lt (blk_lt ZA.out))
          have OP := Lib.hid (owns_on16 OP.out b)
          have ZA := Lib.hid (blk_on ZA.out b)
          obtain ⟨gb, hg⟩ : ∃ g, g = X2.heap.size := ⟨_, rfl⟩
          have GB := Lib.hid (show v4.heap.size ≤ gb from hg ▸ hHeld.1.size)
          rw [← hg] at ZB0 HNE ⊢
          have ZB := ZB0
          clear ZB0 b hN hg
          have hHeld := hHeld2
          clear hHeld2
          refine wpAnyH_ready (rs := [6]) (by kernel_rfl) (List.cons_ne_nil _ _) ?_
          refine AllReadyH.cons rfl (fun K hK => ?_) AllReadyH.nil
          go_simp
          go_wp2_with (go_at_call 22; ((with_reducible refine (HTA.out _ q2 n2 c2 (HON.out _ _ (HON.out _ _ HG.out B4.out) hHeld.1) N2.out (O4.out.on hHeld.1)).mono ?_); rintro e X4 ⟨qt, nt, ct, rfl, lq, oq, bq⟩); have NQ := Lib.hid lq; clear lq)
          obtain ⟨Bt, hBt⟩ : ∃ b, b = X3.heap.size := ⟨_, rfl⟩
          rw [← hBt] at oq
          have SEP := Lib.hid (show ∀ j, qp = some ⟨j, 0, none⟩ → j < Bt from hBt ▸ own_sep16 OP.out)
          have HBt := Lib.hid (show v4.heap.size ≤ Bt from hBt ▸ hHeld.1.size)
          have OQ := Lib.hid oq
          have b := bq
          clear oq bq hBt
          have OP := Lib.hid (owns_on16 OP.out b)
          have ZA := Lib.hid (blk_on ZA.out b)
          have ZB := Lib.hid (blk_on ZB.out b)
          refine hK.out _ _ ?_ (fun hHeld2 => ?_)
          · exact ⟨hHeld.1.trans (b.mono hHeld.1.size), (b.cell (World.block_lt_of_cell? _ _ hHeld.2.1)).trans hHeld.2.1, (b.cell (World.block_lt_of_cell? _ _ hHeld.2.2)).trans hHeld.2.2⟩
          clear hK K
          clear b
          have hHeld := hHeld2
          clear hHeld2
          refine wpAnyH_ready (rs := [9]) (by kernel_rfl) (List.cons_ne_nil _ _) ?_
          refine AllReadyH.cons rfl (fun K hK => ?_) AllReadyH.nil
          have z0 := (cell_of_row X4 ga 0 _ _ (0, 0) ZA.out).trans (show _ = some (Value.int .u8 0) from rfl)
          have z1 := (cell_of_row X4 ga 1 _ _ (0, 0) ZA.out).trans (show _ = some (Value.slice none 0 0) from rfl)
          have zf0 := frozen_of_row X4 ga 0 _ _ ZA.out
          have zf1 := frozen_of_row X4 ga 1 _ _ ZA.out
          go_simp
          refine hK.out _ _ ?_ (fun hHeld2 => ?_)
          · exact (fun HB => ⟨HB, (HB.cell (p := ⟨v2.heap.size, 0, none⟩) HLB.out).trans HX0.out, (HB.cell (p := ⟨v2.heap.size, 1, none⟩) HLB.out).trans HX1.out⟩) ((hHeld.1.setCell (p := ⟨ga, 0, none⟩) GA.out _).setCell (p := ⟨ga, 1, none⟩) GA.out _)
          clear hK K
          clear z0 z1 zf0 zf1
          have OP1 := Lib.hid (show ((X4.setCell ⟨ga, 0, none⟩ (.int .u8 mi)).setCell ⟨ga, 1, none⟩ (.slice qp np cp)).ownsRow _ 51 2 (.slice qp np cp) np _ from own_box16 ZA.out (by decide) OP.out [.int .u8 mi, .slice qp np cp])
          have OQ1 := Lib.hid (show ((X4.setCell ⟨ga, 0, none⟩ (.int .u8 mi)).setCell ⟨ga, 1, none⟩ (.slice qp np cp)).ownsRow _ 51 2 (.slice qt nt ct) nt _ from own_box16 ZA.out (by decide) OQ.out [.int .u8 mi, .slice qp np cp])
          have ZN := Lib.hid (show ((X4.setCell ⟨ga, 0, none⟩ (.int .u8 mi)).setCell ⟨ga, 1, none⟩ (.slice qp np cp)).heap[ga]? = some (.cells #[.int .u8 mi, .slice qp np cp] 24 (0, 0)) from by have hz2 := ZA.out; simp [World.setCell, Array.getElem?_modify, hz2])
          have ZO := Lib.hid (show ((X4.setCell ⟨ga, 0, none⟩ (.int .u8 mi)).setCell ⟨ga, 1, none⟩ (.slice qp np cp)).heap[gb]? = _ from ((heap_setCell_other _ ⟨ga, 1, none⟩ gb _ (fun e => HNE.out e.symm)).trans (heap_setCell_other _ ⟨ga, 0, none⟩ gb _ (fun e => HNE.out e.symm))).trans ZB.out)
          generalize (X4.setCell ⟨ga, 0, none⟩ (.int .u8 mi)).setCell ⟨ga, 1, none⟩ (.slice qp np cp) = X5 at OP1 OQ1 ZN ZO hHeld2 ⊢
          clear ZA ZB OP OQ hHeld
          have OP := OP1
          have OQ := OQ1
          have ZA := ZN
          have ZB := ZO
          have hHeld := hHeld2
          clear OP1 OQ1 ZN ZO hHeld2
          refine wpAnyH_ready (rs := [10]) (by kernel_rfl) (List.cons_ne_nil _ _) ?_
          refine AllReadyH.cons rfl (fun K hK => ?_) AllReadyH.nil
          have z0 := (cell_of_row X5 gb 0 _ _ (0, 0) ZB.out).trans (show _ = some (Value.int .u8 0) from rfl)
          have z1 := (cell_of_row X5 gb 1 _ _ (0, 0) ZB.out).trans (show _ = some (Value.slice none 0 0) from rfl)
          have zf0 := frozen_of_row X5 gb 0 _ _ ZB.out
          have zf1 := frozen_of_row X5 gb 1 _ _ ZB.out
          go_simp
          refine hK.out _ _ ?_ (fun hHeld2 => ?_)
          · exact (fun HB => ⟨HB, (HB.cell (p := ⟨v2.heap.size, 0, none⟩) HLB.out).trans HX0.out, (HB.cell (p := ⟨v2.heap.size, 1, none⟩) HLB.out).trans HX1.out⟩) ((hHeld.1.setCell (p := ⟨gb, 0, none⟩) GB.out _).setCell (p := ⟨gb, 1, none⟩) GB.out _)
          clear hK K
          clear z0 z1 zf0 zf1
          have OP1 := Lib.hid (show ((X5.setCell ⟨gb, 0, none⟩ (.int .u8 mi)).setCell ⟨gb, 1, none⟩ (.slice qt nt ct)).ownsRow _ 51 2 (.slice qp np cp) np _ from own_box16 ZB.out (by decide) OP.out [.int .u8 mi, .slice qt nt ct])
          have OQ1 := Lib.hid (show ((X5.setCell ⟨gb, 0, none⟩ (.int .u8 mi)).setCell ⟨gb, 1, none⟩ (.slice qt nt ct)).ownsRow _ 51 2 (.slice qt nt ct) nt _ from own_box16 ZB.out (by decide) OQ.out [.int .u8 mi, .slice qt nt ct])
          have ZN := Lib.hid (show ((X5.setCell ⟨gb, 0, none⟩ (.int .u8 mi)).setCell ⟨gb, 1, none⟩ (.slice qt nt ct)).heap[gb]? = some (.cells #[.int .u8 mi, .slice qt nt ct] 24 (0, 0)) from by have hz2 := ZB.out; simp [World.setCell, Array.getElem?_modify, hz2])
          have ZO := Lib.hid (show ((X5.setCell ⟨gb, 0, none⟩ (.int .u8 mi)).setCell ⟨gb, 1, none⟩ (.slice qt nt ct)).heap[ga]? = _ from ((heap_setCell_other _ ⟨gb, 1, none⟩ ga _ HNE.out).trans (heap_setCell_other _ ⟨gb, 0, none⟩ ga _ HNE.out)).trans ZA.out)
          generalize (X5.setCell ⟨gb, 0, none⟩ (.int .u8 mi)).setCell ⟨gb, 1, none⟩ (.slice qt nt ct) = X6 at OP1 OQ1 ZN ZO hHeld2 ⊢
          clear ZB ZA OP OQ hHeld
          have OP := OP1
          have OQ := OQ1
          have ZB := ZN
          have ZA := ZO
          have hHeld := hHeld2
          clear OP1 OQ1 ZN ZO hHeld2
          refine wpAnyH_done (by kernel_rfl) ?_ _
          exact KEY X6 ga gb qp np cp qt nt ct ⟨hHeld.1, ZA.out, ZB.out, GA.out, GB.out, HNE.out, NP.out, NQ.out, OP.out, Bt, HBt.out, OQ.out, SEP.out⟩
        exact AllReadyH.nil
      refine AllReadyH.cons rfl (fun K hK => ?_) ?_
      · go_simp
        refine hK.out _ _ ?_ (fun hHeld2 => ?_)
        · exact ⟨hHeld.1.trans ((below16 X1 (.cells #[.int .u8 0, .slice none 0 0] 24)).mono hHeld.1.size), ((below16 X1 (.cells #[.int .u8 0, .slice none 0 0] 24)).cell (World.block_lt_of_cell? _ _ hHeld.2.1)).trans hHeld.2.1, ((below16 X1 (.cells #[.int .u8 0, .slice none 0 0] 24)).cell (World.block_lt_of_cell? _ _ hHeld.2.2)).trans hHeld.2.2⟩
        clear hK K
        obtain ⟨X2, hN⟩ : ∃ X, X = X1.alloc (.cells #[.int .u8 0, .slice none 0 0] 24) := ⟨_, rfl⟩
        have b : Below X1.heap.size X1 X2 := hN ▸ below16 X1 (.cells #[.int .u8 0, .slice none 0 0] 24)
        have ZB0 := Lib.hid (show X2.heap[X1.heap.size]? = some (.cells #[.int .u8 0, .slice none 0 0] 24 (0, 0)) from hN ▸ heap_alloc_new X1 _)
        rw [← hN] at hHeld2 ⊢
        have HNE := Lib.hid (show ga ≠ X1.heap.size from Nat.ne_of_lt (blk_lt ZA.out))
        have ZA := Lib.hid (blk_on ZA.out b)
        obtain ⟨gb, hg⟩ : ∃ g, g = X1.heap.size := ⟨_, rfl⟩
        have GB := Lib.hid (show v4.heap.size ≤ gb from hg ▸ hHeld.1.size)
        rw [← hg] at ZB0 HNE ⊢
        have ZB := ZB0
        clear ZB0 b hN hg
        have hHeld := hHeld2
        clear hHeld2
        refine wpAnyH_ready (rs := [3]) (by kernel_rfl) (List.cons_ne_nil _ _) ?_
        refine AllReadyH.cons rfl (fun K hK => ?_) AllReadyH.nil
        go_simp
        go_wp2_with (go_at_call 21; ((with_reducible refine (HPU.out _ q2 n2 c2 (HON.out _ _ (HON.out _ _ HG.out B4.out) hHeld.1) N2.out (O4.out.on hHeld.1)).mono ?_); rintro e X3 ⟨qp, np, cp, rfl, lp, op, bp⟩); have NP := Lib.hid lp; clear lp)
        have OP := Lib.hid (owns_low16 op hHeld.1.size)
        have b := bp
        clear op bp
        have ZA := Lib.hid (blk_on ZA.out b)
        have ZB := Lib.hid (blk_on ZB.out b)
        refine hK.out _ _ ?_ (fun hHeld2 => ?_)
        · exact ⟨hHeld.1.trans (b.mono hHeld.1.size), (b.cell (World.block_lt_of_cell? _ _ hHeld.2.1)).trans hHeld.2.1, (b.cell (World.block_lt_of_cell? _ _ hHeld.2.2)).trans hHeld.2.2⟩
        clear hK K
        clear b
        have hHeld := hHeld2
        clear hHeld2
        refine wpAnyH_ready (rs := [6]) (by kernel_rfl) (List.cons_ne_nil _ _) ?_
        refine AllReadyH.cons rfl (fun K hK => ?_) AllReadyH.nil
        go_simp
        go_wp2_with (go_at_call 22; ((with_reducible refine (HTA.out _ q2 n2 c2 (HON.out _ _ (HON.out _ _ HG.out B4.out) hHeld.1) N2.out (O4.out.on hHeld.1)).mono ?_); rintro e X4 ⟨qt, nt, ct, rfl, lq, oq, bq⟩); have NQ := Lib.hid lq; clear lq)
        obtain ⟨Bt, hBt⟩ : ∃ b, b = X3.heap.size := ⟨_, rfl⟩
        rw [← hBt] at oq
        have SEP := Lib.hid (show ∀ j, qp = some ⟨j, 0, none⟩ → j < Bt from hBt ▸ own_sep16 OP.out)
        have HBt := Lib.hid (show v4.heap.size ≤ Bt from hBt ▸ hHeld.1.size)
        have OQ := Lib.hid oq
        have b := bq
        clear oq bq hBt
        have OP := Lib.hid (owns_on16 OP.out b)
        have ZA := Lib.hid (blk_on ZA.out b)
        have ZB := Lib.hid (blk_on ZB.out b)
        refine hK.out _ _ ?_ (fun hHeld2 => ?_)
        · exact ⟨hHeld.1.trans (b.mono hHeld.1.size), (b.cell (World.block_lt_of_cell? _ _ hHeld.2.1)).trans hHeld.2.1, (b.cell (World.block_lt_of_cell? _ _ hHeld.2.2)).trans hHeld.2.2⟩
        clear hK K
        clear b
        have hHeld := hHeld2
        clear hHeld2
        refine wpAnyH_ready (rs := [9]) (by kernel_rfl) (List.cons_ne_nil _ _) ?_
        refine AllReadyH.cons rfl (fun K hK => ?_) AllReadyH.nil
        have z0 := (cell_of_row X4 ga 0 _ _ (0, 0) ZA.out).trans (show _ = some (Value.int .u8 0) from rfl)
        have z1 := (cell_of_row X4 ga 1 _ _ (0, 0) ZA.out).trans (show _ = some (Value.slice none 0 0) from rfl)
        have zf0 := frozen_of_row X4 ga 0 _ _ ZA.out
        have zf1 := frozen_of_row X4 ga 1 _ _ ZA.out
        go_simp
        refine hK.out _ _ ?_ (fun hHeld2 => ?_)
        · exact (fun HB => ⟨HB, (HB.cell (p := ⟨v2.heap.size, 0, none⟩) HLB.out).trans HX0.out, (HB.cell (p := ⟨v2.heap.size, 1, none⟩) HLB.out).trans HX1.out⟩) ((hHeld.1.setCell (p := ⟨ga, 0, none⟩) GA.out _).setCell (p := ⟨ga, 1, none⟩) GA.out _)
        clear hK K
        clear z0 z1 zf0 zf1
        have OP1 := Lib.hid (show ((X4.setCell ⟨ga, 0, none⟩ (.int .u8 mi)).setCell ⟨ga, 1, none⟩ (.slice qp np cp)).ownsRow _ 51 2 (.slice qp np cp) np _ from own_box16 ZA.out (by decide) OP.out [.int .u8 mi, .slice qp np cp])
        have OQ1 := Lib.hid (show ((X4.setCell ⟨ga, 0, none⟩ (.int .u8 mi)).setCell ⟨ga, 1, none⟩ (.slice qp np cp)).ownsRow _ 51 2 (.slice qt nt ct) nt _ from own_box16 ZA.out (by decide) OQ.out [.int .u8 mi, .slice qp np cp])
        have ZN := Lib.hid (show ((X4.setCell ⟨ga, 0, none⟩ (.int .u8 mi)).setCell ⟨ga, 1, none⟩ (.slice qp np cp)).heap[ga]? = some (.cells #[.int .u8 mi, .slice qp np cp] 24 (0, 0)) from by have hz2 := ZA.out; simp [World.setCell, Array.getElem?_modify, hz2])
        have ZO := Lib.hid (show ((X4.setCell ⟨ga, 0, none⟩ (.int .u8 mi)).setCell ⟨ga, 1, none⟩ (.slice qp np cp)).heap[gb]? = _ from ((heap_setCell_other _ ⟨ga, 1, none⟩ gb _ (fun e => HNE.out e.symm)).trans (heap_setCell_other _ ⟨ga, 0, none⟩ gb _ (fun e => HNE.out e.symm))).trans ZB.out)
        generalize (X4.setCell ⟨ga, 0, none⟩ (.int .u8 mi)).setCell ⟨ga, 1, none⟩ (.slice qp np cp) = X5 at OP1 OQ1 ZN ZO hHeld2 ⊢
        clear ZA ZB OP OQ hHeld
        have OP := OP1
        have OQ := OQ1
        have ZA := ZN
        have ZB := ZO
        have hHeld := hHeld2
        clear OP1 OQ1 ZN ZO hHeld2
        refine wpAnyH_ready (rs := [10]) (by kernel_rfl) (List.cons_ne_nil _ _) ?_
        refine AllReadyH.cons rfl (fun K hK => ?_) AllReadyH.nil
        have z0 := (cell_of_row X5 gb 0 _ _ (0, 0) ZB.out).trans (show _ = some (Value.int .u8 0) from rfl)
        have z1 := (cell_of_row X5 gb 1 _ _ (0, 0) ZB.out).trans (show _ = some (Value.slice none 0 0) from rfl)
        have zf0 := frozen_of_row X5 gb 0 _ _ ZB.out
        have zf1 := frozen_of_row X5 gb 1 _ _ ZB.out
        go_simp
        refine hK.out _ _ ?_ (fun hHeld2 => ?_)
        · exact (fun HB => ⟨HB, (HB.cell (p := ⟨v2.heap.size, 0, none⟩) HLB.out).trans HX0.out, (HB.cell (p := ⟨v2.heap.size, 1, none⟩) HLB.out).trans HX1.out⟩) ((hHeld.1.setCell (p := ⟨gb, 0, none⟩) GB.out _).setCell (p := ⟨gb, 1, none⟩) GB.out _)
        clear hK K
        clear z0 z1 zf0 zf1
        have OP1 := Lib.hid (show ((X5.setCell ⟨gb, 0, none⟩ (.int .u8 mi)).setCell ⟨gb, 1, none⟩ (.slice qt nt ct)).ownsRow _ 51 2 (.slice qp np cp) np _ from own_box16 ZB.out (by decide) OP.out [.int .u8 mi, .slice qt nt ct])
        have OQ1 := Lib.hid (show ((X5.setCell ⟨gb, 0, none⟩ (.int .u8 mi)).setCell ⟨gb, 1, none⟩ (.slice qt nt ct)).ownsRow _ 51 2 (.slice qt nt ct) nt _ from own_box16 ZB.out (by decide) OQ.out [.int .u8 mi, .slice qt nt ct])
        have ZN := Lib.hid (show ((X5.setCell ⟨gb, 0, none⟩ (.int .u8 mi)).setCell ⟨gb, 1, none⟩ (.slice qt nt ct)).heap[gb]? = some (.cells #[.int .u8 mi, .slice qt nt ct] 24 (0, 0)) from by have hz2 := ZB.out; simp [World.setCell, Array.getElem?_modify, hz2])
        have ZO := Lib.hid (show ((X5.setCell ⟨gb, 0, none⟩ (.int .u8 mi)).setCell ⟨gb, 1, none⟩ (.slice qt nt ct)).heap[ga]? = _ from ((heap_setCell_other _ ⟨gb, 1, none⟩ ga _ HNE.out).trans (heap_setCell_other _ ⟨gb, 0, none⟩ ga _ HNE.out)).trans ZA.out)
        generalize (X5.setCell ⟨gb, 0, none⟩ (.int .u8 mi)).setCell ⟨gb, 1, none⟩ (.slice qt nt ct) = X6 at OP1 OQ1 ZN ZO hHeld2 ⊢
        clear ZB ZA OP OQ hHeld
        have OP := OP1
        have OQ := OQ1
        have ZB := ZN
        have ZA := ZO
        have hHeld := hHeld2
        clear OP1 OQ1 ZN ZO hHeld2
        refine wpAnyH_done (by kernel_rfl) ?_ _
        exact KEY X6 ga gb qp np cp qt nt ct ⟨hHeld.1, ZA.out, ZB.out, GA.out, GB.out, HNE.out, NP.out, NQ.out, OP.out, Bt, HBt.out, OQ.out, SEP.out⟩
      exact AllReadyH.nil
    refine AllReadyH.cons rfl (fun K hK => ?_) ?_
    · go_simp
      refine hK.out _ _ ?_ (fun hHeld2 => ?_)
      · exact ⟨hHeld.1.trans ((below16 X0 (.cells #[.int .u8 0, .slice none 0 0] 24)).mono hHeld.1.size), ((below16 X0 (.cells #[.int .u8 0, .slice none 0 0] 24)).cell (World.block_lt_of_cell? _ _ hHeld.2.1)).trans hHeld.2.1, ((below16 X0 (.cells #[.int .u8 0, .slice none 0 0] 24)).cell (World.block_lt_of_cell? _ _ hHeld.2.2)).trans hHeld.2.2⟩
      clear hK K
      obtain ⟨X1, hN⟩ : ∃ X, X = X0.alloc (.cells #[.int .u8 0, .slice none 0 0] 24) := ⟨_, rfl⟩
      have b : Below X0.heap.size X0 X1 := hN ▸ below16 X0 (.cells #[.int .u8 0, .slice none 0 0] 24)
      have ZB0 := Lib.hid (show X1.heap[X0.heap.size]? = some (.cells #[.int .u8 0, .slice none 0 0] 24 (0, 0)) from hN ▸ heap_alloc_new X0 _)
      rw [← hN] at hHeld2 ⊢
      obtain ⟨gb, hg⟩ : ∃ g, g = X0.heap.size := ⟨_, rfl⟩
      have GB := Lib.hid (show v4.heap.size ≤ gb from hg ▸ hHeld.1.size)
      rw [← hg] at ZB0 ⊢
      have ZB := ZB0
      clear ZB0 b hN hg
      have hHeld := hHeld2
      clear hHeld2
      refine wpAnyH_ready (rs := [3, 7]) (by kernel_rfl) (List.cons_ne_nil _ _) ?_
      refine AllReadyH.cons rfl (fun K hK => ?_) ?_
      · go_simp
        go_wp2_with (go_at_call 21; ((with_reducible refine (HPU.out _ q2 n2 c2 (HON.out _ _ (HON.out _ _ HG.out B4.out) hHeld.1) N2.out (O4.out.on hHeld.1)).mono ?_); rintro e X2 ⟨qp, np, cp, rfl, lp, op, bp⟩); have NP := Lib.hid lp; clear lp)
        have OP := Lib.hid (owns_low16 op hHeld.1.size)
        have b := bp
        clear op bp
        have ZB := Lib.hid (blk_on ZB.out b)
        refine hK.out _ _ ?_ (fun hHeld2 => ?_)
        · exact ⟨hHeld.1.trans (b.mono hHeld.1.size), (b.cell (World.block_lt_of_cell? _ _ hHeld.2.1)).trans hHeld.2.1, (b.cell (World.block_lt_of_cell? _ _ hHeld.2.2)).trans hHeld.2.2⟩
        clear hK K
        clear b
        have hHeld := hHeld2
        clear hHeld2
        refine wpAnyH_ready (rs := [6, 7]) (by kernel_rfl) (List.cons_ne_nil _ _) ?_
        refine AllReadyH.cons rfl (fun K hK => ?_) ?_
        · go_simp
          go_wp2_with (go_at_call 22; ((with_reducible refine (HTA.out _ q2 n2 c2 (HON.out _ _ (HON.out _ _ HG.out B4.out) hHeld.1) N2.out (O4.out.on hHeld.1)).mono ?_); rintro e X3 ⟨qt, nt, ct, rfl, lq, oq, bq⟩); have NQ := Lib.hid lq; clear lq)
          obtain ⟨Bt, hBt⟩ : ∃ b, b = X2.heap.size := ⟨_, rfl⟩
          rw [← hBt] at oq
          have SEP := Lib.hid (show ∀ j, qp = some ⟨j, 0, none⟩ → j < Bt from hBt ▸ own_sep16 OP.out)
          have HBt := Lib.hid (show v4.heap.size ≤ Bt from hBt ▸ hHeld.1.size)
          have OQ := Lib.hid oq
          have b := bq
          clear oq bq hBt
          have OP := Lib.hid (owns_on16 OP.out b)
          have ZB := Lib.hid (blk_on ZB.out b)
          refine hK.out _ _ ?_ (fun hHeld2 => ?_)
          · exact ⟨hHeld.1.trans (b.mono hHeld.1.size), (b.cell (World.block_lt_of_cell? _ _ hHeld.2.1)).trans hHeld.2.1, (b.cell (World.block_lt_of_cell? _ _ hHeld.2.2)).trans hHeld.2.2⟩
          clear hK K
          clear b
          have hHeld := hHeld2
          clear hHeld2
          refine wpAnyH_ready (rs := [7]) (by kernel_rfl) (List.cons_ne_nil _ _) ?_
          refine AllReadyH.cons rfl (fun K hK => ?_) AllReadyH.nil
          go_simp
          refine hK.out _ _ ?_ (fun hHeld2 => ?_)
          · exact ⟨hHeld.1.trans ((below16 X3 (.cells #[.int .u8 0, .slice none 0 0] 24)).mono hHeld.1.size), ((below16 X3 (.cells #[.int .u8 0, .slice none 0 0] 24)).cell (World.block_lt_of_cell? _ _ hHeld.2.1)).trans hHeld.2.1, ((below16 X3 (.cells #[.int .u8 0, .slice none 0 0] 24)).cell (World.block_lt_of_cell? _ _ hHeld.2.2)).trans hHeld.2.2⟩
          clear hK K
          obtain ⟨X4, hN⟩ : ∃ X, X = X3.alloc (.cells #[.int .u8 0, .slice none 0 0] 24) := ⟨_, rfl⟩
          have b : Below X3.heap.size X3 X4 := hN ▸ below16 X3 (.cells #[.int .u8 0, .slice none 0 0] 24)
          have ZA0 := Lib.hid (show X4.heap[X3.heap.size]? = some (.cells #[.int .u8 0, .slice none 0 0] 24 (0, 0)) from hN ▸ heap_alloc_new X3 _)
          rw [← hN] at hHeld2 ⊢
          have HNE := Lib.hid (show X3.heap.size ≠ gb from Nat.ne_of_gt (blk_lt ZB.out))
          have OP := Lib.hid (owns_on16 OP.out b)
          have OQ := Lib.hid (owns_on16 OQ.out b)
          have ZB := Lib.hid (blk_on ZB.out b)
          obtain ⟨ga, hg⟩ : ∃ g, g = X3.heap.size := ⟨_, rfl⟩
          have GA := Lib.hid (show v4.heap.size ≤ ga from hg ▸ hHeld.1.size)
          rw [← hg] at ZA0 HNE ⊢
          have ZA := ZA0
          clear ZA0 b hN hg
          have hHeld := hHeld2
          clear hHeld2
          refine wpAnyH_ready (rs := [9]) (by kernel_rfl) (List.cons_ne_nil _ _) ?_
          refine AllReadyH.cons rfl (fun K hK => ?_) AllReadyH.nil
          have z0 := (cell_of_row X4 ga 0 _ _ (0, 0) ZA.out).trans (show _ = some (Value.int .u8 0) from rfl)
          have z1 := (cell_of_row X4 ga 1 _ _ (0, 0) ZA.out).trans (show _ = some (Value.slice none 0 0) from rfl)
          have zf0 := frozen_of_row X4 ga 0 _ _ ZA.out
          have zf1 := frozen_of_row X4 ga 1 _ _ ZA.out
          go_simp
          refine hK.out _ _ ?_ (fun hHeld2 => ?_)
          · exact (fun HB => ⟨HB, (HB.cell (p := ⟨v2.heap.size, 0, none⟩) HLB.out).trans HX0.out, (HB.cell (p := ⟨v2.heap.size, 1, none⟩) HLB.out).trans HX1.out⟩) ((hHeld.1.setCell (p := ⟨ga, 0, none⟩) GA.out _).setCell (p := ⟨ga, 1, none⟩) GA.out _)
          clear hK K
          clear z0 z1 zf0 zf1
          have OP1 := Lib.hid (show ((X4.setCell ⟨ga, 0, none⟩ (.int .u8 mi)).setCell ⟨ga, 1, none⟩ (.slice qp np cp)).ownsRow _ 51 2 (.slice qp np cp) np _ from own_box16 ZA.out (by decide) OP.out [.int .u8 mi, .slice qp np cp])
          have OQ1 := Lib.hid (show ((X4.setCell ⟨ga, 0, none⟩ (.int .u8 mi)).setCell ⟨ga, 1, none⟩ (.slice qp np cp)).ownsRow _ 51 2 (.slice qt nt ct) nt _ from own_box16 ZA.out (by decide) OQ.out [.int .u8 mi, .slice qp np cp])
          have ZN := Lib.hid (show ((X4.setCell ⟨ga, 0, none⟩ (.int .u8 mi)).setCell ⟨ga, 1, none⟩ (.slice qp np cp)).heap[ga]? = some (.cells #[.int .u8 mi, .slice qp np cp] 24 (0, 0)) from by have hz2 := ZA.out; simp [World.setCell, Array.getElem?_modify, hz2])
          have ZO := Lib.hid (show ((X4.setCell ⟨ga, 0, none⟩ (.int .u8 mi)).setCell ⟨ga, 1, none⟩ (.slice qp np cp)).heap[gb]? = _ from ((heap_setCell_other _ ⟨ga, 1, none⟩ gb _ (fun e => HNE.out e.symm)).trans (heap_setCell_other _ ⟨ga, 0, none⟩ gb _ (fun e => HNE.out e.symm))).trans ZB.out)
          generalize (X4.setCell ⟨ga, 0, none⟩ (.int .u8 mi)).setCell ⟨ga, 1, none⟩ (.slice qp np cp) = X5 at OP1 OQ1 ZN ZO hHeld2 ⊢
          clear ZA ZB OP OQ hHeld
          have OP := OP1
          have OQ := OQ1
          have ZA := ZN
          have ZB := ZO
          have hHeld := hHeld2
          clear OP1 OQ1 ZN ZO hHeld2
          refine wpAnyH_ready (rs := [10]) (by kernel_rfl) (List.cons_ne_nil _ _) ?_
          refine AllReadyH.cons rfl (fun K hK => ?_) AllReadyH.nil
          have z0 := (cell_of_row X5 gb 0 _ _ (0, 0) ZB.out).trans (show _ = some (Value.int .u8 0) from rfl)
          have z1 := (cell_of_row X5 gb 1 _ _ (0, 0) ZB.out).trans (show _ = some (Value.slice none 0 0) from rfl)
          have zf0 := frozen_of_row X5 gb 0 _ _ ZB.out
          have zf1 := frozen_of_row X5 gb 1 _ _ ZB.out
          go_simp
          refine hK.out _ _ ?_ (fun hHeld2 => ?_)
          · exact (fun HB => ⟨HB, (HB.cell (p := ⟨v2.heap.size, 0, none⟩) HLB.out).trans HX0.out, (HB.cell (p := ⟨v2.heap.size, 1, none⟩) HLB.out).trans HX1.out⟩) ((hHeld.1.setCell (p := ⟨gb, 0, none⟩) GB.out _).setCell (p := ⟨gb, 1, none⟩) GB.out _)
          clear hK K
          clear z0 z1 zf0 zf1
          have OP1 := Lib.hid (show ((X5.setCell ⟨gb, 0, none⟩ (.int .u8 mi)).setCell ⟨gb, 1, none⟩ (.slice qt nt ct)).ownsRow _ 51 2 (.slice qp np cp) np _ from own_box16 ZB.out (by decide) OP.out [.int .u8 mi, .slice qt nt ct])
          have OQ1 := Lib.hid (show ((X5.setCell ⟨gb, 0, none⟩ (.int .u8 mi)).setCell ⟨gb, 1, none⟩ (.slice qt nt ct)).ownsRow _ 51 2 (.slice qt nt ct) nt _ from own_box16 ZB.out (by decide) OQ.out [.int .u8 mi, .slice qt nt ct])
          have ZN := Lib.hid (show ((X5.setCell ⟨gb, 0, none⟩ (.int .u8 mi)).setCell ⟨gb, 1, none⟩ (.slice qt nt ct)).heap[gb]? = some (.cells #[.int .u8 mi, .slice qt nt ct] 24 (0, 0)) from by have hz2 := ZB.out; simp [World.setCell, Array.getElem?_modify, hz2])
          have ZO := Lib.hid (show ((X5.setCell ⟨gb, 0, none⟩ (.int .u8 mi)).setCell ⟨gb, 1, none⟩ (.slice qt nt ct)).heap[ga]? = _ from ((heap_setCell_other _ ⟨gb, 1, none⟩ ga _ HNE.out).trans (heap_setCell_other _ ⟨gb, 0, none⟩ ga _ HNE.out)).trans ZA.out)
          generalize (X5.setCell ⟨gb, 0, none⟩ (.int .u8 mi)).setCell ⟨gb, 1, none⟩ (.slice qt nt ct) = X6 at OP1 OQ1 ZN ZO hHeld2 ⊢
          clear ZB ZA OP OQ hHeld
          have OP := OP1
          have OQ := OQ1
          have ZB := ZN
          have ZA := ZO
          have hHeld := hHeld2
          clear OP1 OQ1 ZN ZO hHeld2
          refine wpAnyH_done (by kernel_rfl) ?_ _
          exact KEY X6 ga gb qp np cp qt nt ct ⟨hHeld.1, ZA.out, ZB.out, GA.out, GB.out, HNE.out, NP.out, NQ.out, OP.out, Bt, HBt.out, OQ.out, SEP.out⟩
        refine AllReadyH.cons rfl (fun K hK => ?_) ?_
        · go_simp
          refine hK.out _ _ ?_ (fun hHeld2 => ?_)
          · exact ⟨hHeld.1.trans ((below16 X2 (.cells #[.int .u8 0, .slice none 0 0] 24)).mono hHeld.1.size), ((below16 X2 (.cells #[.int .u8 0, .slice none 0 0] 24)).cell (World.block_lt_of_cell? _ _ hHeld.2.1)).trans hHeld.2.1, ((below16 X2 (.cells #[.int .u8 0, .slice none 0 0] 24)).cell (World.block_lt_of_cell? _ _ hHeld.2.2)).trans hHeld.2.2⟩
          clear hK K
          obtain ⟨X3, hN⟩ : ∃ X, X = X2.alloc (.cells #[.int .u8 0, .slice none 0 0] 24) := ⟨_, rfl⟩
          have b : Below X2.heap.size X2 X3 := hN ▸ below16 X2 (.cells #[.int .u8 0, .slice none 0 0] 24)
          have ZA0 := Lib.hid (show X3.heap[X2.heap.size]? = some (.cells #[.int .u8 0, .slice none 0 0] 24 (0, 0)) from hN ▸ heap_alloc_new X2 _)
          rw [← hN] at hHeld2 ⊢
          have HNE := Lib.hid (show X2.heap.size ≠ gb from Nat.ne_of_gt (blk_lt ZB.out))
          have OP := Lib.hid (owns_on16 OP.out b)
          have ZB := Lib.hid (blk_on ZB.out b)
          obtain ⟨ga, hg⟩ : ∃ g, g = X2.heap.size := ⟨_, rfl⟩
          have GA := Lib.hid (show v4.heap.size ≤ ga from hg ▸ hHeld.1.size)
          rw [← hg] at ZA0 HNE ⊢
          have ZA := ZA0
          clear ZA0 b hN hg
          have hHeld := hHeld2
          clear hHeld2
          refine wpAnyH_ready (rs := [6]) (by kernel_rfl) (List.cons_ne_nil _ _) ?_
          refine AllReadyH.cons rfl (fun K hK => ?_) AllReadyH.nil
          go_simp
          go_wp2_with (go_at_call 22; ((with_reducible refine (HTA.out _ q2 n2 c2 (HON.out _ _ (HON.out _ _ HG.out B4.out) hHeld.1) N2.out (O4.out.on hHeld.1)).mono ?_); rintro e X4 ⟨qt, nt, ct, rfl, lq, oq, bq⟩); have NQ := Lib.hid lq; clear lq)
          obtain ⟨Bt, hBt⟩ : ∃ b, b = X3.heap.size := ⟨_, rfl⟩
          rw [← hBt] at oq
          have SEP := Lib.hid (show ∀ j, qp = some ⟨j, 0, none⟩ → j < Bt from hBt ▸ own_sep16 OP.out)
          have HBt := Lib.hid (show v4.heap.size ≤ Bt from hBt ▸ hHeld.1.size)
          have OQ := Lib.hid oq
          have b := bq
          clear oq bq hBt
          have OP := Lib.hid (owns_on16 OP.out b)
          have ZA := Lib.hid (blk_on ZA.out b)
          have ZB := Lib.hid (blk_on ZB.out b)
          refine hK.out _ _ ?_ (fun hHeld2 => ?_)
          · exact ⟨hHeld.1.trans (b.mono hHeld.1.size), (b.cell (World.block_lt_of_cell? _ _ hHeld.2.1)).trans hHeld.2.1, (b.cell (World.block_lt_of_cell? _ _ hHeld.2.2)).trans hHeld.2.2⟩
          clear hK K
          clear b
          have hHeld := hHeld2
          clear hHeld2
          refine wpAnyH_ready (rs := [9]) (by kernel_rfl) (List.cons_ne_nil _ _) ?_
          refine AllReadyH.cons rfl (fun K hK => ?_) AllReadyH.nil
          have z0 := (cell_of_row X4 ga 0 _ _ (0, 0) ZA.out).trans (show _ = some (Value.int .u8 0) from rfl)
          have z1 := (cell_of_row X4 ga 1 _ _ (0, 0) ZA.out).trans (show _ = some (Value.slice none 0 0) from rfl)
          have zf0 := frozen_of_row X4 ga 0 _ _ ZA.out
          have zf1 := frozen_of_row X4 ga 1 _ _ ZA.out
          go_simp
          refine hK.out _ _ ?_ (fun hHeld2 => ?_)
          · exact (fun HB => ⟨HB, (HB.cell (p := ⟨v2.heap.size, 0, none⟩) HLB.out).trans HX0.out, (HB.cell (p := ⟨v2.heap.size, 1, none⟩) HLB.out).trans HX1.out⟩) ((hHeld.1.setCell (p := ⟨ga, 0, none⟩) GA.out _).setCell (p := ⟨ga, 1, none⟩) GA.out _)
          clear hK K
          clear z0 z1 zf0 zf1
          have OP1 := Lib.hid (show ((X4.setCell ⟨ga, 0, none⟩ (.int .u8 mi)).setCell ⟨ga, 1, none⟩ (.slice qp np cp)).ownsRow _ 51 2 (.slice qp np cp) np _ from own_box16 ZA.out (by decide) OP.out [.int .u8 mi, .slice qp np cp])
          have OQ1 := Lib.hid (show ((X4.setCell ⟨ga, 0, none⟩ (.int .u8 mi)).setCell ⟨ga, 1, none⟩ (.slice qp np cp)).ownsRow _ 51 2 (.slice qt nt ct) nt _ from own_box16 ZA.out (by decide) OQ.out [.int .u8 mi, .slice qp np cp])
          have ZN := Lib.hid (show ((X4.setCell ⟨ga, 0, none⟩ (.int .u8 mi)).setCell ⟨ga, 1, none⟩ (.slice qp np cp)).heap[ga]? = some (.cells #[.int .u8 mi, .slice qp np cp] 24 (0, 0)) from by have hz2 := ZA.out; simp [World.setCell, Array.getElem?_modify, hz2])
          have ZO := Lib.hid (show ((X4.setCell ⟨ga, 0, none⟩ (.int .u8 mi)).setCell ⟨ga, 1, none⟩ (.slice qp np cp)).heap[gb]? = _ from ((heap_setCell_other _ ⟨ga, 1, none⟩ gb _ (fun e => HNE.out e.symm)).trans (heap_setCell_other _ ⟨ga, 0, none⟩ gb _ (fun e => HNE.out e.symm))).trans ZB.out)
          generalize (X4.setCell ⟨ga, 0, none⟩ (.int .u8 mi)).setCell ⟨ga, 1, none⟩ (.slice qp np cp) = X5 at OP1 OQ1 ZN ZO hHeld2 ⊢
          clear ZA ZB OP OQ hHeld
          have OP := OP1
          have OQ := OQ1
          have ZA := ZN
          have ZB := ZO
          have hHeld := hHeld2
          clear OP1 OQ1 ZN ZO hHeld2
          refine wpAnyH_ready (rs := [10]) (by kernel_rfl) (List.cons_ne_nil _ _) ?_
          refine AllReadyH.cons rfl (fun K hK => ?_) AllReadyH.nil
          have z0 := (cell_of_row X5 gb 0 _ _ (0, 0) ZB.out).trans (show _ = some (Value.int .u8 0) from rfl)
          have z1 := (cell_of_row X5 gb 1 _ _ (0, 0) ZB.out).trans (show _ = some (Value.slice none 0 0) from rfl)
          have zf0 := frozen_of_row X5 gb 0 _ _ ZB.out
          have zf1 := frozen_of_row X5 gb 1 _ _ ZB.out
          go_simp
          refine hK.out _ _ ?_ (fun hHeld2 => ?_)
          · exact (fun HB => ⟨HB, (HB.cell (p := ⟨v2.heap.size, 0, none⟩) HLB.out).trans HX0.out, (HB.cell (p := ⟨v2.heap.size, 1, none⟩) HLB.out).trans HX1.out⟩) ((hHeld.1.setCell (p := ⟨gb, 0, none⟩) GB.out _).setCell (p := ⟨gb, 1, none⟩) GB.out _)
          clear hK K
          clear z0 z1 zf0 zf1
          have OP1 := Lib.hid (show ((X5.setCell ⟨gb, 0, none⟩ (.int .u8 mi)).setCell ⟨gb, 1, none⟩ (.slice qt nt ct)).ownsRow _ 51 2 (.slice qp np cp) np _ from own_box16 ZB.out (by decide) OP.out [.int .u8 mi, .slice qt nt ct])
          have OQ1 := Lib.hid (show ((X5.setCell ⟨gb, 0, none⟩ (.int .u8 mi)).setCell ⟨gb, 1, none⟩ (.slice qt nt ct)).ownsRow _ 51 2 (.slice qt nt ct) nt _ from own_box16 ZB.out (by decide) OQ.out [.int .u8 mi, .slice qt nt ct])
          have ZN := Lib.hid (show ((X5.setCell ⟨gb, 0, none⟩ (.int .u8 mi)).setCell ⟨gb, 1, none⟩ (.slice qt nt ct)).heap[gb]? = some (.cells #[.int .u8 mi, .slice qt nt ct] 24 (0, 0)) from by have hz2 := ZB.out; simp [World.setCell, Array.getElem?_modify, hz2])
          have ZO := Lib.hid (show ((X5.setCell ⟨gb, 0, none⟩ (.int .u8 mi)).setCell ⟨gb, 1, none⟩ (.slice qt nt ct)).heap[ga]? = _ from ((heap_setCell_other _ ⟨gb, 1, none⟩ ga _ HNE.out).trans (heap_setCell_other _ ⟨gb, 0, none⟩ ga _ HNE.out)).trans ZA.out)
          generalize (X5.setCell ⟨gb, 0, none⟩ (.int .u8 mi)).setCell ⟨gb, 1, none⟩ (.slice qt nt ct) = X6 at OP1 OQ1 ZN ZO hHeld2 ⊢
          clear ZB ZA OP OQ hHeld
          have OP := OP1
          have OQ := OQ1
          have ZB := ZN
          have ZA := ZO
          have hHeld := hHeld2
          clear OP1 OQ1 ZN ZO hHeld2
          refine wpAnyH_done (by kernel_rfl) ?_ _
          exact KEY X6 ga gb qp np cp qt nt ct ⟨hHeld.1, ZA.out, ZB.out, GA.out, GB.out, HNE.out, NP.out, NQ.out, OP.out, Bt, HBt.out, OQ.out, SEP.out⟩
        exact AllReadyH.nil
      refine AllReadyH.cons rfl (fun K hK => ?_) ?_
      · go_simp
        refine hK.out _ _ ?_ (fun hHeld2 => ?_)
        · exact ⟨hHeld.1.trans ((below16 X1 (.cells #[.int .u8 0, .slice none 0 0] 24)).mono hHeld.1.size), ((below16 X1 (.cells #[.int .u8 0, .slice none 0 0] 24)).cell (World.block_lt_of_cell? _ _ hHeld.2.1)).trans hHeld.2.1, ((below16 X1 (.cells #[.int .u8 0, .slice none 0 0] 24)).cell (World.block_lt_of_cell? _ _ hHeld.2.2)).trans hHeld.2.2⟩
        clear hK K
        obtain ⟨X2, hN⟩ : ∃ X, X = X1.alloc (.cells #[.int .u8 0, .slice none 0 0] 24) := ⟨_, rfl⟩
        have b : Below X1.heap.size X1 X2 := hN ▸ below16 X1 (.cells #[.int .u8 0, .slice none 0 0] 24)
        have ZA0 := Lib.hid (show X2.heap[X1.heap.size]? = some (.cells #[.int .u8 0, .slice none 0 0] 24 (0, 0)) from hN ▸ heap_alloc_new X1 _)
        rw [← hN] at hHeld2 ⊢
        have HNE := Lib.hid (show X1.heap.size ≠ gb from Nat.ne_of_gt (blk_lt ZB.out))
        have ZB := Lib.hid (blk_on ZB.out b)
        obtain ⟨ga, hg⟩ : ∃ g, g = X1.heap.size := ⟨_, rfl⟩
        have GA := Lib.hid (show v4.heap.size ≤ ga from hg ▸ hHeld.1.size)
        rw [← hg] at ZA0 HNE ⊢
        have ZA := ZA0
        clear ZA0 b hN hg
        have hHeld := hHeld2
        clear hHeld2
        refine wpAnyH_ready (rs := [3]) (by kernel_rfl) (List.cons_ne_nil _ _) ?_
        refine AllReadyH.cons rfl (fun K hK => ?_) AllReadyH.nil
        go_simp
        go_wp2_with (go_at_call 21; ((with_reducible refine (HPU.out _ q2 n2 c2 (HON.out _ _ (HON.out _ _ HG.out B4.out) hHeld.1) N2.out (O4.out.on hHeld.1)).mono ?_); rintro e X3 ⟨qp, np, cp, rfl, lp, op, bp⟩); have NP := Lib.hid lp; clear lp)
        have OP := Lib.hid (owns_low16 op hHeld.1.size)
        have b := bp
        clear op bp
        have ZA := Lib.hid (blk_on ZA.out b)
        have ZB := Lib.hid (blk_on ZB.out b)
        refine hK.out _ _ ?_ (fun hHeld2 => ?_)
        · exact ⟨hHeld.1.trans (b.mono hHeld.1.size), (b.cell (World.block_lt_of_cell? _ _ hHeld.2.1)).trans hHeld.2.1, (b.cell (World.block_lt_of_cell? _ _ hHeld.2.2)).trans hHeld.2.2⟩
        clear hK K
        clear b
        have hHeld := hHeld2
        clear hHeld2
        refine wpAnyH_ready (rs := [6]) (by kernel_rfl) (List.cons_ne_nil _ _) ?_
        refine AllReadyH.cons rfl (fun K hK => ?_) AllReadyH.nil
        go_simp
        go_wp2_with (go_at_call 22; ((with_reducible refine (HTA.out _ q2 n2 c2 (HON.out _ _ (HON.out _ _ HG.out B4.out) hHeld.1) N2.out (O4.out.on hHeld.1)).mono ?_); rintro e X4 ⟨qt, nt, ct, rfl, lq, oq, bq⟩); have NQ := Lib.hid lq; clear lq)
        obtain ⟨Bt, hBt⟩ : ∃ b, b = X3.heap.size := ⟨_, rfl⟩
        rw [← hBt] at oq
        have SEP := Lib.hid (show ∀ j, qp = some ⟨j, 0, none⟩ → j < Bt from hBt ▸ own_sep16 OP.out)
        have HBt := Lib.hid (show v4.heap.size ≤ Bt from hBt ▸ hHeld.1.size)
        have OQ := Lib.hid oq
        have b := bq
        clear oq bq hBt
        have OP := Lib.hid (owns_on16 OP.out b)
        have ZA := Lib.hid (blk_on ZA.out b)
        have ZB := Lib.hid (blk_on ZB.out b)
        refine hK.out _ _ ?_ (fun hHeld2 => ?_)
        · exact ⟨hHeld.1.trans (b.mono hHeld.1.size), (b.cell (World.block_lt_of_cell? _ _ hHeld.2.1)).trans hHeld.2.1, (b.cell (World.block_lt_of_cell? _ _ hHeld.2.2)).trans hHeld.2.2⟩
        clear hK K
        clear b
        have hHeld := hHeld2
        clear hHeld2
        refine wpAnyH_ready (rs := [9]) (by kernel_rfl) (List.cons_ne_nil _ _) ?_
        refine AllReadyH.cons rfl (fun K hK => ?_) AllReadyH.nil
        have z0 := (cell_of_row X4 ga 0 _ _ (0, 0) ZA.out).trans (show _ = some (Value.int .u8 0) from rfl)
        have z1 := (cell_of_row X4 ga 1 _ _ (0, 0) ZA.out).trans (show _ = some (Value.slice none 0 0) from rfl)
        have zf0 := frozen_of_row X4 ga 0 _ _ ZA.out
        have zf1 := frozen_of_row X4 ga 1 _ _ ZA.out
        go_simp
        refine hK.out _ _ ?_ (fun hHeld2 => ?_)
        · exact (fun HB => ⟨HB, (HB.cell (p := ⟨v2.heap.size, 0, none⟩) HLB.out).trans HX0.out, (HB.cell (p := ⟨v2.heap.size, 1, none⟩) HLB.out).trans HX1.out⟩) ((hHeld.1.setCell (p := ⟨ga, 0, none⟩) GA.out _).setCell (p := ⟨ga, 1, none⟩) GA.out _)
        clear hK K
        clear z0 z1 zf0 zf1
        have OP1 := Lib.hid (show ((X4.setCell ⟨ga, 0, none⟩ (.int .u8 mi)).setCell ⟨ga, 1, none⟩ (.slice qp np cp)).ownsRow _ 51 2 (.slice qp np cp) np _ from own_box16 ZA.out (by decide) OP.out [.int .u8 mi, .slice qp np cp])
        have OQ1 := Lib.hid (show ((X4.setCell ⟨ga, 0, none⟩ (.int .u8 mi)).setCell ⟨ga, 1, none⟩ (.slice qp np cp)).ownsRow _ 51 2 (.slice qt nt ct) nt _ from own_box16 ZA.out (by decide) OQ.out [.int .u8 mi, .slice qp np cp])
        have ZN := Lib.hid (show ((X4.setCell ⟨ga, 0, none⟩ (.int .u8 mi)).setCell ⟨ga, 1, none⟩ (.slice qp np cp)).heap[ga]? = some (.cells #[.int .u8 mi, .slice qp np cp] 24 (0, 0)) from by have hz2 := ZA.out; simp [World.setCell, Array.getElem?_modify, hz2])
        have ZO := Lib.hid (show ((X4.setCell ⟨ga, 0, none⟩ (.int .u8 mi)).setCell ⟨ga, 1, none⟩ (.slice qp np cp)).heap[gb]? = _ from ((heap_setCell_other _ ⟨ga, 1, none⟩ gb _ (fun e => HNE.out e.symm)).trans (heap_setCell_other _ ⟨ga, 0, none⟩ gb _ (fun e => HNE.out e.symm))).trans ZB.out)
        generalize (X4.setCell ⟨ga, 0, none⟩ (.int .u8 mi)).setCell ⟨ga, 1, none⟩ (.slice qp np cp) = X5 at OP1 OQ1 ZN ZO hHeld2 ⊢
        clear ZA ZB OP OQ hHeld
        have OP := OP1
        have OQ := OQ1
        have ZA := ZN
        have ZB := ZO
        have hHeld := hHeld2
        clear OP1 OQ1 ZN ZO hHeld2
        refine wpAnyH_ready (rs := [10]) (by kernel_rfl) (List.cons_ne_nil _ _) ?_
        refine AllReadyH.cons rfl (fun K hK => ?_) AllReadyH.nil
        have z0 := (cell_of_row X5 gb 0 _ _ (0, 0) ZB.out).trans (show _ = some (Value.int .u8 0) from rfl)
        have z1 := (cell_of_row X5 gb 1 _ _ (0, 0) ZB.out).trans (show _ = some (Value.slice none 0 0) from rfl)
        have zf0 := frozen_of_row X5 gb 0 _ _ ZB.out
        have zf1 := frozen_of_row X5 gb 1 _ _ ZB.out
        go_simp
        refine hK.out _ _ ?_ (fun hHeld2 => ?_)
        · exact (fun HB => ⟨HB, (HB.cell (p := ⟨v2.heap.size, 0, none⟩) HLB.out).trans HX0.out, (HB.cell (p := ⟨v2.heap.size, 1, none⟩) HLB.out).trans HX1.out⟩) ((hHeld.1.setCell (p := ⟨gb, 0, none⟩) GB.out _).setCell (p := ⟨gb, 1, none⟩) GB.out _)
        clear hK K
        clear z0 z1 zf0 zf1
        have OP1 := Lib.hid (show ((X5.setCell ⟨gb, 0, none⟩ (.int .u8 mi)).setCell ⟨gb, 1, none⟩ (.slice qt nt ct)).ownsRow _ 51 2 (.slice qp np cp) np _ from own_box16 ZB.out (by decide) OP.out [.int .u8 mi, .slice qt nt ct])
        have OQ1 := Lib.hid (show ((X5.setCell ⟨gb, 0, none⟩ (.int .u8 mi)).setCell ⟨gb, 1, none⟩ (.slice qt nt ct)).ownsRow _ 51 2 (.slice qt nt ct) nt _ from own_box16 ZB.out (by decide) OQ.out [.int .u8 mi, .slice qt nt ct])
        have ZN := Lib.hid (show ((X5.setCell ⟨gb, 0, none⟩ (.int .u8 mi)).setCell ⟨gb, 1, none⟩ (.slice qt nt ct)).heap[gb]? = some (.cells #[.int .u8 mi, .slice qt nt ct] 24 (0, 0)) from by have hz2 := ZB.out; simp [World.setCell, Array.getElem?_modify, hz2])
        have ZO := Lib.hid (show ((X5.setCell ⟨gb, 0, none⟩ (.int .u8 mi)).setCell ⟨gb, 1, none⟩ (.slice qt nt ct)).heap[ga]? = _ from ((heap_setCell_other _ ⟨gb, 1, none⟩ ga _ HNE.out).trans (heap_setCell_other _ ⟨gb, 0, none⟩ ga _ HNE.out)).trans ZA.out)
        generalize (X5.setCell ⟨gb, 0, none⟩ (.int .u8 mi)).setCell ⟨gb, 1, none⟩ (.slice qt nt ct) = X6 at OP1 OQ1 ZN ZO hHeld2 ⊢
        clear ZB ZA OP OQ hHeld
        have OP := OP1
        have OQ := OQ1
        have ZB := ZN
        have ZA := ZO
        have hHeld := hHeld2
        clear OP1 OQ1 ZN ZO hHeld2
        refine wpAnyH_done (by kernel_rfl) ?_ _
        exact KEY X6 ga gb qp np cp qt nt ct ⟨hHeld.1, ZA.out, ZB.out, GA.out, GB.out, HNE.out, NP.out, NQ.out, OP.out, Bt, HBt.out, OQ.out, SEP.out⟩
      exact AllReadyH.nil
    exact AllReadyH.nil
  case h2 =>
    intro X ga gb qp np cp qt nt ct hF
    obtain ⟨bX, zA, zB, gA, gB, hne, hnp, hnq, oP, Bt, hBt, oQ, sep⟩ := hF
    have bX := Lib.hid bX
    have ZA := Lib.hid zA
    have ZB := Lib.hid zB
    have NP := Lib.hid hnp
    have NQ := Lib.hid hnq
    have OP := Lib.hid oP
    have OQ := Lib.hid oQ
    have HBt := Lib.hid hBt
    have SEP := Lib.hid sep
    have BX := Lib.hid (thn16 B4.out bX.out)
    have XL := Lib.hid (blk_on X4.out bX.out)
    have XI := Lib.hid (blk_on I4.out bX.out)
    have E0 := Lib.hid ((cell_of_row X w.heap.size 0 _ _ (0, 0) XL.out).trans (show _ = some (Value.int .u8 mi) from rfl))
    have E1 := Lib.hid ((cell_of_row X w.heap.size 1 _ _ (0, 0) XL.out).trans (show _ = some (Value.slice a0 len0 cap0) from rfl))
    have E2 := Lib.hid ((cell_of_row X v2.heap.size 0 _ _ (0, 0) XI.out).trans (show _ = some (Value.int .u8 mi) from rfl))
    have E3 := Lib.hid ((cell_of_row X v2.heap.size 1 _ _ (0, 0) XI.out).trans (show _ = some (Value.slice q2 n2 c2) from rfl))
    have E4 := Lib.hid ((cell_of_row X ga 0 _ _ (0, 0) ZA.out).trans (show _ = some (Value.int .u8 mi) from rfl))
    have E5 := Lib.hid ((cell_of_row X ga 1 _ _ (0, 0) ZA.out).trans (show _ = some (Value.slice qp np cp) from rfl))
    have E6 := Lib.hid ((cell_of_row X gb 0 _ _ (0, 0) ZB.out).trans (show _ = some (Value.int .u8 mi) from rfl))
    have E7 := Lib.hid ((cell_of_row X gb 1 _ _ (0, 0) ZB.out).trans (show _ = some (Value.slice qt nt ct) from rfl))
    have HLT := Lib.hid (show w.heap.size < X.heap.size ∧ v2.heap.size < X.heap.size ∧ ga < X.heap.size ∧ gb < X.heap.size from ⟨blk_lt XL.out, blk_lt XI.out, blk_lt ZA.out, blk_lt ZB.out⟩)
    have t1 : (mb == mb) = true := by simp
    have t2 : (fb == fb) = true := by simp
    have t3 : (wb == wb) = true := by simp
    clear zA zB gA gB hne hnp hnq oP hBt oQ sep
    go_wp2_with fail
    refine wp_region_held_drew (S := (fun w' => Below X.heap.size X w' ∧ w'.cell? ⟨w.heap.size, 0, none⟩ = some (.int .u8 mi) ∧ w'.cell? ⟨w.heap.size, 1, none⟩ = some (.slice a0 len0 cap0) ∧ w'.cell? ⟨v2.heap.size, 0, none⟩ = some (.int .u8 mi) ∧ w'.cell? ⟨v2.heap.size, 1, none⟩ = some (.slice q2 n2 c2) ∧ w'.cell? ⟨ga, 0, none⟩ = some (.int .u8 mi) ∧ w'.cell? ⟨ga, 1, none⟩ = some (.slice qp np cp) ∧ w'.cell? ⟨gb, 0, none⟩ = some (.int .u8 mi) ∧ w'.cell? ⟨gb, 1, none⟩ = some (.slice qt nt ct))) (by kernel_rfl) ?_ (fun hHeld => ?_)
    · exact (fun HB => ⟨HB, (HB.cell (p := ⟨w.heap.size, 0, none⟩) HLT.out.1).trans E0.out, (HB.cell (p := ⟨w.heap.size, 1, none⟩) HLT.out.1).trans E1.out, (HB.cell (p := ⟨v2.heap.size, 0, none⟩) HLT.out.2.1).trans E2.out, (HB.cell (p := ⟨v2.heap.size, 1, none⟩) HLT.out.2.1).trans E3.out, (HB.cell (p := ⟨ga, 0, none⟩) HLT.out.2.2.1).trans E4.out, (HB.cell (p := ⟨ga, 1, none⟩) HLT.out.2.2.1).trans E5.out, (HB.cell (p := ⟨gb, 0, none⟩) HLT.out.2.2.2).trans E6.out, (HB.cell (p := ⟨gb, 1, none⟩) HLT.out.2.2.2).trans E7.out⟩) ((Below.refl _ _).drew)
    refine take_op2 (i := 0) (v := ?_) rfl (by kernel_rfl) (by kernel_rfl) (by kernel_rfl) (fun _ _ _ h => h) (Or.inl ⟨wanted_plain rfl, ?_⟩) (by assumption) ?_
    rotate_left
    · (intro w hSw; (try dsimp only at hSw); go_simp; try with_reducible rfl)
    intro act_ hact_; simp only [Act.put, List.setIfInBounds_toArray, List.set_cons_zero, List.set_cons_succ] at hact_; subst hact_
    refine take_op2 (i := 2) (v := ?_) rfl (by kernel_rfl) (by kernel_rfl) (by kernel_rfl) (fun _ _ _ h => h) (Or.inl ⟨wanted_plain rfl, ?_⟩) (by assumption) ?_
    rotate_left
    · (intro w hSw; (try dsimp only at hSw); go_simp; try with_reducible rfl)
    intro act_ hact_; simp only [Act.put, List.setIfInBounds_toArray, List.set_cons_zero, List.set_cons_succ] at hact_; subst hact_
    refine wpAnyH_ready (rs := [1]) (by kernel_rfl) (List.cons_ne_nil _ _) ?_
    refine AllReadyH.cons rfl (fun K hK => ?_) AllReadyH.nil
    go_simp
    go_wp2_with (go_at_call 23; ((with_reducible refine (HMA.out _ q2 n2 c2 (HON.out _ _ HG.out (thn16 BX.out hHeld.1)) N2.out (O4.out.on (thn16 bX.out hHeld.1))).mono ?_); rintro e u1 ⟨rfl, b⟩))
    refine hK.out _ _ ?_ (fun hHeld2 => ?_)
    · exact (fun HB => ⟨HB, (HB.cell (p := ⟨w.heap.size, 0, none⟩) HLT.out.1).trans E0.out, (HB.cell (p := ⟨w.heap.size, 1, none⟩) HLT.out.1).trans E1.out, (HB.cell (p := ⟨v2.heap.size, 0, none⟩) HLT.out.2.1).trans E2.out, (HB.cell (p := ⟨v2.heap.size, 1, none⟩) HLT.out.2.1).trans E3.out, (HB.cell (p := ⟨ga, 0, none⟩) HLT.out.2.2.1).trans E4.out, (HB.cell (p := ⟨ga, 1, none⟩) HLT.out.2.2.1).trans E5.out, (HB.cell (p := ⟨gb, 0, none⟩) HLT.out.2.2.2).trans E6.out, (HB.cell (p := ⟨gb, 1, none⟩) HLT.out.2.2.2).trans E7.out⟩) (hHeld.1.trans (b.mono hHeld.1.size))
    clear hK K
    clear b
    have hHeld := hHeld2
    clear hHeld2
    refine wpAnyH_ready (rs := [3]) (by kernel_rfl) (List.cons_ne_nil _ _) ?_
    refine AllReadyH.cons rfl (fun K hK => ?_) AllReadyH.nil
    go_simp
    go_wp2_with (go_at_call 24; ((with_reducible refine (HRM.out _ (thn16 BX.out hHeld.1)).mono ?_); rintro e u3 ⟨rfl, b⟩))
    refine hK.out _ _ ?_ (fun hHeld2 => ?_)
    · exact (fun HB => ⟨HB, (HB.cell (p := ⟨w.heap.size, 0, none⟩) HLT.out.1).trans E0.out, (HB.cell (p := ⟨w.heap.size, 1, none⟩) HLT.out.1).trans E1.out, (HB.cell (p := ⟨v2.heap.size, 0, none⟩) HLT.out.2.1).trans E2.out, (HB.cell (p := ⟨v2.heap.size, 1, none⟩) HLT.out.2.1).trans E3.out, (HB.cell (p := ⟨ga, 0, none⟩) HLT.out.2.2.1).trans E4.out, (HB.cell (p := ⟨ga, 1, none⟩) HLT.out.2.2.1).trans E5.out, (HB.cell (p := ⟨gb, 0, none⟩) HLT.out.2.2.2).trans E6.out, (HB.cell (p := ⟨gb, 1, none⟩) HLT.out.2.2.2).trans E7.out⟩) (hHeld.1.trans (b.mono hHeld.1.size))
    clear hK K
    clear b
    have hHeld := hHeld2
    clear hHeld2
    refine take_op2 (i := 4) (v := ?_) rfl (by kernel_rfl) (by kernel_rfl) (by kernel_rfl) (fun _ _ _ h => h) (Or.inl ⟨wanted_plain rfl, ?_⟩) (by assumption) ?_
    rotate_left
    · (intro w hSw; (try dsimp only at hSw); go_simp; try with_reducible rfl)
    intro act_ hact_; simp only [Act.put, List.setIfInBounds_toArray, List.set_cons_zero, List.set_cons_succ] at hact_; subst hact_
    refine take_op2 (i := 5) (v := ?_) rfl (by kernel_rfl) (by kernel_rfl) (by kernel_rfl) (fun _ _ _ h => h) (Or.inl ⟨wanted_plain rfl, ?_⟩) (by assumption) ?_
    rotate_left
    · (intro w hSw; (try dsimp only at hSw); go_simp; try with_reducible rfl)
    intro act_ hact_; simp only [Act.put, List.setIfInBounds_toArray, List.set_cons_zero, List.set_cons_succ] at hact_; subst hact_
    refine take_op2 (i := 6) (v := ?_) rfl (by kernel_rfl) (by kernel_rfl) (by kernel_rfl) (fun _ _ _ h => h) (Or.inl ⟨by rfl, ?_⟩) (by assumption) ?_
    rotate_left
    · (intro w hSw; (try dsimp only at hSw); go_simp; try with_reducible rfl)
    intro act_ hact_; simp only [Act.put, List.setIfInBounds_toArray, List.set_cons_zero, List.set_cons_succ] at hact_; subst hact_
    refine take_op2 (i := 7) (v := ?_) rfl (by kernel_rfl) (by kernel_rfl) (by kernel_rfl) (fun _ _ _ h => h) (Or.inl ⟨by rfl, ?_⟩) (by assumption) ?_
    rotate_left
    · (intro w hSw; (try dsimp only at hSw); go_simp; try with_reducible rfl)
    intro act_ hact_; simp only [Act.put, List.setIfInBounds_toArray, List.set_cons_zero, List.set_cons_succ] at hact_; subst hact_
    refine take_op2 (i := 8) (v := ?_) rfl (by kernel_rfl) (by kernel_rfl) (by kernel_rfl) (fun _ _ _ h => h) (Or.inl ⟨by rfl, ?_⟩) (by assumption) ?_
    rotate_left
    · (intro w hSw; (try dsimp only at hSw); go_simp; try with_reducible rfl)
    intro act_ hact_; simp only [Act.put, List.setIfInBounds_toArray, List.set_cons_zero, List.set_cons_succ] at hact_; subst hact_
    refine take_op2 (i := 9) (v := ?_) rfl (by kernel_rfl) (by kernel_rfl) (by kernel_rfl) (fun _ _ _ h => h) (Or.inl ⟨wanted_plain rfl, ?_⟩) (by assumption) ?_
    rotate_left
    · (intro w hSw; (try dsimp only at hSw); go_simp; try with_reducible rfl)
    intro act_ hact_; simp only [Act.put, List.setIfInBounds_toArray, List.set_cons_zero, List.set_cons_succ] at hact_; subst hact_
    refine take_op2 (i := 10) (v := ?_) rfl (by kernel_rfl) (by kernel_rfl) (by kernel_rfl) (fun _ _ _ h => h) (Or.inl ⟨wanted_plain rfl, ?_⟩) (by assumption) ?_
    rotate_left
    · (intro w hSw; (try dsimp only at hSw); go_simp; try with_reducible rfl)
    intro act_ hact_; simp only [Act.put, List.setIfInBounds_toArray, List.set_cons_zero, List.set_cons_succ] at hact_; subst hact_
    refine take_op2 (i := 11) (v := ?_) rfl (by kernel_rfl) (by kernel_rfl) (by kernel_rfl) (fun _ _ _ h => h) (Or.inl ⟨by rfl, ?_⟩) (by assumption) ?_
    rotate_left
    · (intro w hSw; (try dsimp only at hSw); go_simp; try with_reducible rfl)
    intro act_ hact_; simp only [Act.put, List.setIfInBounds_toArray, List.set_cons_zero, List.set_cons_succ] at hact_; subst hact_
    refine take_op2 (i := 12) (v := ?_) rfl (by kernel_rfl) (by kernel_rfl) (by kernel_rfl) (fun _ _ _ h => h) (Or.inl ⟨by rfl, ?_⟩) (by assumption) ?_
    rotate_left
    · (intro w hSw; (try dsimp only at hSw); go_simp; try with_reducible rfl)
    intro act_ hact_; simp only [Act.put, List.setIfInBounds_toArray, List.set_cons_zero, List.set_cons_succ] at hact_; subst hact_
    refine take_op2 (i := 13) (v := ?_) rfl (by kernel_rfl) (by kernel_rfl) (by kernel_rfl) (fun _ _ _ h => h) (Or.inl ⟨by rfl, ?_⟩) (by assumption) ?_
    rotate_left
    · (intro w hSw; (try dsimp only at hSw); go_simp; try with_reducible rfl)
    intro act_ hact_; simp only [Act.put, List.setIfInBounds_toArray, List.set_cons_zero, List.set_cons_succ] at hact_; subst hact_
    refine take_op2 (i := 14) (v := ?_) rfl (by kernel_rfl) (by kernel_rfl) (by kernel_rfl) (fun _ _ _ h => h) (Or.inl ⟨wanted_plain rfl, ?_⟩) (by assumption) ?_
    rotate_left
    · (intro w hSw; (try dsimp only at hSw); go_simp; try with_reducible rfl)
    intro act_ hact_; simp only [Act.put, List.setIfInBounds_toArray, List.set_cons_zero, List.set_cons_succ] at hact_; subst hact_
    refine take_op2 (i := 15) (v := ?_) rfl (by kernel_rfl) (by kernel_rfl) (by kernel_rfl) (fun _ _ _ h => h) (Or.inl ⟨wanted_plain rfl, ?_⟩) (by assumption) ?_
    rotate_left
    · (intro w hSw; (try dsimp only at hSw); go_simp; try with_reducible rfl)
    intro act_ hact_; simp only [Act.put, List.setIfInBounds_toArray, List.set_cons_zero, List.set_cons_succ] at hact_; subst hact_
    refine take_op2 (i := 16) (v := ?_) rfl (by kernel_rfl) (by kernel_rfl) (by kernel_rfl) (fun _ _ _ h => h) (Or.inl ⟨by rfl, ?_⟩) (by assumption) ?_
    rotate_left
    · (intro w hSw; (try dsimp only at hSw); go_simp; try with_reducible rfl)
    intro act_ hact_; simp only [Act.put, List.setIfInBounds_toArray, List.set_cons_zero, List.set_cons_succ] at hact_; subst hact_
    refine take_op2 (i := 18) (v := ?_) rfl (by kernel_rfl) (by kernel_rfl) (by kernel_rfl) (fun _ _ _ h => h) (Or.inl ⟨by rfl, ?_⟩) (by assumption) ?_
    rotate_left
    · (intro w hSw; (try dsimp only at hSw); go_simp; try with_reducible rfl)
    intro act_ hact_; simp only [Act.put, List.setIfInBounds_toArray, List.set_cons_zero, List.set_cons_succ] at hact_; subst hact_
    refine wpAnyH_ready (rs := [17]) (by kernel_rfl) (List.cons_ne_nil _ _) ?_
    refine AllReadyH.cons rfl (fun K hK => ?_) AllReadyH.nil
    go_simp
    go_wp2_with (go_at_call 25; ((with_reducible refine (HWA.out _ (HON.out _ _ HG.out (thn16 BX.out hHeld.1))).mono ?_); rintro e u17 ⟨rfl, b⟩))
    refine hK.out _ _ ?_ (fun hHeld2 => ?_)
    · exact (fun HB => ⟨HB, (HB.cell (p := ⟨w.heap.size, 0, none⟩) HLT.out.1).trans E0.out, (HB.cell (p := ⟨w.heap.size, 1, none⟩) HLT.out.1).trans E1.out, (HB.cell (p := ⟨v2.heap.size, 0, none⟩) HLT.out.2.1).trans E2.out, (HB.cell (p := ⟨v2.heap.size, 1, none⟩) HLT.out.2.1).trans E3.out, (HB.cell (p := ⟨ga, 0, none⟩) HLT.out.2.2.1).trans E4.out, (HB.cell (p := ⟨ga, 1, none⟩) HLT.out.2.2.1).trans E5.out, (HB.cell (p := ⟨gb, 0, none⟩) HLT.out.2.2.2).trans E6.out, (HB.cell (p := ⟨gb, 1, none⟩) HLT.out.2.2.2).trans E7.out⟩) (hHeld.1.trans (b.mono hHeld.1.size))
    clear hK K
    clear b
    have hHeld := hHeld2
    clear hHeld2
    refine wpAnyH_ready (rs := [19]) (by kernel_rfl) (List.cons_ne_nil _ _) ?_
    refine AllReadyH.cons rfl (fun K hK => ?_) AllReadyH.nil
    go_simp
    go_wp2_with (go_at_call 26; ((with_reducible refine (HRW.out _).mono ?_); rintro e u19 ⟨rfl, rfl⟩))
    refine hK.out _ _ ?_ (fun hHeld2 => ?_)
    · exact hHeld
    clear hK K
    have hHeld := hHeld2
    clear hHeld2
    refine take_op2 (i := 20) (v := ?_) rfl (by kernel_rfl) (by kernel_rfl) (by kernel_rfl) (fun _ _ _ h => h) (Or.inl ⟨by rfl, ?_⟩) (by assumption) ?_
    rotate_left
    · (intro w hSw; (try dsimp only at hSw); go_simp; try with_reducible rfl)
    intro act_ hact_; simp only [Act.put, List.setIfInBounds_toArray, List.set_cons_zero, List.set_cons_succ] at hact_; subst hact_
    refine take_op2 (i := 21) (v := ?_) rfl (by kernel_rfl) (by kernel_rfl) (by kernel_rfl) (fun _ _ _ h => h) (Or.inl ⟨wanted_plain rfl, ?_⟩) (by assumption) ?_
    rotate_left
    · (intro w hSw; (try dsimp only at hSw); go_simp; try with_reducible rfl)
    intro act_ hact_; simp only [Act.put, List.setIfInBounds_toArray, List.set_cons_zero, List.set_cons_succ] at hact_; subst hact_
    refine take_op2 (i := 22) (v := ?_) rfl (by kernel_rfl) (by kernel_rfl) (by kernel_rfl) (fun _ _ _ h => h) (Or.inl ⟨wanted_plain rfl, ?_⟩) (by assumption) ?_
    rotate_left
    · (intro w hSw; (try dsimp only at hSw); go_simp; try with_reducible rfl)
    intro act_ hact_; simp only [Act.put, List.setIfInBounds_toArray, List.set_cons_zero, List.set_cons_succ] at hact_; subst hact_
    refine take_op2 (i := 23) (v := ?_) rfl (by kernel_rfl) (by kernel_rfl) (by kernel_rfl) (fun _ _ _ h => h) (Or.inl ⟨by rfl, ?_⟩) (by assumption) ?_
    rotate_left
    · (intro w hSw; (try dsimp only at hSw); go_simp; try with_reducible rfl)
    intro act_ hact_; simp only [Act.put, List.setIfInBounds_toArray, List.set_cons_zero, List.set_cons_succ] at hact_; subst hact_
    refine take_op2 (i := 24) (v := ?_) rfl (by kernel_rfl) (by kernel_rfl) (by kernel_rfl) (fun _ _ _ h => h) (Or.inl ⟨by rfl, ?_⟩) (by assumption) ?_
    rotate_left
    · (intro w hSw; (try dsimp only at hSw); go_simp; try with_reducible rfl)
    intro act_ hact_; simp only [Act.put, List.setIfInBounds_toArray, List.set_cons_zero, List.set_cons_succ] at hact_; subst hact_
    refine take_op2 (i := 25) (v := ?_) rfl (by kernel_rfl) (by kernel_rfl) (by kernel_rfl) (fun _ _ _ h => h) (Or.inl ⟨by rfl, ?_⟩) (by assumption) ?_
    rotate_left
    · (intro w hSw; (try dsimp only at hSw); go_simp; try with_reducible rfl)
    intro act_ hact_; simp only [Act.put, List.setIfInBounds_toArray, List.set_cons_zero, List.set_cons_succ] at hact_; subst hact_
    refine take_op2 (i := 26) (v := ?_) rfl (by kernel_rfl) (by kernel_rfl) (by kernel_rfl) (fun _ _ _ h => h) (Or.inl ⟨by rfl, ?_⟩) (by assumption) ?_
    rotate_left
    · (intro w hSw; (try dsimp only at hSw); go_simp; try with_reducible rfl)
    intro act_ hact_; simp only [Act.put, List.setIfInBounds_toArray, List.set_cons_zero, List.set_cons_succ] at hact_; subst hact_
    refine wpAnyH_ready (rs := [27]) (by kernel_rfl) (List.cons_ne_nil _ _) ?_
    refine AllReadyH.cons rfl (fun K hK => ?_) AllReadyH.nil
    go_simp
    go_wp2_with (go_at_call 27; ((with_reducible refine (HRP.out _ (thn16 BX.out hHeld.1)).mono ?_); rintro e u27 ⟨qr, nr, cr, rfl, hnr, lr, b⟩); have NR := Lib.hid hnr; have LR := Lib.hid lr; clear hnr lr)
    refine hK.out _ _ ?_ (fun hHeld2 => ?_)
    · exact (fun HB => ⟨HB, (HB.cell (p := ⟨w.heap.size, 0, none⟩) HLT.out.1).trans E0.out, (HB.cell (p := ⟨w.heap.size, 1, none⟩) HLT.out.1).trans E1.out, (HB.cell (p := ⟨v2.heap.size, 0, none⟩) HLT.out.2.1).trans E2.out, (HB.cell (p := ⟨v2.heap.size, 1, none⟩) HLT.out.2.1).trans E3.out, (HB.cell (p := ⟨ga, 0, none⟩) HLT.out.2.2.1).trans E4.out, (HB.cell (p := ⟨ga, 1, none⟩) HLT.out.2.2.1).trans E5.out, (HB.cell (p := ⟨gb, 0, none⟩) HLT.out.2.2.2).trans E6.out, (HB.cell (p := ⟨gb, 1, none⟩) HLT.out.2.2.2).trans E7.out⟩) (hHeld.1.trans (b.mono hHeld.1.size))
    clear hK K
    clear b
    have hHeld := hHeld2
    clear hHeld2
    refine wpAnyH_ready (rs := [28]) (by kernel_rfl) (List.cons_ne_nil _ _) ?_
    refine AllReadyH.cons rfl (fun K hK => ?_) AllReadyH.nil
    go_simp
    go_wp2_with (go_at_call 13; ((with_reducible refine (HSP.out _ qp qr np nr cp cr NP.out NR.out (LsAt.of_own (owns_on16 OP.out hHeld.1) NP.out) LR.out).mono ?_); rintro e u28 ⟨rfl, b⟩))
    refine hK.out _ _ ?_ (fun hHeld2 => ?_)
    · exact (fun HB => ⟨HB, (HB.cell (p := ⟨w.heap.size, 0, none⟩) HLT.out.1).trans E0.out, (HB.cell (p := ⟨w.heap.size, 1, none⟩) HLT.out.1).trans E1.out, (HB.cell (p := ⟨v2.heap.size, 0, none⟩) HLT.out.2.1).trans E2.out, (HB.cell (p := ⟨v2.heap.size, 1, none⟩) HLT.out.2.1).trans E3.out, (HB.cell (p := ⟨ga, 0, none⟩) HLT.out.2.2.1).trans E4.out, (HB.cell (p := ⟨ga, 1, none⟩) HLT.out.2.2.1).trans E5.out, (HB.cell (p := ⟨gb, 0, none⟩) HLT.out.2.2.2).trans E6.out, (HB.cell (p := ⟨gb, 1, none⟩) HLT.out.2.2.2).trans E7.out⟩) (hHeld.1.trans (b.mono hHeld.1.size))
    clear hK K
    clear b
    have hHeld := hHeld2
    clear hHeld2
    refine take_op2 (i := 29) (v := ?_) rfl (by kernel_rfl) (by kernel_rfl) (by kernel_rfl) (fun _ _ _ h => h) (Or.inl ⟨by rfl, ?_⟩) (by assumption) ?_
    rotate_left
    · (intro w hSw; (try dsimp only at hSw); go_simp; try with_reducible rfl)
    intro act_ hact_; simp only [Act.put, List.setIfInBounds_toArray, List.set_cons_zero, List.set_cons_succ] at hact_; subst hact_
    refine take_op2 (i := 30) (v := ?_) rfl (by kernel_rfl) (by kernel_rfl) (by kernel_rfl) (fun _ _ _ h => h) (Or.inl ⟨wanted_plain rfl, ?_⟩) (by assumption) ?_
    rotate_left
    · (intro w hSw; (try dsimp only at hSw); go_simp; try with_reducible rfl)
    intro act_ hact_; simp only [Act.put, List.setIfInBounds_toArray, List.set_cons_zero, List.set_cons_succ] at hact_; subst hact_
    refine take_op2 (i := 31) (v := ?_) rfl (by kernel_rfl) (by kernel_rfl) (by kernel_rfl) (fun _ _ _ h => h) (Or.inl ⟨wanted_plain rfl, ?_⟩) (by assumption) ?_
    rotate_left
    · (intro w hSw; (try dsimp only at hSw); go_simp; try with_reducible rfl)
    intro act_ hact_; simp only [Act.put, List.setIfInBounds_toArray, List.set_cons_zero, List.set_cons_succ] at hact_; subst hact_
    refine take_op2 (i := 32) (v := ?_) rfl (by kernel_rfl) (by kernel_rfl) (by kernel_rfl) (fun _ _ _ h => h) (Or.inl ⟨by rfl, ?_⟩) (by assumption) ?_
    rotate_left
    · (intro w hSw; (try dsimp only at hSw); go_simp; try with_reducible rfl)
    intro act_ hact_; simp only [Act.put, List.setIfInBounds_toArray, List.set_cons_zero, List.set_cons_succ] at hact_; subst hact_
    refine take_op2 (i := 33) (v := ?_) rfl (by kernel_rfl) (by kernel_rfl) (by kernel_rfl) (fun _ _ _ h => h) (Or.inl ⟨by rfl, ?_⟩) (by assumption) ?_
    rotate_left
    · (intro w hSw; (try dsimp only at hSw); go_simp; try with_reducible rfl)
    intro act_ hact_; simp only [Act.put, List.setIfInBounds_toArray, List.set_cons_zero, List.set_cons_succ] at hact_; subst hact_
    refine take_op2 (i := 34) (v := ?_) rfl (by kernel_rfl) (by kernel_rfl) (by kernel_rfl) (fun _ _ _ h => h) (Or.inl ⟨by rfl, ?_⟩) (by assumption) ?_
    rotate_left
    · (intro w hSw; (try dsimp only at hSw); go_simp; try with_reducible rfl)
    intro act_ hact_; simp only [Act.put, List.setIfInBounds_toArray, List.set_cons_zero, List.set_cons_succ] at hact_; subst hact_
    refine wpAnyH_ready (rs := [35]) (by kernel_rfl) (List.cons_ne_nil _ _) ?_
    refine AllReadyH.cons rfl (fun K hK => ?_) AllReadyH.nil
    go_simp
    go_wp2_with (go_at_call 28; ((with_reducible refine (HRT.out _ (thn16 BX.out hHeld.1)).mono ?_); rintro e u35 ⟨qs, ns, cs, rfl, hns, ls, b⟩); have NS := Lib.hid hns; have LS := Lib.hid ls; clear hns ls)
    refine hK.out _ _ ?_ (fun hHeld2 => ?_)
    · exact (fun HB => ⟨HB, (HB.cell (p := ⟨w.heap.size, 0, none⟩) HLT.out.1).trans E0.out, (HB.cell (p := ⟨w.heap.size, 1, none⟩) HLT.out.1).trans E1.out, (HB.cell (p := ⟨v2.heap.size, 0, none⟩) HLT.out.2.1).trans E2.out, (HB.cell (p := ⟨v2.heap.size, 1, none⟩) HLT.out.2.1).trans E3.out, (HB.cell (p := ⟨ga, 0, none⟩) HLT.out.2.2.1).trans E4.out, (HB.cell (p := ⟨ga, 1, none⟩) HLT.out.2.2.1).trans E5.out, (HB.cell (p := ⟨gb, 0, none⟩) HLT.out.2.2.2).trans E6.out, (HB.cell (p := ⟨gb, 1, none⟩) HLT.out.2.2.2).trans E7.out⟩) (hHeld.1.trans (b.mono hHeld.1.size))
    clear hK K
    clear b
    have hHeld := hHeld2
    clear hHeld2
    refine wpAnyH_ready (rs := [36]) (by kernel_rfl) (List.cons_ne_nil _ _) ?_
    refine AllReadyH.cons rfl (fun K hK => ?_) AllReadyH.nil
    go_simp
    go_wp2_with (go_at_call 13; ((with_reducible refine (HSQ.out _ qt qs nt ns ct cs NQ.out NS.out (LsAt.of_own (owns_on16 OQ.out hHeld.1) NQ.out) LS.out).mono ?_); rintro e u36 ⟨rfl, b⟩))
    refine hK.out _ _ ?_ (fun hHeld2 => ?_)
    · exact (fun HB => ⟨HB, (HB.cell (p := ⟨w.heap.size, 0, none⟩) HLT.out.1).trans E0.out, (HB.cell (p := ⟨w.heap.size, 1, none⟩) HLT.out.1).trans E1.out, (HB.cell (p := ⟨v2.heap.size, 0, none⟩) HLT.out.2.1).trans E2.out, (HB.cell (p := ⟨v2.heap.size, 1, none⟩) HLT.out.2.1).trans E3.out, (HB.cell (p := ⟨ga, 0, none⟩) HLT.out.2.2.1).trans E4.out, (HB.cell (p := ⟨ga, 1, none⟩) HLT.out.2.2.1).trans E5.out, (HB.cell (p := ⟨gb, 0, none⟩) HLT.out.2.2.2).trans E6.out, (HB.cell (p := ⟨gb, 1, none⟩) HLT.out.2.2.2).trans E7.out⟩) (hHeld.1.trans (b.mono hHeld.1.size))
    clear hK K
    clear b
    have hHeld := hHeld2
    clear hHeld2
    refine take_op2 (i := 37) (v := ?_) rfl (by kernel_rfl) (by kernel_rfl) (by kernel_rfl) (fun _ _ _ h => h) (Or.inl ⟨by rfl, ?_⟩) (by assumption) ?_
    rotate_left
    · (intro w hSw; (try dsimp only at hSw); go_simp; try with_reducible rfl)
    intro act_ hact_; simp only [Act.put, List.setIfInBounds_toArray, List.set_cons_zero, List.set_cons_succ] at hact_; subst hact_
    refine take_op2 (i := 38) (v := ?_) rfl (by kernel_rfl) (by kernel_rfl) (by kernel_rfl) (fun _ _ _ h => h) (Or.inl ⟨wanted_plain rfl, ?_⟩) (by assumption) ?_
    rotate_left
    · (intro w hSw; (try dsimp only at hSw); go_simp; try with_reducible rfl)
    intro act_ hact_; simp only [Act.put, List.setIfInBounds_toArray, List.set_cons_zero, List.set_cons_succ] at hact_; subst hact_
    refine wpAnyH_done (by kernel_rfl) ?_ _
    go_wp2_with (first
      | (go_at_call 15
         (with_reducible refine (HSLP.out _ qp np cp v4.heap.size NP.out (by have := bX.out.size; have := hHeld.1.size; omega) (owns_on16 OP.out hHeld.1)).mono ?_)
         rintro e s1 ⟨rfl, d1, k1⟩
         have D1 := Lib.hid d1
         have OQ1 := Lib.hid (show s1.ownsRow v4.heap.size 51 2 (.slice qt nt ct) nt _ from owns_low16 (owns_same16 (owns_on16 OQ.out hHeld.1) fun g c fz hBg hg => k1 g _ (fun e => by have := SEP.out g e; omega) hg) HBt.out)
         have ZB1 := Lib.hid (k1 gb _ (own_ne16 (owns_on16 OP.out hHeld.1) (blk_on ZB.out hHeld.1)) (blk_on ZB.out hHeld.1))
         have s0 := (cell_of_row s1 gb 0 _ _ (0, 0) ZB1.out).trans (show _ = some (Value.int .u8 mi) from rfl)
         have s01 := (cell_of_row s1 gb 1 _ _ (0, 0) ZB1.out).trans (show _ = some (Value.slice qt nt ct) from rfl)
         clear d1 k1)
      | (go_at_call 15
         (with_reducible refine (HSLQ.out _ qt nt ct v4.heap.size _ NQ.out (by have := bX.out.size; have := hHeld.1.size; have := D1.out.size; omega) OQ1.out).mono ?_)
         rintro e s2 ⟨rfl, d2, k2⟩
         have BV := Lib.hid (((bX.out.trans (hHeld.1.mono bX.out.size)).trans D1.out).trans d2)
         have XL := Lib.hid ((BV.out.block w.heap.size (blk_lt X4.out)).trans X4.out)
         have XI := Lib.hid ((BV.out.block v2.heap.size (blk_lt I4.out)).trans I4.out)
         have s2a := (cell_of_row s2 w.heap.size 0 _ _ (0, 0) XL.out).trans (show _ = some (Value.int .u8 mi) from rfl)
         have s2b := (cell_of_row s2 w.heap.size 1 _ _ (0, 0) XL.out).trans (show _ = some (Value.slice a0 len0 cap0) from rfl)
         have s2c := (cell_of_row s2 v2.heap.size 0 _ _ (0, 0) XI.out).trans (show _ = some (Value.int .u8 mi) from rfl)
         have s2d := (cell_of_row s2 v2.heap.size 1 _ _ (0, 0) XI.out).trans (show _ = some (Value.slice q2 n2 c2) from rfl)
         clear d2 k2 s0 s01)
      | (go_at_call 13
         (with_reducible refine (HSZ.out _ q2 a0 n2 len0 c2 cap0 N2.out W0S.out (O4.out.on BV.out) (HRD.out.on (thn16 B4.out BV.out))).mono ?_)
         rintro e s3 ⟨rfl, d3⟩
         have B9 := Lib.hid (thn16 (thn16 B4.out BV.out) d3)
         clear d3 s2a s2b s2c s2d)
      | (go_at_call 16
         (with_reducible refine (HAW.out _ (HON.out _ _ HG.out B9.out)).mono ?_)
         rintro e s4 ⟨rfl, d4⟩
         have B10 := Lib.hid (thn16 B9.out d4)
         clear d4))
    go_ret
    exact ⟨by first | rfl | simp, B10.out⟩


set_option maxRecDepth 100000 in
theorem lifted (HC : FoldC GN) (os : Os) (started : os.Started) (H : Type) (enc : TypeId × Value → H) :
    ReturnsInHanded {} Tryz.checked os 5 .any (fun w args => (Rows.foldListsSpec.pre enc Tryz.prog Tryz.f5 [] false w args ∧ laidMetH Tryz.prog listed16 w) ∧ sizedMet enc Tryz.prog Tryz.f5 (OpenSpec.ofChange Rows.foldListsSpec) false w args)
      (Rows.foldListsSpec.post enc Tryz.prog Tryz.f5 false true false false) := by
  refine returnsInHanded_of_change_and (C := Tryz.checked) (X := fun w _ => laidMetH Tryz.prog listed16 w) (fun _ _ _ hh h => h.of_heap hh) ownKnob_none started (by kernel_rfl) Tryz.func5
    (ChangeSpec.witness_shaped (enc := enc) (C := Tryz.checked) (os := os) (X := fun w _ => laidMetH Tryz.prog listed16 w) false (World.doorLaid Tryz.prog 4000 os) #[.agg #[.int .u8 0, .slice none 0 0], .string ⟨#[]⟩, .int .u32 0, .int .i64 0] 8 rfl (World.shaped_of_RefB (by kernel_rfl) (by kernel_rfl)) (by kernel_rfl) (by kernel_rfl) (by kernel_rfl) (door_met16 os _)) ?_
  intro W base args ds gs before hval0 hW _ _ hL _
  have hG : GN W := of_laid16 hL
  have hval : ∀ (j : Nat) t v, Tryz.f5.params[j]? = some t → args[j]? = some v → Value.okWide Tryz.prog W .any base t v := hval0
  have hW' := hW
  obtain ⟨p, q, hA0, hV, rfl, hfz, hnd⟩ := hW
  have hA : DataW.TrodAll enc Tryz.prog W 0 (fun _ => true) true Tryz.f5.params.toList args.toList ds p := hA0
  rw [Tryz.params5] at hA hval
  obtain ⟨v0, vs0, d0, ds0, p0, q0, hargs, rfl, rfl, h0, r0⟩ := trodAll_cons hA
  obtain ⟨v1, vs1, d1, ds1, p1, q1, rfl, rfl, rfl, h1, r1⟩ := trodAll_cons r0
  obtain ⟨v2, vs2, d2, ds2, p2, q2, rfl, rfl, rfl, h2, r2⟩ := trodAll_cons r1
  obtain ⟨v3, vs3, d3, ds3, p3, q3, rfl, rfl, rfl, h3, r3⟩ := trodAll_cons r2
  obtain ⟨rfl, rfl, rfl⟩ := trodAll_nil r3
  obtain rfl : args = #[v0, v1, v2, v3] := by cases args; simp_all
  obtain ⟨rfl, rfl⟩ := trodVars_none hV
  have k0 := h0
  have lt0 : ∀ x ∈ p0, x.block < W.heap.size := by obtain ⟨m, hm⟩ := k0; exact DataW.trod_lt m _ _ _ hm
  obtain ⟨m0, a0, len0, cap0, z0, x0, w0, rfl⟩ := list_open (hval 0 24 v0 rfl rfl) h0 lt0
  obtain ⟨a1, rfl, rfl, rfl, w1⟩ := open_string Tryz.underlying9 (hval 1 9 v1 rfl rfl) h1
  obtain ⟨a2, rfl, rfl, rfl, w2⟩ := open_int Tryz.underlying38 (hval 2 38 v2 rfl rfl) h2
  obtain ⟨a3, rfl, rfl, rfl, w3⟩ := open_int Tryz.underlying3 (hval 3 3 v3 rfl rfl) h3
  clear hA0 hval0
  refine (walk HC m0 a0 len0 cap0 z0 a1 a2 a3 W hG x0 w0 w1 w2 w3).mono fun e W' ⟨he, bel⟩ => ?_
  subst he
  exact ⟨_, rfl, _, _, _, [], _, [], hW', trodAll_mk1 (shut_bool Tryz.underlying4 _), (trodAll_cons_mk (Below.trod laidOut (by kernel_rfl) (of_decide_eq_true (by kernel_rfl)) k0 bel lt0) (trodAll_cons_mk (shut_string Tryz.underlying9 w1) (trodAll_cons_mk (shut_int Tryz.underlying38 w2) (trodAll_cons_mk (shut_int Tryz.underlying3 w3) trodAll_mk0)))), rfl, bel.frame _, fun h => by cases h⟩

theorem over (HC : FoldC GN) : Rows.foldListsRow.holds Tryz.pinned (OpenSpec.ofChange Rows.foldListsSpec) :=
  OpenClaim.holds_of_wide 5 Tryz.f5 rfl rfl rfl rfl rfl rfl rfl ⟨rfl, rfl, rfl, rfl, rfl⟩ rfl rfl rfl rfl rfl (by kernel_rfl) Tryz.func5 (by kernel_rfl)
    (of_decide_eq_true (by kernel_rfl)) (by unfold Func.isWrapper; first | (rw [if_pos (by decide +kernel)]; kernel_rfl) | (rw [if_neg (by decide +kernel)]; exact ⟨rfl, rfl⟩))
    (fun os started H enc _ => lifted HC os started H enc)

/-- The row's statement. -/
theorem row_holds : Rows.FoldListsSaid := over foldC
/-- The statement: the row, its table tied to the program's text. -/
theorem proved : Rows.FoldListsCardSaid :=
  Claim7.holds_tied_plain_at .later [] [.data, .data, .data, .sentinel, .sentinel, .data] true Rows.foldListsCard.stood.harness Rows.foldListsCard.stood.looks
    row_holds (fun _ h => by cases h) (by kernel_rfl) (fun _ h => by cases h) foldLists_row_tie rfl ⟨rfl, rfl⟩ (by kernel_rfl) rfl
    (fun f fn hf hfn => by
      obtain rfl : f = 5 := Option.some.inj ((show Tryz.prog.funcNamed "vestibule/vestibulelaw16.FoldLists" = some 5 by kernel_rfl).symm.trans hf) |>.symm
      obtain rfl : fn = Tryz.f5 := (Option.some.inj (Tryz.func5.symm.trans hfn)).symm
      exact ⟨by kernel_rfl, fun j t ht => by
        have hm : t ∈ Tryz.f5.params.toList := by simpa using Array.mem_of_getElem? ht
        have hall : (Tryz.f5.params.toList.all fun u => !Tryz.prog.wantsStandIn u) = true := by kernel_rfl
        exact (show Tryz.prog.wantsStandIn t = false by simpa using List.all_eq_true.1 hall t hm)⟩)
    (by kernel_rfl)
#print axioms proved
end Go.Proofs.YtickkaeaaemakaaGreatDoor.foldLists
