/- The statement FoldOne holds, over what the calls have to return: a call that is put in is in, one that is taken out is out, and all others as they were; a value of one known call. -/
import Derived.Test.YtickkaeaaemakaaGreatDoorRows
import Derived.Test.YtickkaeaaemakaaGreatDoorCards
import Derived.Test.YtickkaeaaemakaaGreatDoorTie
import Derived.SevenTiedAt
import Derived.Test.YtickkaeaaemakaaGreatDoorWd
import Derived.Test.YtickkaeaaemakaaGreatDoorTz
import Derived.Test.YtickkaeaaemakaaGreatDoorTu
import Derived.Test.YtickkaeaaemakaaGreatDoorLr
import Derived.BigQuiet
import Derived.Deep.QuietTactic
namespace Go.Proofs.YtickkaeaaemakaaGreatDoor.foldOne
set_option linter.unusedSimpArgs false
open Go.ChangeShapes Go.WideShapes Go.ChangeAt Go.RowKit
open Go.ChangeMaps (open_string shut_string)
set_option linter.unusedVariables false
attribute [local go_sem ↓] Go.wp_at_zero Go.wp_at_succ
theorem put_lt {L : List Cl} {n : ByteArray} {a : Nat} (h : ∀ e ∈ L, e.2 < 4294967296) (ha : a < 4294967296) : ∀ e ∈ putC L n a, e.2 < 4294967296 := fun e he => by
  rcases mem_ins he with h1 | h1
  · rw [h1]; exact ha
  · exact h e (List.mem_filter.1 h1).1
theorem take_lt {L : List Cl} {n : ByteArray} (h : ∀ e ∈ L, e.2 < 4294967296) : ∀ e ∈ takeC L n, e.2 < 4294967296 := fun e he => h e (List.mem_filter.1 he).1
theorem plain_read : Plain16 knownR [114, 101, 97, 100] where
  word := by kernel_rfl
  tilde := by decide
  read := by kernel_rfl
  group := by decide
  inv := by decide
  known := by kernel_rfl
theorem plain_kill : Plain16 knownR [107, 105, 108, 108] where
  word := by kernel_rfl
  tilde := by decide
  read := by kernel_rfl
  group := by decide
  inv := by decide
  known := by kernel_rfl
theorem plain_socket : Plain16 knownR [115, 111, 99, 107, 101, 116] where
  word := by kernel_rfl
  tilde := by decide
  read := by kernel_rfl
  group := by decide
  inv := by decide
  known := by kernel_rfl
set_option maxRecDepth 100000 in
set_option maxHeartbeats 64000000 in
theorem walk {G : World → Prop} (HC : FoldC G) (m0 : Nat) (a0 : Option Addr) (len0 cap0 : Nat) (z0 : List Cl) (a1 : ByteArray) (a2 : ByteArray) (a3 : Int) (a4 : Bool) (w : World) (hG : G w) (x0 : m0 < 256) (w0 : IsCalls w a0 len0 cap0 z0) (w1 : a1.size ≤ maxLen) (w2 : a2.size ≤ maxLen) (w3 : (Lit.int .u32 a3).wf = true) (w4 : True) :
    Calls Tryz.prog 8 #[lsV m0 a0 len0 cap0, .string a1, .string a2, .int .u32 a3, .bool a4] w fun e w' => e = .returned (.bool true) ∧ Below w.heap.size w w' := by
  have HON := Lib.hid (fun (w w' : World) => HC.on (w := w) (w' := w'))
  have HG := Lib.hid hG
  have HLEN := Lib.hid w0.size
  have HACT := Lib.hid (fun e he => (w0.rng e he).2)
  have HRD := Lib.hid w0.rd
  have HAW := Lib.hid (fun (W : World) (g : G W) => awake16_any HC W g)
  have HGR := Lib.hid (fun (W : World) => great16 m0 a0 len0 cap0 W)
  unfold lsV at HGR ⊢
  obtain ⟨mi, hmi⟩ : ∃ x : Int, x = (m0 : Nat) := ⟨_, rfl⟩
  have HMI := Lib.hid hmi
  rw [← hmi] at HGR ⊢
  have HBX := Lib.hid (heap_alloc_new w (.cells #[.int .u8 mi, .slice a0 len0 cap0] 24))
  have B0 := Lib.hid (below16 w (.cells #[.int .u8 mi, .slice a0 len0 cap0] 24))
  by_cases hgr : 100 < len0
  · rw [decide_eq_true hgr] at HGR
    clear hgr hmi w0 w1 w2 w3 hG HC
    go_enter Tryz.func8, Tryz.ntmps8
    go_wp2_with (first
      | (go_at_call 9
         (with_reducible refine (HGR.out _).mono ?_)
         rintro e v1 ⟨rfl, b1⟩
         have B1 := Lib.hid (thn16 B0.out b1)
         have X1 := Lib.hid (blk_on HBX.out b1)
         have y0 := (cell_of_row v1 w.heap.size 0 _ _ (0, 0) X1.out).trans (show _ = some (Value.int .u8 mi) from rfl)
         have y1 := (cell_of_row v1 w.heap.size 1 _ _ (0, 0) X1.out).trans (show _ = some (Value.slice a0 len0 cap0) from rfl)
         have hlw : w.heap.size < v1.heap.size := blk_lt X1.out
         clear b1)
      | (go_at_call 16
         (with_reducible refine (HAW.out _ (HON.out _ _ HG.out B1.out)).mono ?_)
         rintro e v9 ⟨rfl, b9⟩
         have B9 := Lib.hid (thn16 B1.out b9)
         clear b9))
    go_ret
    exact ⟨rfl, B9.out⟩
  rw [decide_eq_false hgr] at HGR
  by_cases hlong : (200 : Int) < a1.size
  · clear hgr hmi w0 w1 w2 w3 hG HC
    go_enter Tryz.func8, Tryz.ntmps8
    go_wp2_with (first
      | (go_at_call 9
         (with_reducible refine (HGR.out _).mono ?_)
         rintro e v1 ⟨rfl, b1⟩
         have B1 := Lib.hid (thn16 B0.out b1)
         have X1 := Lib.hid (blk_on HBX.out b1)
         have y0 := (cell_of_row v1 w.heap.size 0 _ _ (0, 0) X1.out).trans (show _ = some (Value.int .u8 mi) from rfl)
         have y1 := (cell_of_row v1 w.heap.size 1 _ _ (0, 0) X1.out).trans (show _ = some (Value.slice a0 len0 cap0) from rfl)
         have hlw : w.heap.size < v1.heap.size := blk_lt X1.out
         clear b1)
      | (go_at_call 16
         (with_reducible refine (HAW.out _ (HON.out _ _ HG.out B1.out)).mono ?_)
         rintro e v9 ⟨rfl, b9⟩
         have B9 := Lib.hid (thn16 B1.out b9)
         clear b9))
    go_ret
    exact ⟨rfl, B9.out⟩
  by_cases hlong2 : (200 : Int) < a2.size
  · clear hgr hmi w0 w1 w2 w3 hG HC
    go_enter Tryz.func8, Tryz.ntmps8
    go_wp2_with (first
      | (go_at_call 9
         (with_reducible refine (HGR.out _).mono ?_)
         rintro e v1 ⟨rfl, b1⟩
         have B1 := Lib.hid (thn16 B0.out b1)
         have X1 := Lib.hid (blk_on HBX.out b1)
         have y0 := (cell_of_row v1 w.heap.size 0 _ _ (0, 0) X1.out).trans (show _ = some (Value.int .u8 mi) from rfl)
         have y1 := (cell_of_row v1 w.heap.size 1 _ _ (0, 0) X1.out).trans (show _ = some (Value.slice a0 len0 cap0) from rfl)
         have hlw : w.heap.size < v1.heap.size := blk_lt X1.out
         clear b1)
      | (go_at_call 16
         (with_reducible refine (HAW.out _ (HON.out _ _ HG.out B1.out)).mono ?_)
         rintro e v9 ⟨rfl, b9⟩
         have B9 := Lib.hid (thn16 B1.out b9)
         clear b9))
    go_ret
    exact ⟨rfl, B9.out⟩
  have hl1 : len0 ≤ 1000 := by omega
  have hact := fun e he => (w0.rng e he).2
  have HMA := Lib.hid (fun (W : World) (g : G W) (b : Below w.heap.size w W) => HC.may m0 a0 len0 cap0 z0 W g x0 w0.size.symm hl1 hact (w0.rd.on b))
  unfold lsV at HMA
  rw [← hmi] at HMA
  cases hmay : mayR knownR m0 z0 with
  | false =>
    rw [hmay] at HMA
    clear hgr hmi w0 w1 w2 w3 hG HC hmay hl1 hact
    go_enter Tryz.func8, Tryz.ntmps8
    go_wp2_with (first
      | (go_at_call 9
         (with_reducible refine (HGR.out _).mono ?_)
         rintro e v1 ⟨rfl, b1⟩
         have B1 := Lib.hid (thn16 B0.out b1)
         have X1 := Lib.hid (blk_on HBX.out b1)
         have y0 := (cell_of_row v1 w.heap.size 0 _ _ (0, 0) X1.out).trans (show _ = some (Value.int .u8 mi) from rfl)
         have y1 := (cell_of_row v1 w.heap.size 1 _ _ (0, 0) X1.out).trans (show _ = some (Value.slice a0 len0 cap0) from rfl)
         have hlw : w.heap.size < v1.heap.size := blk_lt X1.out
         clear b1)
      | (go_at_call 23
         (with_reducible refine (HMA.out _ (HON.out _ _ HG.out B1.out) B1.out).mono ?_)
         rintro e v2 ⟨rfl, b2⟩
         have B2 := Lib.hid (thn16 B1.out b2)
         have X2 := Lib.hid (blk_on X1.out b2)
         have yy0 := y0
         clear y0 y1 hlw yy0
         have y0 := (cell_of_row v2 w.heap.size 0 _ _ (0, 0) X2.out).trans (show _ = some (Value.int .u8 mi) from rfl)
         have y1 := (cell_of_row v2 w.heap.size 1 _ _ (0, 0) X2.out).trans (show _ = some (Value.slice a0 len0 cap0) from rfl)
         have hlw : w.heap.size < v2.heap.size := blk_lt X2.out
         clear b2)
      | (go_at_call 16
         (with_reducible refine (HAW.out _ (HON.out _ _ HG.out B2.out)).mono ?_)
         rintro e v9 ⟨rfl, b9⟩
         have B9 := Lib.hid (thn16 B2.out b9)
         clear b9))
    go_ret
    exact ⟨rfl, B9.out⟩
  | true =>
    rw [hmay] at HMA
    by_cases hne : a1 = a2
    · subst hne
      have t1 : (a1.toList == a1.toList) = true := by simp
      clear hgr hmi w0 w1 w2 w3 hG HC hmay hl1 hact
      go_enter Tryz.func8, Tryz.ntmps8
      go_wp2_with (first
        | (go_at_call 9
           (with_reducible refine (HGR.out _).mono ?_)
           rintro e v1 ⟨rfl, b1⟩
           have B1 := Lib.hid (thn16 B0.out b1)
           have X1 := Lib.hid (blk_on HBX.out b1)
           have y0 := (cell_of_row v1 w.heap.size 0 _ _ (0, 0) X1.out).trans (show _ = some (Value.int .u8 mi) from rfl)
           have y1 := (cell_of_row v1 w.heap.size 1 _ _ (0, 0) X1.out).trans (show _ = some (Value.slice a0 len0 cap0) from rfl)
           have hlw : w.heap.size < v1.heap.size := blk_lt X1.out
           clear b1)
        | (go_at_call 23
           (with_reducible refine (HMA.out _ (HON.out _ _ HG.out B1.out) B1.out).mono ?_)
           rintro e v2 ⟨rfl, b2⟩
           have B2 := Lib.hid (thn16 B1.out b2)
           have X2 := Lib.hid (blk_on X1.out b2)
           have yy0 := y0
           clear y0 y1 hlw yy0
           have y0 := (cell_of_row v2 w.heap.size 0 _ _ (0, 0) X2.out).trans (show _ = some (Value.int .u8 mi) from rfl)
           have y1 := (cell_of_row v2 w.heap.size 1 _ _ (0, 0) X2.out).trans (show _ = some (Value.slice a0 len0 cap0) from rfl)
           have hlw : w.heap.size < v2.heap.size := blk_lt X2.out
           clear b2)
        | (go_at_call 16
           (with_reducible refine (HAW.out _ (HON.out _ _ HG.out B2.out)).mono ?_)
           rintro e v9 ⟨rfl, b9⟩
           have B9 := Lib.hid (thn16 B2.out b9)
           clear b9))
      go_ret
      exact ⟨rfl, B9.out⟩
    have hok := may_iff.1 hmay
    have tn : (a1.toList == a2.toList) = false := beq_eq_false_iff_ne.2 (fun e => hne (list_of_bytes10 e))
    obtain ⟨y0, y1⟩ := bounds_u32 w3
    obtain ⟨ak, rfl⟩ : ∃ k : Nat, a3 = k := ⟨a3.toNat, by omega⟩
    have hak : ak < 4294967296 := by omega
    have HPU := Lib.hid (fun (W : World) (g : G W) (h : LsAt W a0 z0) => HC.put m0 a0 len0 cap0 z0 a1 ak W g x0 w0.size.symm hl1 hact hak h)
    have HTA := Lib.hid (fun (W : World) (g : G W) (h : LsAt W a0 z0) => HC.take m0 a0 len0 cap0 z0 a1 W g x0 w0.size.symm hl1 hact h)
    have hpl := putK_len knownR m0 z0 a1 ak
    have hql := takeK_len knownR m0 z0 a1
    have hpk : putK knownR m0 z0 a1 ak = putC z0 a1 ak := by unfold putK; rw [if_pos hmay]
    have hqk : takeK knownR m0 z0 a1 = takeC z0 a1 := by unfold takeK; rw [if_pos hmay]
    rw [hpk] at HPU hpl
    rw [hqk] at HTA hql
    have hpa := put_lt (n := a1) hact hak
    have hqa := take_lt (n := a1) hact
    have fp1 := find_put z0 a1 ak a1
    have fp2 := find_put z0 a1 ak a2
    have fq1 := find_take z0 a1 a1
    have fq2 := find_take z0 a1 a2
    rw [if_pos rfl] at fp1 fq1
    rw [if_neg (fun e => hne e.symm)] at fp2 fq2
    obtain ⟨LP, hLP⟩ : ∃ L, L = putC z0 a1 ak := ⟨_, rfl⟩
    obtain ⟨LQ, hLQ⟩ : ∃ L, L = takeC z0 a1 := ⟨_, rfl⟩
    rw [← hLP] at HPU hpl hpa fp1 fp2
    rw [← hLQ] at HTA hql hqa fq1 fq2
    rw [w0.size] at hpl hql
    have HFL := Lib.hid (fun (W : World) (g : G W) (h : LsAt W a0 z0) => HC.find m0 a0 len0 cap0 z0 a2 W g x0 w0.size.symm hl1 hact h)
    have HFP1 := Lib.hid (fun (W : World) (q : Option Addr) (n c : Nat) (g : G W) (hn : n = LP.length) (h : LsAt W q LP) => HC.find m0 q n c LP a1 W g x0 hn (by omega) hpa h)
    have HFP2 := Lib.hid (fun (W : World) (q : Option Addr) (n c : Nat) (g : G W) (hn : n = LP.length) (h : LsAt W q LP) => HC.find m0 q n c LP a2 W g x0 hn (by omega) hpa h)
    have HFQ1 := Lib.hid (fun (W : World) (q : Option Addr) (n c : Nat) (g : G W) (hn : n = LQ.length) (h : LsAt W q LQ) => HC.find m0 q n c LQ a1 W g x0 hn (by omega) hqa h)
    have HFQ2 := Lib.hid (fun (W : World) (q : Option Addr) (n c : Nat) (g : G W) (hn : n = LQ.length) (h : LsAt W q LQ) => HC.find m0 q n c LQ a2 W g x0 hn (by omega) hqa h)
    rw [fp1] at HFP1
    rw [fp2] at HFP2
    rw [fq1] at HFQ1
    rw [fq2] at HFQ2
    obtain ⟨fd, hfd⟩ : ∃ x : Int, x = ((findC z0 a2).getD 0 : Nat) := ⟨_, rfl⟩
    obtain ⟨fb, hfb⟩ : ∃ b, b = (findC z0 a2).isSome := ⟨_, rfl⟩
    rw [← hfd, ← hfb] at HFL HFP2 HFQ2
    simp only [Option.getD_some, Option.getD_none, Option.isSome_some, Option.isSome_none] at HFP1 HFQ1
    unfold NewL2 lsV at HPU HTA
    unfold lsV at HFL HFP1 HFP2 HFQ1 HFQ2
    rw [← hmi] at HPU HTA HFL HFP1 HFP2 HFQ1 HFQ2
    obtain ⟨ai, hai⟩ : ∃ x : Int, x = (ak : Nat) := ⟨_, rfl⟩
    rw [← hai] at HPU HFP1 ⊢
    have W0S := Lib.hid w0.size.symm
    have HL1 := Lib.hid hl1
    have HOK := Lib.hid hok
    have HCC := Lib.hid HC
    have HX0B := Lib.hid x0
    clear hgr hmi w0 w1 w2 w3 hG HC hl1 y0 y1 hak hact hpl hql hpk hqk hpa hqa fp1 fp2 fq1 fq2 hLP hLQ hfd hfb hai x0 hmay hok hne
    go_enter Tryz.func8, Tryz.ntmps8
    go_wp2_with (first
      | (go_at_call 9
         (with_reducible refine (HGR.out _).mono ?_)
         rintro e v1 ⟨rfl, b1⟩
         have B1 := Lib.hid (thn16 B0.out b1)
         have X1 := Lib.hid (blk_on HBX.out b1)
         have y0 := (cell_of_row v1 w.heap.size 0 _ _ (0, 0) X1.out).trans (show _ = some (Value.int .u8 mi) from rfl)
         have y1 := (cell_of_row v1 w.heap.size 1 _ _ (0, 0) X1.out).trans (show _ = some (Value.slice a0 len0 cap0) from rfl)
         have hlw : w.heap.size < v1.heap.size := blk_lt X1.out
         clear b1)
      | (go_at_call 23
         (with_reducible refine (HMA.out _ (HON.out _ _ HG.out B1.out) B1.out).mono ?_)
         rintro e v2 ⟨rfl, b2⟩
         have B2 := Lib.hid (thn16 B1.out b2)
         have X2 := Lib.hid (blk_on X1.out b2)
         have yy0 := y0
         clear y0 y1 hlw yy0
         have y0 := (cell_of_row v2 w.heap.size 0 _ _ (0, 0) X2.out).trans (show _ = some (Value.int .u8 mi) from rfl)
         have y1 := (cell_of_row v2 w.heap.size 1 _ _ (0, 0) X2.out).trans (show _ = some (Value.slice a0 len0 cap0) from rfl)
         have hlw : w.heap.size < v2.heap.size := blk_lt X2.out
         clear b2))
    have HX0 := Lib.hid y0
    have HX1 := Lib.hid y1
    have HLB := Lib.hid hlw
    clear y0 y1 hlw
    refine key16 (F := Two16 v2 mi LP LQ) (R := ?R) ?h1 ?h2
    case h1 =>
      intro KEY
      refine wp_region_held_drew (S := (fun w' => Below v2.heap.size v2 w' ∧ w'.cell? ⟨w.heap.size, 0, none⟩ = some (.int .u8 mi) ∧ w'.cell? ⟨w.heap.size, 1, none⟩ = some (.slice a0 len0 cap0))) (by kernel_rfl) ?_ (fun hHeld0 => ?_)
      · exact ⟨(Below.refl _ _).drew, HX0.out, HX1.out⟩
      obtain ⟨X0, hX0⟩ : ∃ X, X = v2.drew := ⟨_, rfl⟩
      rw [← hX0] at hHeld0 ⊢
      have hHeld := hHeld0
      clear hHeld0 hX0
      refine take_op2 (i := 0) (v := ?_) rfl (by kernel_rfl) (by kernel_rfl) (by kernel_rfl) (fun _ _ _ h => h) (Or.inl ⟨wanted_plain rfl, ?_⟩) (by assumption) ?_
      rotate_left
      · (intro w hSw; (try dsimp only at hSw); go_simp; try with_reducible rfl)
      intro act_ hact_; simp only [Act.put, List.setIfInBounds_toArray, List.set_cons_zero, List.set_cons_succ] at hact_; subst hact_
      refine take_op2 (i := 1) (v := ?_) rfl (by kernel_rfl) (by kernel_rfl) (by kernel_rfl) (fun _ _ _ h => h) (Or.inl ⟨wanted_plain rfl, ?_⟩) (by assumption) ?_
      rotate_left
      · (intro w hSw; (try dsimp only at hSw); go_simp; try with_reducible rfl)
      intro act_ hact_; simp only [Act.put, List.setIfInBounds_toArray, List.set_cons_zero, List.set_cons_succ] at hact_; subst hact_
      refine take_op2 (i := 2) (v := ?_) rfl (by kernel_rfl) (by kernel_rfl) (by kernel_rfl) (fun _ _ _ h => h) (Or.inl ⟨wanted_plain rfl, ?_⟩) (by assumption) ?_
      rotate_left
      · (intro w hSw; (try dsimp only at hSw); go_simp; try with_reducible rfl)
      intro act_ hact_; simp only [Act.put, List.setIfInBounds_toArray, List.set_cons_zero, List.set_cons_succ] at hact_; subst hact_
      refine take_op2 (i := 4) (v := ?_) rfl (by kernel_rfl) (by kernel_rfl) (by kernel_rfl) (fun _ _ _ h => h) (Or.inl ⟨wanted_plain rfl, ?_⟩) (by assumption) ?_
      rotate_left
      · (intro w hSw; (try dsimp only at hSw); go_simp; try with_reducible rfl)
      intro act_ hact_; simp only [Act.put, List.setIfInBounds_toArray, List.set_cons_zero, List.set_cons_succ] at hact_; subst hact_
      refine take_op2 (i := 5) (v := ?_) rfl (by kernel_rfl) (by kernel_rfl) (by kernel_rfl) (fun _ _ _ h => h) (Or.inl ⟨wanted_plain rfl, ?_⟩) (by assumption) ?_
      rotate_left
      · (intro w hSw; (try dsimp only at hSw); go_simp; try with_reducible rfl)
      intro act_ hact_; simp only [Act.put, List.setIfInBounds_toArray, List.set_cons_zero, List.set_cons_succ] at hact_; subst hact_
      refine wpAnyH_ready (rs := [3, 7, 8]) (by kernel_rfl) (List.cons_ne_nil _ _) ?_
      refine AllReadyH.cons rfl (fun K hK => ?_) ?_
      · go_simp
        go_wp2_with (go_at_call 21; ((with_reducible refine (HPU.out _ (HON.out _ _ (HON.out _ _ HG.out B2.out) hHeld.1) (HRD.out.on (thn16 B2.out hHeld.1))).mono ?_); rintro e X1 ⟨qp, np, cp, rfl, lp, op, bp⟩); have NP := Lib.hid lp; clear lp)
        have OP := Lib.hid (owns_low16 op hHeld.1.size)
        have b := bp
        clear op bp
        refine hK.out _ _ ?_ (fun hHeld2 => ?_)
        · exact ⟨hHeld.1.trans (b.mono hHeld.1.size), (b.cell (World.block_lt_of_cell? _ _ hHeld.2.1)).trans hHeld.2.1, (b.cell (World.block_lt_of_cell? _ _ hHeld.2.2)).trans hHeld.2.2⟩
        clear hK K
        clear b
        have hHeld := hHeld2
        clear hHeld2
        refine wpAnyH_ready (rs := [6, 7, 8]) (by kernel_rfl) (List.cons_ne_nil _ _) ?_
        refine AllReadyH.cons rfl (fun K hK => ?_) ?_
        · go_simp
          go_wp2_with (go_at_call 22; ((with_reducible refine (HTA.out _ (HON.out _ _ (HON.out _ _ HG.out B2.out) hHeld.1) (HRD.out.on (thn16 B2.out hHeld.1))).mono ?_); rintro e X2 ⟨qt, nt, ct, rfl, lq, oq, bq⟩); have NQ := Lib.hid lq; clear lq)
          obtain ⟨Bt, hBt⟩ : ∃ b, b = X1.heap.size := ⟨_, rfl⟩
          rw [← hBt] at oq
          have SEP := Lib.hid (show ∀ j, qp = some ⟨j, 0, none⟩ → j < Bt from hBt ▸ own_sep16 OP.out)
          have HBt := Lib.hid (show v2.heap.size ≤ Bt from hBt ▸ hHeld.1.size)
          have OQ := Lib.hid oq
          have b := bq
          clear oq bq hBt
          have OP := Lib.hid (owns_on16 OP.out b)
          refine hK.out _ _ ?_ (fun hHeld2 => ?_)
          · exact ⟨hHeld.1.trans (b.mono hHeld.1.size), (b.cell (World.block_lt_of_cell? _ _ hHeld.2.1)).trans hHeld.2.1, (b.cell (World.block_lt_of_cell? _ _ hHeld.2.2)).trans hHeld.2.2⟩
          clear hK K
          clear b
          have hHeld := hHeld2
          clear hHeld2
          refine wpAnyH_ready (rs := [7, 8]) (by kernel_rfl) (List.cons_ne_nil _ _) ?_
          refine AllReadyH.cons rfl (fun K hK => ?_) ?_
          · go_simp
            refine hK.out _ _ ?_ (fun hHeld2 => ?_)
            · exact ⟨hHeld.1.trans ((below16 X2 (.cells #[.int .u8 0, .slice none 0 0] 24)).mono hHeld.1.size), ((below16 X2 (.cells #[.int .u8 0, .slice none 0 0] 24)).cell (World.block_lt_of_cell? _ _ hHeld.2.1)).trans hHeld.2.1, ((below16 X2 (.cells #[.int .u8 0, .slice none 0 0] 24)).cell (World.block_lt_of_cell? _ _ hHeld.2.2)).trans hHeld.2.2⟩
            clear hK K
            obtain ⟨X3, hN⟩ : ∃ X, X = X2.alloc (.cells #[.int .u8 0, .slice none 0 0] 24) := ⟨_, rfl⟩
            have b : Below X2.heap.size X2 X3 := hN ▸ below16 X2 (.cells #[.int .u8 0, .slice none 0 0] 24)
            have ZA0 := Lib.hid (show X3.heap[X2.heap.size]? = some (.cells #[.int .u8 0, .slice none 0 0] 24 (0, 0)) from hN ▸ heap_alloc_new X2 _)
            rw [← hN] at hHeld2 ⊢
            have OP := Lib.hid (owns_on16 OP.out b)
            have OQ := Lib.hid (owns_on16 OQ.out b)
            obtain ⟨ga, hg⟩ : ∃ g, g = X2.heap.size := ⟨_, rfl⟩
            have GA := Lib.hid (show v2.heap.size ≤ ga from hg ▸ hHeld.1.size)
            rw [← hg] at ZA0 ⊢
            have ZA := ZA0
            clear ZA0 b hN hg
            have hHeld := hHeld2
            clear hHeld2
            refine wpAnyH_ready (rs := [8]) (by kernel_rfl) (List.cons_ne_nil _ _) ?_
            refine AllReadyH.cons rfl (fun K hK => ?_) AllReadyH.nil
            go_simp
            refine hK.out _ _ ?_ (fun hHeld2 => ?_)
            · exact ⟨hHeld.1.trans ((below16 X3 (.cells #[.int .u8 0, .slice none 0 0] 24)).mono hHeld.1.size), ((below16 X3 (.cells #[.int .u8 0, .slice none 0 0] 24)).cell (World.block_lt_of_cell? _ _ hHeld.2.1)).trans hHeld.2.1, ((below16 X3 (.cells #[.int .u8 0, .slice none 0 0] 24)).cell (World.block_lt_of_cell? _ _ hHeld.2.2)).trans hHeld.2.2⟩
            clear hK K
            obtain ⟨X4, hN⟩ : ∃ X, X = X3.alloc (.cells #[.int .u8 0, .slice none 0 0] 24) := ⟨_, rfl⟩
            have b : Below X3.heap.size X3 X4 := hN ▸ below16 X3 (.cells #[.int .u8 0, .slice none 0 0] 24)
            have ZB0 := Lib.hid (show X4.heap[X3.heap.size]? = some (.cells #[.int .u8 0, .slice none 0 0] 24 (0, 0)) from hN ▸ heap_alloc_new X3 _)
            rw [← hN] at hHeld2 ⊢
            have HNE := Lib.hid (show ga ≠ X3.heap.size from Nat.ne_of_lt (blk_lt ZA.out))
            have OP := Lib.hid (owns_on16 OP.out b)
            have OQ := Lib.hid (owns_on16 OQ.out b)
            have ZA := Lib.hid (blk_on ZA.out b)
            obtain ⟨gb, hg⟩ : ∃ g, g = X3.heap.size := ⟨_, rfl⟩
            have GB := Lib.hid (show v2.heap.size ≤ gb from hg ▸ hHeld.1.size)
            rw [← hg] at ZB0 HNE ⊢
            have ZB := ZB0
            clear ZB0 b hN hg
            have hHeld := hHeld2
            clear hHeld2
            refine wpAnyH_ready (rs := [9]) (by kernel_rfl) (List.cons_ne_nil _ _) ?_
            refine AllReadyH.cons rfl (fun K hK => ?_) AllReadyH.nil
            have z0 := (cell_of_row X4 ga 0 _ _ (0, 0) ZA.out).trans (show _ = some (Value.int .u8 0) from rfl)
            have z1 := (cell_of_row X4 ga 1 _ _ (0, 0) ZA.out).trans (show _ = some (Value.slice none 0 0) from rfl)
            have zf0 := frozen_of_row X4 ga 0 _ _ ZA.out
            have zf1 := frozen_of_row X4 ga 1 _ _ ZA.out
            go_simp
            refine hK.out _ _ ?_ (fun hHeld2 => ?_)
            · exact (fun HB => ⟨HB, (HB.cell (p := ⟨w.heap.size, 0, none⟩) HLB.out).trans HX0.out, (HB.cell (p := ⟨w.heap.size, 1, none⟩) HLB.out).trans HX1.out⟩) ((hHeld.1.setCell (p := ⟨ga, 0, none⟩) GA.out _).setCell (p := ⟨ga, 1, none⟩) GA.out _)
            clear hK K
            clear z0 z1 zf0 zf1
            have OP1 := Lib.hid (show ((X4.setCell ⟨ga, 0, none⟩ (.int .u8 mi)).setCell ⟨ga, 1, none⟩ (.slice qp np cp)).ownsRow _ 51 2 (.slice qp np cp) np _ from own_box16 ZA.out (by decide) OP.out [.int .u8 mi, .slice qp np cp])
            have OQ1 := Lib.hid (show ((X4.setCell ⟨ga, 0, none⟩ (.int .u8 mi)).setCell ⟨ga, 1, none⟩ (.slice qp np cp)).ownsRow _ 51 2 (.slice qt nt ct) nt _ from own_box16 ZA.out (by decide) OQ.out [.int .u8 mi, .slice qp np cp])
            have ZN := Lib.hid (show ((X4.setCell ⟨ga, 0, none⟩ (.int .u8 mi)).setCell ⟨ga, 1, none⟩ (.slice qp np cp)).heap[ga]? = some (.cells #[.int .u8 mi, .slice qp np cp] 24 (0, 0)) from by have hz2 := ZA.out; simp [World.setCell, Array.getElem?_modify, hz2])
            have ZO := Lib.hid (show ((X4.setCell ⟨ga, 0, none⟩ (.int .u8 mi)).setCell ⟨ga, 1, none⟩ (.slice qp np cp)).heap[gb]? = _ from ((heap_setCell_other _ ⟨ga, 1, none⟩ gb _ (fun e => HNE.out e.symm)).trans (heap_setCell_other _ ⟨ga, 0, none⟩ gb _ (fun e => HNE.out e.symm))).trans ZB.out)
            generalize (X4.setCell ⟨ga, 0, none⟩ (.int .u8 mi)).setCell ⟨ga, 1, none⟩ (.slice qp np cp) = X5 at OP1 OQ1 ZN ZO hHeld2 ⊢
            clear ZA ZB OP OQ hHeld
            have OP := OP1
            have OQ := OQ1
            have ZA := ZN
            have ZB := ZO
            have hHeld := hHeld2
            clear OP1 OQ1 ZN ZO hHeld2
            refine wpAnyH_ready (rs := [10]) (by kernel_rfl) (List.cons_ne_nil _ _) ?_
            refine AllReadyH.cons rfl (fun K hK => ?_) AllReadyH.nil
            have z0 := (cell_of_row X5 gb 0 _ _ (0, 0) ZB.out).trans (show _ = some (Value.int .u8 0) from rfl)
            have z1 := (cell_of_row X5 gb 1 _ _ (0, 0) ZB.out).trans (show _ = some (Value.slice none 0 0) from rfl)
            have zf0 := frozen_of_row X5 gb 0 _ _ ZB.out
            have zf1 := frozen_of_row X5 gb 1 _ _ ZB.out
            go_simp
            refine hK.out _ _ ?_ (fun hHeld2 => ?_)
            · exact (fun HB => ⟨HB, (HB.cell (p := ⟨w.heap.size, 0, none⟩) HLB.out).trans HX0.out, (HB.cell (p := ⟨w.heap.size, 1, none⟩) HLB.out).trans HX1.out⟩) ((hHeld.1.setCell (p := ⟨gb, 0, none⟩) GB.out _).setCell (p := ⟨gb, 1, none⟩) GB.out _)
            clear hK K
            clear z0 z1 zf0 zf1
            have OP1 := Lib.hid (show ((X5.setCell ⟨gb, 0, none⟩ (.int .u8 mi)).setCell ⟨gb, 1, none⟩ (.slice qt nt ct)).ownsRow _ 51 2 (.slice qp np cp) np _ from own_box16 ZB.out (by decide) OP.out [.int .u8 mi, .slice qt nt ct])
            have OQ1 := Lib.hid (show ((X5.setCell ⟨gb, 0, none⟩ (.int .u8 mi)).setCell ⟨gb, 1, none⟩ (.slice qt nt ct)).ownsRow _ 51 2 (.slice qt nt ct) nt _ from own_box16 ZB.out (by decide) OQ.out [.int .u8 mi, .slice qt nt ct])
            have ZN := Lib.hid (show ((X5.setCell ⟨gb, 0, none⟩ (.int .u8 mi)).setCell ⟨gb, 1, none⟩ (.slice qt nt ct)).heap[gb]? = some (.cells #[.int .u8 mi, .slice qt nt ct] 24 (0, 0)) from by have hz2 := ZB.out; simp [World.setCell, Array.getElem?_modify, hz2])
            have ZO := Lib.hid (show ((X5.setCell ⟨gb, 0, none⟩ (.int .u8 mi)).setCell ⟨gb, 1, none⟩ (.slice qt nt ct)).heap[ga]? = _ from ((heap_setCell_other _ ⟨gb, 1, none⟩ ga _ HNE.out).trans (heap_setCell_other _ ⟨gb, 0, none⟩ ga _ HNE.out)).trans ZA.out)
            generalize (X5.setCell ⟨gb, 0, none⟩ (.int .u8 mi)).setCell ⟨gb, 1, none⟩ (.slice qt nt ct) = X6 at OP1 OQ1 ZN ZO hHeld2 ⊢
            clear ZB ZA OP OQ hHeld
            have OP := OP1
            have OQ := OQ1
            have ZB := ZN
            have ZA := ZO
            have hHeld := hHeld2
            clear OP1 OQ1 ZN ZO hHeld2
            refine wpAnyH_done (by kernel_rfl) ?_ _
            exact KEY X6 ga gb qp np cp qt nt ct ⟨hHeld.1, ZA.out, ZB.out, GA.out, GB.out, HNE.out, NP.out, NQ.out, OP.out, Bt, HBt.out, OQ.out, SEP.out⟩
          refine AllReadyH.cons rfl (fun K hK => ?_) ?_
          · go_simp
            refine hK.out _ _ ?_ (fun hHeld2 => ?_)
            · exact ⟨hHeld.1.trans ((below16 X2 (.cells #[.int .u8 0, .slice none 0 0] 24)).mono hHeld.1.size), ((below16 X2 (.cells #[.int .u8 0, .slice none 0 0] 24)).cell (World.block_lt_of_cell? _ _ hHeld.2.1)).trans hHeld.2.1, ((below16 X2 (.cells #[.int .u8 0, .slice none 0 0] 24)).cell (World.block_lt_of_cell? _ _ hHeld.2.2)).trans hHeld.2.2⟩
            clear hK K
            obtain ⟨X3, hN⟩ : ∃ X, X = X2.alloc (.cells #[.int .u8 0, .slice none 0 0] 24) := ⟨_, rfl⟩
            have b : Below X2.heap.size X2 X3 := hN ▸ below16 X2 (.cells #[.int .u8 0, .slice none 0 0] 24)
            have ZB0 := Lib.hid (show X3.heap[X2.heap.size]? = some (.cells #[.int .u8 0, .slice none 0 0] 24 (0, 0)) from hN ▸ heap_alloc_new X2 _)
            rw [← hN] at hHeld2 ⊢
            have OP := Lib.hid (owns_on16 OP.out b)
            have OQ := Lib.hid (owns_on16 OQ.out b)
            obtain ⟨gb, hg⟩ : ∃ g, g = X2.heap.size := ⟨_, rfl⟩
            have GB := Lib.hid (show v2.heap.size ≤ gb from hg ▸ hHeld.1.size)
            rw [← hg] at ZB0 ⊢
            have ZB := ZB0
            clear ZB0 b hN hg
            have hHeld := hHeld2
            clear hHeld2
            refine wpAnyH_ready (rs := [7]) (by kernel_rfl) (List.cons_ne_nil _ _) ?_
            refine AllReadyH.cons rfl (fun K hK => ?_) AllReadyH.nil
            go_simp
            refine hK.out _ _ ?_ (fun hHeld2 => ?_)
            · exact ⟨hHeld.1.trans ((below16 X3 (.cells #[.int .u8 0, .slice none 0 0] 24)).mono hHeld.1.size), ((below16 X3 (.cells #[.int .u8 0, .slice none 0 0] 24)).cell (World.block_lt_of_cell? _ _ hHeld.2.1)).trans hHeld.2.1, ((below16 X3 (.cells #[.int .u8 0, .slice none 0 0] 24)).cell (World.block_lt_of_cell? _ _ hHeld.2.2)).trans hHeld.2.2⟩
            clear hK K
            obtain ⟨X4, hN⟩ : ∃ X, X = X3.alloc (.cells #[.int .u8 0, .slice none 0 0] 24) := ⟨_, rfl⟩
            have b : Below X3.heap.size X3 X4 := hN ▸ below16 X3 (.cells #[.int .u8 0, .slice none 0 0] 24)
            have ZA0 := Lib.hid (show X4.heap[X3.heap.size]? = some (.cells #[.int .u8 0, .slice none 0 0] 24 (0, 0)) from hN ▸ heap_alloc_new X3 _)
            rw [← hN] at hHeld2 ⊢
            have HNE := Lib.hid (show X3.heap.size ≠ gb from Nat.ne_of_gt (blk_lt ZB.out))
            have OP := Lib.hid (owns_on16 OP.out b)
            have OQ := Lib.hid (owns_on16 OQ.out b)
            have ZB := Lib.hid (blk_on ZB.out b)
            obtain ⟨ga, hg⟩ : ∃ g, g = X3.heap.size := ⟨_, rfl⟩
            have GA := Lib.hid (show v2.heap.size ≤ ga from hg ▸ hHeld.1.size)
            rw [← hg] at ZA0 HNE ⊢
            have ZA := ZA0
            clear ZA0 b hN hg
            have hHeld := hHeld2
            clear hHeld2
            refine wpAnyH_ready (rs := [9]) (by kernel_rfl) (List.cons_ne_nil _ _) ?_
            refine AllReadyH.cons rfl (fun K hK => ?_) AllReadyH.nil
            have z0 := (cell_of_row X4 ga 0 _ _ (0, 0) ZA.out).trans (show _ = some (Value.int .u8 0) from rfl)
            have z1 := (cell_of_row X4 ga 1 _ _ (0, 0) ZA.out).trans (show _ = some (Value.slice none 0 0) from rfl)
            have zf0 := frozen_of_row X4 ga 0 _ _ ZA.out
            have zf1 := frozen_of_row X4 ga 1 _ _ ZA.out
            go_simp
            refine hK.out _ _ ?_ (fun hHeld2 => ?_)
            · exact (fun HB => ⟨HB, (HB.cell (p := ⟨w.heap.size, 0, none⟩) HLB.out).trans HX0.out, (HB.cell (p := ⟨w.heap.size, 1, none⟩) HLB.out).trans HX1.out⟩) ((hHeld.1.setCell (p := ⟨ga, 0, none⟩) GA.out _).setCell (p := ⟨ga, 1, none⟩) GA.out _)
            clear hK K
            clear z0 z1 zf0 zf1
            have OP1 := Lib.hid (show ((X4.setCell ⟨ga, 0, none⟩ (.int .u8 mi)).setCell ⟨ga, 1, none⟩ (.slice qp np cp)).ownsRow _ 51 2 (.slice qp np cp) np _ from own_box16 ZA.out (by decide) OP.out [.int .u8 mi, .slice qp np cp])
            have OQ1 := Lib.hid (show ((X4.setCell ⟨ga, 0, none⟩ (.int .u8 mi)).setCell ⟨ga, 1, none⟩ (.slice qp np cp)).ownsRow _ 51 2 (.slice qt nt ct) nt _ from own_box16 ZA.out (by decide) OQ.out [.int .u8 mi, .slice qp np cp])
            have ZN := Lib.hid (show ((X4.setCell ⟨ga, 0, none⟩ (.int .u8 mi)).setCell ⟨ga, 1, none⟩ (.slice qp np cp)).heap[ga]? = some (.cells #[.int .u8 mi, .slice qp np cp] 24 (0, 0)) from by have hz2 := ZA.out; simp [World.setCell, Array.getElem?_modify, hz2])
            have ZO := Lib.hid (show ((X4.setCell ⟨ga, 0, none⟩ (.int .u8 mi)).setCell ⟨ga, 1, none⟩ (.slice qp np cp)).heap[gb]? = _ from ((heap_setCell_other _ ⟨ga, 1, none⟩ gb _ (fun e => HNE.out e.symm)).trans (heap_setCell_other _ ⟨ga, 0, none⟩ gb _ (fun e => HNE.out e.symm))).trans ZB.out)
            generalize (X4.setCell ⟨ga, 0, none⟩ (.int .u8 mi)).setCell ⟨ga, 1, none⟩ (.slice qp np cp) = X5 at OP1 OQ1 ZN ZO hHeld2 ⊢
            clear ZA ZB OP OQ hHeld
            have OP := OP1
            have OQ := OQ1
            have ZA := ZN
            have ZB := ZO
            have hHeld := hHeld2
            clear OP1 OQ1 ZN ZO hHeld2
            refine wpAnyH_ready (rs := [10]) (by kernel_rfl) (List.cons_ne_nil _ _) ?_
            refine AllReadyH.cons rfl (fun K hK => ?_) AllReadyH.nil
            have z0 := (cell_of_row X5 gb 0 _ _ (0, 0) ZB.out).trans (show _ = some (Value.int .u8 0) from rfl)
            have z1 := (cell_of_row X5 gb 1 _ _ (0, 0) ZB.out).trans (show _ = some (Value.slice none 0 0) from rfl)
            have zf0 := frozen_of_row X5 gb 0 _ _ ZB.out
            have zf1 := frozen_of_row X5 gb 1 _ _ ZB.out
            go_simp
            refine hK.out _ _ ?_ (fun hHeld2 => ?_)
            · exact (fun HB => ⟨HB, (HB.cell (p := ⟨w.heap.size, 0, none⟩) HLB.out).trans HX0.out, (HB.cell (p := ⟨w.heap.size, 1, none⟩) HLB.out).trans HX1.out⟩) ((hHeld.1.setCell (p := ⟨gb, 0, none⟩) GB.out _).setCell (p := ⟨gb, 1, none⟩) GB.out _)
            clear hK K
            clear z0 z1 zf0 zf1
            have OP1 := Lib.hid (show ((X5.setCell ⟨gb, 0, none⟩ (.int .u8 mi)).setCell ⟨gb, 1, none⟩ (.slice qt nt ct)).ownsRow _ 51 2 (.slice qp np cp) np _ from own_box16 ZB.out (by decide) OP.out [.int .u8 mi, .slice qt nt ct])
            have OQ1 := Lib.hid (show ((X5.setCell ⟨gb, 0, none⟩ (.int .u8 mi)).setCell ⟨gb, 1, none⟩ (.slice qt nt ct)).ownsRow _ 51 2 (.slice qt nt ct) nt _ from own_box16 ZB.out (by decide) OQ.out [.int .u8 mi, .slice qt nt ct])
            have ZN := Lib.hid (show ((X5.setCell ⟨gb, 0, none⟩ (.int .u8 mi)).setCell ⟨gb, 1, none⟩ (.slice qt nt ct)).heap[gb]? = some (.cells #[.int .u8 mi, .slice qt nt ct] 24 (0, 0)) from by have hz2 := ZB.out; simp [World.setCell, Array.getElem?_modify, hz2])
            have ZO := Lib.hid (show ((X5.setCell ⟨gb, 0, none⟩ (.int .u8 mi)).setCell ⟨gb, 1, none⟩ (.slice qt nt ct)).heap[ga]? = _ from ((heap_setCell_other _ ⟨gb, 1, none⟩ ga _ HNE.out).trans (heap_setCell_other _ ⟨gb, 0, none⟩ ga _ HNE.out)).trans ZA.out)
            generalize (X5.setCell ⟨gb, 0, none⟩ (.int .u8 mi)).setCell ⟨gb, 1, none⟩ (.slice qt nt ct) = X6 at OP1 OQ1 ZN ZO hHeld2 ⊢
            clear ZB ZA OP OQ hHeld
            have OP := OP1
            have OQ := OQ1
            have ZB := ZN
            have ZA := ZO
            have hHeld := hHeld2
            clear OP1 OQ1 ZN ZO hHeld2
            refine wpAnyH_done (by kernel_rfl) ?_ _
            exact KEY X6 ga gb qp np cp qt nt ct ⟨hHeld.1, ZA.out, ZB.out, GA.out, GB.out, HNE.out, NP.out, NQ.out, OP.out, Bt, HBt.out, OQ.out, SEP.out⟩
          exact AllReadyH.nil
        refine AllReadyH.cons rfl (fun K hK => ?_) ?_
        · go_simp
          refine hK.out _ _ ?_ (fun hHeld2 => ?_)
          · exact ⟨hHeld.1.trans ((below16 X1 (.cells #[.int .u8 0, .slice none 0 0] 24)).mono hHeld.1.size), ((below16 X1 (.cells #[.int .u8 0, .slice none 0 0] 24)).cell (World.block_lt_of_cell? _ _ hHeld.2.1)).trans hHeld.2.1, ((below16 X1 (.cells #[.int .u8 0, .slice none 0 0] 24)).cell (World.block_lt_of_cell? _ _ hHeld.2.2)).trans hHeld.2.2⟩
          clear hK K
          obtain ⟨X2, hN⟩ : ∃ X, X = X1.alloc (.cells #[.int .u8 0, .slice none 0 0] 24) := ⟨_, rfl⟩
          have b : Below X1.heap.size X1 X2 := hN ▸ below16 X1 (.cells #[.int .u8 0, .slice none 0 0] 24)
          have ZA0 := Lib.hid (show X2.heap[X1.heap.size]? = some (.cells #[.int .u8 0, .slice none 0 0] 24 (0, 0)) from hN ▸ heap_alloc_new X1 _)
          rw [← hN] at hHeld2 ⊢
          have OP := Lib.hid (owns_on16 OP.out b)
          obtain ⟨ga, hg⟩ : ∃ g, g = X1.heap.size := ⟨_, rfl⟩
          have GA := Lib.hid (show v2.heap.size ≤ ga from hg ▸ hHeld.1.size)
          rw [← hg] at ZA0 ⊢
          have ZA := ZA0
          clear ZA0 b hN hg
          have hHeld := hHeld2
          clear hHeld2
          refine wpAnyH_ready (rs := [6, 8]) (by kernel_rfl) (List.cons_ne_nil _ _) ?_
          refine AllReadyH.cons rfl (fun K hK => ?_) ?_
          · go_simp
            go_wp2_with (go_at_call 22; ((with_reducible refine (HTA.out _ (HON.out _ _ (HON.out _ _ HG.out B2.out) hHeld.1) (HRD.out.on (thn16 B2.out hHeld.1))).mono ?_); rintro e X3 ⟨qt, nt, ct, rfl, lq, oq, bq⟩); have NQ := Lib.hid lq; clear lq)
            obtain ⟨Bt, hBt⟩ : ∃ b, b = X2.heap.size := ⟨_, rfl⟩
            rw [← hBt] at oq
            have SEP := Lib.hid (show ∀ j, qp = some ⟨j, 0, none⟩ → j < Bt from hBt ▸ own_sep16 OP.out)
            have HBt := Lib.hid (show v2.heap.size ≤ Bt from hBt ▸ hHeld.1.size)
            have OQ := Lib.hid oq
            have b := bq
            clear oq bq hBt
            have OP := Lib.hid (owns_on16 OP.out b)
            have ZA := Lib.hid (blk_on ZA.out b)
            refine hK.out _ _ ?_ (fun hHeld2 => ?_)
            · exact ⟨hHeld.1.trans (b.mono hHeld.1.size), (b.cell (World.block_lt_of_cell? _ _ hHeld.2.1)).trans hHeld.2.1, (b.cell (World.block_lt_of_cell? _ _ hHeld.2.2)).trans hHeld.2.2⟩
            clear hK K
            clear b
            have hHeld := hHeld2
            clear hHeld2
            refine wpAnyH_ready (rs := [8]) (by kernel_rfl) (List.cons_ne_nil _ _) ?_
            refine AllReadyH.cons rfl (fun K hK => ?_) AllReadyH.nil
            go_simp
            refine hK.out _ _ ?_ (fun hHeld2 => ?_)
            · exact ⟨hHeld.1.trans ((below16 X3 (.cells #[.int .u8 0, .slice none 0 0] 24)).mono hHeld.1.size), ((below16 X3 (.cells #[.int .u8 0, .slice none 0 0] 24)).cell (World.block_lt_of_cell? _ _ hHeld.2.1)).trans hHeld.2.1, ((below16 X3 (.cells #[.int .u8 0, .slice none 0 0] 24)).cell (World.block_lt_of_cell? _ _ hHeld.2.2)).trans hHeld.2.2⟩
            clear hK K
            obtain ⟨X4, hN⟩ : ∃ X, X = X3.alloc (.cells #[.int .u8 0, .slice none 0 0] 24) := ⟨_, rfl⟩
            have b : Below X3.heap.size X3 X4 := hN ▸ below16 X3 (.cells #[.int .u8 0, .slice none 0 0] 24)
            have ZB0 := Lib.hid (show X4.heap[X3.heap.size]? = some (.cells #[.int .u8 0, .slice none 0 0] 24 (0, 0)) from hN ▸ heap_alloc_new X3 _)
            rw [← hN] at hHeld2 ⊢
            have HNE := Lib.hid (show ga ≠ X3.heap.size from Nat.ne_of_lt (blk_lt ZA.out))
            have OP := Lib.hid (owns_on16 OP.out b)
            have OQ := Lib.hid (owns_on16 OQ.out b)
            have ZA := Lib.hid (blk_on ZA.out b)
            obtain ⟨gb, hg⟩ : ∃ g, g = X3.heap.size := ⟨_, rfl⟩
            have GB := Lib.hid (show v2.heap.size ≤ gb from hg ▸ hHeld.1.size)
            rw [← hg] at ZB0 HNE ⊢
            have ZB := ZB0
            clear ZB0 b hN hg
            have hHeld := hHeld2
            clear hHeld2
            refine wpAnyH_ready (rs := [9]) (by kernel_rfl) (List.cons_ne_nil _ _) ?_
            refine AllReadyH.cons rfl (fun K hK => ?_) AllReadyH.nil
            have z0 := (cell_of_row X4 ga 0 _ _ (0, 0) ZA.out).trans (show _ = some (Value.int .u8 0) from rfl)
            have z1 := (cell_of_row X4 ga 1 _ _ (0, 0) ZA.out).trans (show _ = some (Value.slice none 0 0) from rfl)
            have zf0 := frozen_of_row X4 ga 0 _ _ ZA.out
            have zf1 := frozen_of_row X4 ga 1 _ _ ZA.out
            go_simp
            refine hK.out _ _ ?_ (fun hHeld2 => ?_)
            · exact (fun HB => ⟨HB, (HB.cell (p := ⟨w.heap.size, 0, none⟩) HLB.out).trans HX0.out, (HB.cell (p := ⟨w.heap.size, 1, none⟩) HLB.out).trans HX1.out⟩) ((hHeld.1.setCell (p := ⟨ga, 0, none⟩) GA.out _).setCell (p := ⟨ga, 1, none⟩) GA.out _)
            clear hK K
            clear z0 z1 zf0 zf1
            have OP1 := Lib.hid (show ((X4.setCell ⟨ga, 0, none⟩ (.int .u8 mi)).setCell ⟨ga, 1, none⟩ (.slice qp np cp)).ownsRow _ 51 2 (.slice qp np cp) np _ from own_box16 ZA.out (by decide) OP.out [.int .u8 mi, .slice qp np cp])
            have OQ1 := Lib.hid (show ((X4.setCell ⟨ga, 0, none⟩ (.int .u8 mi)).setCell ⟨ga, 1, none⟩ (.slice qp np cp)).ownsRow _ 51 2 (.slice qt nt ct) nt _ from own_box16 ZA.out (by decide) OQ.out [.int .u8 mi, .slice qp np cp])
            have ZN := Lib.hid (show ((X4.setCell ⟨ga, 0, none⟩ (.int .u8 mi)).setCell ⟨ga, 1, none⟩ (.slice qp np cp)).heap[ga]? = some (.cells #[.int .u8 mi, .slice qp np cp] 24 (0, 0)) from by have hz2 := ZA.out; simp [World.setCell, Array.getElem?_modify, hz2])
            have ZO := Lib.hid (show ((X4.setCell ⟨ga, 0, none⟩ (.int .u8 mi)).setCell ⟨ga, 1, none⟩ (.slice qp np cp)).heap[gb]? = _ from ((heap_setCell_other _ ⟨ga, 1, none⟩ gb _ (fun e => HNE.out e.symm)).trans (heap_setCell_other _ ⟨ga, 0, none⟩ gb _ (fun e => HNE.out e.symm))).trans ZB.out)
            generalize (X4.setCell ⟨ga, 0, none⟩ (.int .u8 mi)).setCell ⟨ga, 1, none⟩ (.slice qp np cp) = X5 at OP1 OQ1 ZN ZO hHeld2 ⊢
            clear ZA ZB OP OQ hHeld
            have OP := OP1
            have OQ := OQ1
            have ZA := ZN
            have ZB := ZO
            have hHeld := hHeld2
            clear OP1 OQ1 ZN ZO hHeld2
            refine wpAnyH_ready (rs := [10]) (by kernel_rfl) (List.cons_ne_nil _ _) ?_
            refine AllReadyH.cons rfl (fun K hK => ?_) AllReadyH.nil
            have z0 := (cell_of_row X5 gb 0 _ _ (0, 0) ZB.out).trans (show _ = some (Value.int .u8 0) from rfl)
            have z1 := (cell_of_row X5 gb 1 _ _ (0, 0) ZB.out).trans (show _ = some (Value.slice none 0 0) from rfl)
            have zf0 := frozen_of_row X5 gb 0 _ _ ZB.out
            have zf1 := frozen_of_row X5 gb 1 _ _ ZB.out
            go_simp
            refine hK.out _ _ ?_ (fun hHeld2 => ?_)
            · exact (fun HB => ⟨HB, (HB.cell (p := ⟨w.heap.size, 0, none⟩) HLB.out).trans HX0.out, (HB.cell (p := ⟨w.heap.size, 1, none⟩) HLB.out).trans HX1.out⟩) ((hHeld.1.setCell (p := ⟨gb, 0, none⟩) GB.out _).setCell (p := ⟨gb, 1, none⟩) GB.out _)
            clear hK K
            clear z0 z1 zf0 zf1
            have OP1 := Lib.hid (show ((X5.setCell ⟨gb, 0, none⟩ (.int .u8 mi)).setCell ⟨gb, 1, none⟩ (.slice qt nt ct)).ownsRow _ 51 2 (.slice qp np cp) np _ from own_box16 ZB.out (by decide) OP.out [.int .u8 mi, .slice qt nt ct])
            have OQ1 := Lib.hid (show ((X5.setCell ⟨gb, 0, none⟩ (.int .u8 mi)).setCell ⟨gb, 1, none⟩ (.slice qt nt ct)).ownsRow _ 51 2 (.slice qt nt ct) nt _ from own_box16 ZB.out (by decide) OQ.out [.int .u8 mi, .slice qt nt ct])
            have ZN := Lib.hid (show ((X5.setCell ⟨gb, 0, none⟩ (.int .u8 mi)).setCell ⟨gb, 1, none⟩ (.slice qt nt ct)).heap[gb]? = some (.cells #[.int .u8 mi, .slice qt nt ct] 24 (0, 0)) from by have hz2 := ZB.out; simp [World.setCell, Array.getElem?_modify, hz2])
            have ZO := Lib.hid (show ((X5.setCell ⟨gb, 0, none⟩ (.int .u8 mi)).setCell ⟨gb, 1, none⟩ (.slice qt nt ct)).heap[ga]? = _ from ((heap_setCell_other _ ⟨gb, 1, none⟩ ga _ HNE.out).trans (heap_setCell_other _ ⟨gb, 0, none⟩ ga _ HNE.out)).trans ZA.out)
            generalize (X5.setCell ⟨gb, 0, none⟩ (.int .u8 mi)).setCell ⟨gb, 1, none⟩ (.slice qt nt ct) = X6 at OP1 OQ1 ZN ZO hHeld2 ⊢
            clear ZB ZA OP OQ hHeld
            have OP := OP1
            have OQ := OQ1
            have ZB := ZN
            have ZA := ZO
            have hHeld := hHeld2
            clear OP1 OQ1 ZN ZO hHeld2
            refine wpAnyH_done (by kernel_rfl) ?_ _
            exact KEY X6 ga gb qp np cp qt nt ct ⟨hHeld.1, ZA.out, ZB.out, GA.out, GB.out, HNE.out, NP.out, NQ.out, OP.out, Bt, HBt.out, OQ.out, SEP.out⟩
          refine AllReadyH.cons rfl (fun K hK => ?_) ?_
          · go_simp
            refine hK.out _ _ ?_ (fun hHeld2 => ?_)
            · exact ⟨hHeld.1.trans ((below16 X2 (.cells #[.int .u8 0, .slice none 0 0] 24)).mono hHeld.1.size), ((below16 X2 (.cells #[.int .u8 0, .slice none 0 0] 24)).cell (World.block_lt_of_cell? _ _ hHeld.2.1)).trans hHeld.2.1, ((below16 X2 (.cells #[.int .u8 0, .slice none 0 0] 24)).cell (World.block_lt_of_cell? _ _ hHeld.2.2)).trans hHeld.2.2⟩
            clear hK K
            obtain ⟨X3, hN⟩ : ∃ X, X = X2.alloc (.cells #[.int .u8 0, .slice none 0 0] 24) := ⟨_, rfl⟩
            have b : Below X2.heap.size X2 X3 := hN ▸ below16 X2 (.cells #[.int .u8 0, .slice none 0 0] 24)
            have ZB0 := Lib.hid (show X3.heap[X2.heap.size]? = some (.cells #[.int .u8 0, .slice none 0 0] 24 (0, 0)) from hN ▸ heap_alloc_new X2 _)
            rw [← hN] at hHeld2 ⊢
            have HNE := Lib.hid (show ga ≠ X2.heap.size from Nat.ne_of_lt (blk_lt ZA.out))
            have OP := Lib.hid (owns_on16 OP.out b)
            have ZA := Lib.hid (blk_on ZA.out b)
            obtain ⟨gb, hg⟩ : ∃ g, g = X2.heap.size := ⟨_, rfl⟩
            have GB := Lib.hid (show v2.heap.size ≤ gb from hg ▸ hHeld.1.size)
            rw [← hg] at ZB0 HNE ⊢
            have ZB := ZB0
            clear ZB0 b hN hg
            have hHeld := hHeld2
            clear hHeld2
            refine wpAnyH_ready (rs := [6]) (by kernel_rfl) (List.cons_ne_nil _ _) ?_
            refine AllReadyH.cons rfl (fun K hK => ?_) AllReadyH.nil
            go_simp
            go_wp2_with (go_at_call 22; ((with_reducible refine (HTA.out _ (HON.out _ _ (HON.out _ _ HG.out B2.out) hHeld.1) (HRD.out.on (thn16 B2.out hHeld.1))).mono ?_); rintro e X4 ⟨qt, nt, ct, rfl, lq, oq, bq⟩); have NQ := Lib.hid lq; clear lq)
            obtain ⟨Bt, hBt⟩ : ∃ b, b = X3.heap.size := ⟨_, rfl⟩
            rw [← hBt] at oq
            have SEP := Lib.hid (show ∀ j, qp = some ⟨j, 0, none⟩ → j < Bt from hBt ▸ own_sep16 OP.out)
            have HBt := Lib.hid (show v2.heap.size ≤ Bt from hBt ▸ hHeld.1.size)
            have OQ := Lib.hid oq
            have b := bq
            clear oq bq hBt
            have OP := Lib.hid (owns_on16 OP.out b)
            have ZA := Lib.hid (blk_on ZA.out b)
            have ZB := Lib.hid (blk_on ZB.out b)
            refine hK.out _ _ ?_ (fun hHeld2 => ?_)
            · exact ⟨hHeld.1.trans (b.mono hHeld.1.size), (b.cell (World.block_lt_of_cell? _ _ hHeld.2.1)).trans hHeld.2.1, (b.cell (World.block_lt_of_cell? _ _ hHeld.2.2)).trans hHeld.2.2⟩
            clear hK K
            clear b
            have hHeld := hHeld2
            clear hHeld2
            refine wpAnyH_ready (rs := [9]) (by kernel_rfl) (List.cons_ne_nil _ _) ?_
            refine AllReadyH.cons rfl (fun K hK => ?_) AllReadyH.nil
            have z0 := (cell_of_row X4 ga 0 _ _ (0, 0) ZA.out).trans (show _ = some (Value.int .u8 0) from rfl)
            have z1 := (cell_of_row X4 ga 1 _ _ (0, 0) ZA.out).trans (show _ = some (Value.slice none 0 0) from rfl)
            have zf0 := frozen_of_row X4 ga 0 _ _ ZA.out
            have zf1 := frozen_of_row X4 ga 1 _ _ ZA.out
            go_simp
            refine hK.out _ _ ?_ (fun hHeld2 => ?_)
            · exact (fun HB => ⟨HB, (HB.cell (p := ⟨w.heap.size, 0, none⟩) HLB.out).trans HX0.out, (HB.cell (p := ⟨w.heap.size, 1, none⟩) HLB.out).trans HX1.out⟩) ((hHeld.1.setCell (p := ⟨ga, 0, none⟩) GA.out _).setCell (p := ⟨ga, 1, none⟩) GA.out _)
            clear hK K
            clear z0 z1 zf0 zf1
            have OP1 := Lib.hid (show ((X4.setCell ⟨ga, 0, none⟩ (.int .u8 mi)).setCell ⟨ga, 1, none⟩ (.slice qp np cp)).ownsRow _ 51 2 (.slice qp np cp) np _ from own_box16 ZA.out (by decide) OP.out [.int .u8 mi, .slice qp np cp])
            have OQ1 := Lib.hid (show ((X4.setCell ⟨ga, 0, none⟩ (.int .u8 mi)).setCell ⟨ga, 1, none⟩ (.slice qp np cp)).ownsRow _ 51 2 (.slice qt nt ct) nt _ from own_box16 ZA.out (by decide) OQ.out [.int .u8 mi, .slice qp np cp])
            have ZN := Lib.hid (show ((X4.setCell ⟨ga, 0, none⟩ (.int .u8 mi)).setCell ⟨ga, 1, none⟩ (.slice qp np cp)).heap[ga]? = some (.cells #[.int .u8 mi, .slice qp np cp] 24 (0, 0)) from by have hz2 := ZA.out; simp [World.setCell, Array.getElem?_modify, hz2])
            have ZO := Lib.hid (show ((X4.setCell ⟨ga, 0, none⟩ (.int .u8 mi)).setCell ⟨ga, 1, none⟩ (.slice qp np cp)).heap[gb]? = _ from ((heap_setCell_other _ ⟨ga, 1, none⟩ gb _ (fun e => HNE.out e.symm)).trans (heap_setCell_other _ ⟨ga, 0, none⟩ gb _ (fun e => HNE.out e.symm))).trans ZB.out)
            generalize (X4.setCell ⟨ga, 0, none⟩ (.int .u8 mi)).setCell ⟨ga, 1, none⟩ (.slice qp np cp) = X5 at OP1 OQ1 ZN ZO hHeld2 ⊢
            clear ZA ZB OP OQ hHeld
            have OP := OP1
            have OQ := OQ1
            have ZA := ZN
            have ZB := ZO
            have hHeld := hHeld2
            clear OP1 OQ1 ZN ZO hHeld2
            refine wpAnyH_ready (rs := [10]) (by kernel_rfl) (List.cons_ne_nil _ _) ?_
            refine AllReadyH.cons rfl (fun K hK => ?_) AllReadyH.nil
            have z0 := (cell_of_row X5 gb 0 _ _ (0, 0) ZB.out).trans (show _ = some (Value.int .u8 0) from rfl)
            have z1 := (cell_of_row X5 gb 1 _ _ (0, 0) ZB.out).trans (show _ = some (Value.slice none 0 0) from rfl)
            have zf0 := frozen_of_row X5 gb 0 _ _ ZB.out
            have zf1 := frozen_of_row X5 gb 1 _ _ ZB.out
            go_simp
            refine hK.out _ _ ?_ (fun hHeld2 => ?_)
            · exact (fun HB => ⟨HB, (HB.cell (p := ⟨w.heap.size, 0, none⟩) HLB.out).trans HX0.out, (HB.cell (p := ⟨w.heap.size, 1, none⟩) HLB.out).trans HX1.out⟩) ((hHeld.1.setCell (p := ⟨gb, 0, none⟩) GB.out _).setCell (p := ⟨gb, 1, none⟩) GB.out _)
            clear hK K
            clear z0 z1 zf0 zf1
            have OP1 := Lib.hid (show ((X5.setCell ⟨gb, 0, none⟩ (.int .u8 mi)).setCell ⟨gb, 1, none⟩ (.slice qt nt ct)).ownsRow _ 51 2 (.slice qp np cp) np _ from own_box16 ZB.out (by decide) OP.out [.int .u8 mi, .slice qt nt ct])
            have OQ1 := Lib.hid (show ((X5.setCell ⟨gb, 0, none⟩ (.int .u8 mi)).setCell ⟨gb, 1, none⟩ (.slice qt nt ct)).ownsRow _ 51 2 (.slice qt nt ct) nt _ from own_box16 ZB.out (by decide) OQ.out [.int .u8 mi, .slice qt nt ct])
            have ZN := Lib.hid (show ((X5.setCell ⟨gb, 0, none⟩ (.int .u8 mi)).setCell ⟨gb, 1, none⟩ (.slice qt nt ct)).heap[gb]? = some (.cells #[.int .u8 mi, .slice qt nt ct] 24 (0, 0)) from by have hz2 := ZB.out; simp [World.setCell, Array.getElem?_modify, hz2])
            have ZO := Lib.hid (show ((X5.setCell ⟨gb, 0, none⟩ (.int .u8 mi)).setCell ⟨gb, 1, none⟩ (.slice qt nt ct)).heap[ga]? = _ from ((heap_setCell_other _ ⟨gb, 1, none⟩ ga _ HNE.out).trans (heap_setCell_other _ ⟨gb, 0, none⟩ ga _ HNE.out)).trans ZA.out)
            generalize (X5.setCell ⟨gb, 0, none⟩ (.int .u8 mi)).setCell ⟨gb, 1, none⟩ (.slice qt nt ct) = X6 at OP1 OQ1 ZN ZO hHeld2 ⊢
            clear ZB ZA OP OQ hHeld
            have OP := OP1
            have OQ := OQ1
            have ZB := ZN
            have ZA := ZO
            have hHeld := hHeld2
            clear OP1 OQ1 ZN ZO hHeld2
            refine wpAnyH_done (by kernel_rfl) ?_ _
            exact KEY X6 ga gb qp np cp qt nt ct ⟨hHeld.1, ZA.out, ZB.out, GA.out, GB.out, HNE.out, NP.out, NQ.out, OP.out, Bt, HBt.out, OQ.out, SEP.out⟩
          exact AllReadyH.nil
        refine AllReadyH.cons rfl (fun K hK => ?_) ?_
        · go_simp
          refine hK.out _ _ ?_ (fun hHeld2 => ?_)
          · exact ⟨hHeld.1.trans ((below16 X1 (.cells #[.int .u8 0, .slice none 0 0] 24)).mono hHeld.1.size), ((below16 X1 (.cells #[.int .u8 0, .slice none 0 0] 24)).cell (World.block_lt_of_cell? _ _ hHeld.2.1)).trans hHeld.2.1, ((below16 X1 (.cells #[.int .u8 0, .slice none 0 0] 24)).cell (World.block_lt_of_cell? _ _ hHeld.2.2)).trans hHeld.2.2⟩
          clear hK K
          obtain ⟨X2, hN⟩ : ∃ X, X = X1.alloc (.cells #[.int .u8 0, .slice none 0 0] 24) := ⟨_, rfl⟩
          have b : Below X1.heap.size X1 X2 := hN ▸ below16 X1 (.cells #[.int .u8 0, .slice none 0 0] 24)
          have ZB0 := Lib.hid (show X2.heap[X1.heap.size]? = some (.cells #[.int .u8 0, .slice none 0 0] 24 (0, 0)) from hN ▸ heap_alloc_new X1 _)
          rw [← hN] at hHeld2 ⊢
          have OP := Lib.hid (owns_on16 OP.out b)
          obtain ⟨gb, hg⟩ : ∃ g, g = X1.heap.size := ⟨_, rfl⟩
          have GB := Lib.hid (show v2.heap.size ≤ gb from hg ▸ hHeld.1.size)
          rw [← hg] at ZB0 ⊢
          have ZB := ZB0
          clear ZB0 b hN hg
          have hHeld := hHeld2
          clear hHeld2
          refine wpAnyH_ready (rs := [6, 7]) (by kernel_rfl) (List.cons_ne_nil _ _) ?_
          refine AllReadyH.cons rfl (fun K hK => ?_) ?_
          · go_simp
            go_wp2_with (go_at_call 22; ((with_reducible refine (HTA.out _ (HON.out _ _ (HON.out _ _ HG.out B2.out) hHeld.1) (HRD.out.on (thn16 B2.out hHeld.1))).mono ?_); rintro e X3 ⟨qt, nt, ct, rfl, lq, oq, bq⟩); have NQ := Lib.hid lq; clear lq)
            obtain ⟨Bt, hBt⟩ : ∃ b, b = X2.heap.size := ⟨_, rfl⟩
            rw [← hBt] at oq
            have SEP := Lib.hid (show ∀ j, qp = some ⟨j, 0, none⟩ → j < Bt from hBt ▸ own_sep16 OP.out)
            have HBt := Lib.hid (show v2.heap.size ≤ Bt from hBt ▸ hHeld.1.size)
            have OQ := Lib.hid oq
            have b := bq
            clear oq bq hBt
            have OP := Lib.hid (owns_on16 OP.out b)
            have ZB := Lib.hid (blk_on ZB.out b)
            refine hK.out _ _ ?_ (fun hHeld2 => ?_)
            · exact ⟨hHeld.1.trans (b.mono hHeld.1.size), (b.cell (World.block_lt_of_cell? _ _ hHeld.2.1)).trans hHeld.2.1, (b.cell (World.block_lt_of_cell? _ _ hHeld.2.2)).trans hHeld.2.2⟩
            clear hK K
            clear b
            have hHeld := hHeld2
            clear hHeld2
            refine wpAnyH_ready (rs := [7]) (by kernel_rfl) (List.cons_ne_nil _ _) ?_
            refine AllReadyH.cons rfl (fun K hK => ?_) AllReadyH.nil
            go_simp
            refine hK.out _ _ ?_ (fun hHeld2 => ?_)
            · exact ⟨hHeld.1.trans ((below16 X3 (.cells #[.int .u8 0, .slice none 0 0] 24)).mono hHeld.1.size), ((below16 X3 (.cells #[.int .u8 0, .slice none 0 0] 24)).cell (World.block_lt_of_cell? _ _ hHeld.2.1)).trans hHeld.2.1, ((below16 X3 (.cells #[.int .u8 0, .slice none 0 0] 24)).cell (World.block_lt_of_cell? _ _ hHeld.2.2)).trans hHeld.2.2⟩
            clear hK K
            obtain ⟨X4, hN⟩ : ∃ X, X = X3.alloc (.cells #[.int .u8 0, .slice none 0 0] 24) := ⟨_, rfl⟩
            have b : Below X3.heap.size X3 X4 := hN ▸ below16 X3 (.cells #[.int .u8 0, .slice none 0 0] 24)
            have ZA0 := Lib.hid (show X4.heap[X3.heap.size]? = some (.cells #[.int .u8 0, .slice none 0 0] 24 (0, 0)) from hN ▸ heap_alloc_new X3 _)
            rw [← hN] at hHeld2 ⊢
            have HNE := Lib.hid (show X3.heap.size ≠ gb from Nat.ne_of_gt (blk_lt ZB.out))
            have OP := Lib.hid (owns_on16 OP.out b)
            have OQ := Lib.hid (owns_on16 OQ.out b)
            have ZB := Lib.hid (blk_on ZB.out b)
            obtain ⟨ga, hg⟩ : ∃ g, g = X3.heap.size := ⟨_, rfl⟩
            have GA := Lib.hid (show v2.heap.size ≤ ga from hg ▸ hHeld.1.size)
            rw [← hg] at ZA0 HNE ⊢
            have ZA := ZA0
            clear ZA0 b hN hg
            have hHeld := hHeld2
            clear hHeld2
            refine wpAnyH_ready (rs := [9]) (by kernel_rfl) (List.cons_ne_nil _ _) ?_
            refine AllReadyH.cons rfl (fun K hK => ?_) AllReadyH.nil
            have z0 := (cell_of_row X4 ga 0 _ _ (0, 0) ZA.out).trans (show _ = some (Value.int .u8 0) from rfl)
            have z1 := (cell_of_row X4 ga 1 _ _ (0, 0) ZA.out).trans (show _ = some (Value.slice none 0 0) from rfl)
            have zf0 := frozen_of_row X4 ga 0 _ _ ZA.out
            have zf1 := frozen_of_row X4 ga 1 _ _ ZA.out
            go_simp
            refine hK.out _ _ ?_ (fun hHeld2 => ?_)
            · exact (fun HB => ⟨HB, (HB.cell (p := ⟨w.heap.size, 0, none⟩) HLB.out).trans HX0.out, (HB.cell (p := ⟨w.heap.size, 1, none⟩) HLB.out).trans HX1.out⟩) ((hHeld.1.setCell (p := ⟨ga, 0, none⟩) GA.out _).setCell (p := ⟨ga, 1, none⟩) GA.out _)
            clear hK K
            clear z0 z1 zf0 zf1
            have OP1 := Lib.hid (show ((X4.setCell ⟨ga, 0, none⟩ (.int .u8 mi)).setCell ⟨ga, 1, none⟩ (.slice qp np cp)).ownsRow _ 51 2 (.slice qp np cp) np _ from own_box16 ZA.out (by decide) OP.out [.int .u8 mi, .slice qp np cp])
            have OQ1 := Lib.hid (show ((X4.setCell ⟨ga, 0, none⟩ (.int .u8 mi)).setCell ⟨ga, 1, none⟩ (.slice qp np cp)).ownsRow _ 51 2 (.slice qt nt ct) nt _ from own_box16 ZA.out (by decide) OQ.out [.int .u8 mi, .slice qp np cp])
            have ZN := Lib.hid (show ((X4.setCell ⟨ga, 0, none⟩ (.int .u8 mi)).setCell ⟨ga, 1, none⟩ (.slice qp np cp)).heap[ga]? = some (.cells #[.int .u8 mi, .slice qp np cp] 24 (0, 0)) from by have hz2 := ZA.out; simp [World.setCell, Array.getElem?_modify, hz2])
            have ZO := Lib.hid (show ((X4.setCell ⟨ga, 0, none⟩ (.int .u8 mi)).setCell ⟨ga, 1, none⟩ (.slice qp np cp)).heap[gb]? = _ from ((heap_setCell_other _ ⟨ga, 1, none⟩ gb _ (fun e => HNE.out e.symm)).trans (heap_setCell_other _ ⟨ga, 0, none⟩ gb _ (fun e => HNE.out e.symm))).trans ZB.out)
            generalize (X4.setCell ⟨ga, 0, none⟩ (.int .u8 mi)).setCell ⟨ga, 1, none⟩ (.slice qp np cp) = X5 at OP1 OQ1 ZN ZO hHeld2 ⊢
            clear ZA ZB OP OQ hHeld
            have OP := OP1
            have OQ := OQ1
            have ZA := ZN
            have ZB := ZO
            have hHeld := hHeld2
            clear OP1 OQ1 ZN ZO hHeld2
            refine wpAnyH_ready (rs := [10]) (by kernel_rfl) (List.cons_ne_nil _ _) ?_
            refine AllReadyH.cons rfl (fun K hK => ?_) AllReadyH.nil
            have z0 := (cell_of_row X5 gb 0 _ _ (0, 0) ZB.out).trans (show _ = some (Value.int .u8 0) from rfl)
            have z1 := (cell_of_row X5 gb 1 _ _ (0, 0) ZB.out).trans (show _ = some (Value.slice none 0 0) from rfl)
            have zf0 := frozen_of_row X5 gb 0 _ _ ZB.out
            have zf1 := frozen_of_row X5 gb 1 _ _ ZB.out
            go_simp
            refine hK.out _ _ ?_ (fun hHeld2 => ?_)
            · exact (fun HB => ⟨HB, (HB.cell (p := ⟨w.heap.size, 0, none⟩) HLB.out).trans HX0.out, (HB.cell (p := ⟨w.heap.size, 1, none⟩) HLB.out).trans HX1.out⟩) ((hHeld.1.setCell (p := ⟨gb, 0, none⟩) GB.out _).setCell (p := ⟨gb, 1, none⟩) GB.out _)
            clear hK K
            clear z0 z1 zf0 zf1
            have OP1 := Lib.hid (show ((X5.setCell ⟨gb, 0, none⟩ (.int .u8 mi)).setCell ⟨gb, 1, none⟩ (.slice qt nt ct)).ownsRow _ 51 2 (.slice qp np cp) np _ from own_box16 ZB.out (by decide) OP.out [.int .u8 mi, .slice qt nt ct])
            have OQ1 := Lib.hid (show ((X5.setCell ⟨gb, 0, none⟩ (.int .u8 mi)).setCell ⟨gb, 1, none⟩ (.slice qt nt ct)).ownsRow _ 51 2 (.slice qt nt ct) nt _ from own_box16 ZB.out (by decide) OQ.out [.int .u8 mi, .slice qt nt ct])
            have ZN := Lib.hid (show ((X5.setCell ⟨gb, 0, none⟩ (.int .u8 mi)).setCell ⟨gb, 1, none⟩ (.slice qt nt ct)).heap[gb]? = some (.cells #[.int .u8 mi, .slice qt nt ct] 24 (0, 0)) from by have hz2 := ZB.out; simp [World.setCell, Array.getElem?_modify, hz2])
            have ZO := Lib.hid (show ((X5.setCell ⟨gb, 0, none⟩ (.int .u8 mi)).setCell ⟨gb, 1, none⟩ (.slice qt nt ct)).heap[ga]? = _ from ((heap_setCell_other _ ⟨gb, 1, none⟩ ga _ HNE.out).trans (heap_setCell_other _ ⟨gb, 0, none⟩ ga _ HNE.out)).trans ZA.out)
            generalize (X5.setCell ⟨gb, 0, none⟩ (.int .u8 mi)).setCell ⟨gb, 1, none⟩ (.slice qt nt ct) = X6 at OP1 OQ1 ZN ZO hHeld2 ⊢
            clear ZB ZA OP OQ hHeld
            have OP := OP1
            have OQ := OQ1
            have ZB := ZN
            have ZA := ZO
            have hHeld := hHeld2
            clear OP1 OQ1 ZN ZO hHeld2
            refine wpAnyH_done (by kernel_rfl) ?_ _
            exact KEY X6 ga gb qp np cp qt nt ct ⟨hHeld.1, ZA.out, ZB.out, GA.out, GB.out, HNE.out, NP.out, NQ.out, OP.out, Bt, HBt.out, OQ.out, SEP.out⟩
          refine AllReadyH.cons rfl (fun K hK => ?_) ?_
          · go_simp
            refine hK.out _ _ ?_ (fun hHeld2 => ?_)
            · exact ⟨hHeld.1.trans ((below16 X2 (.cells #[.int .u8 0, .slice none 0 0] 24)).mono hHeld.1.size), ((below16 X2 (.cells #[.int .u8 0, .slice none 0 0] 24)).cell (World.block_lt_of_cell? _ _ hHeld.2.1)).trans hHeld.2.1, ((below16 X2 (.cells #[.int .u8 0, .slice none 0 0] 24)).cell (World.block_lt_of_cell? _ _ hHeld.2.2)).trans hHeld.2.2⟩
            clear hK K
            obtain ⟨X3, hN⟩ : ∃ X, X = X2.alloc (.cells #[.int .u8 0, .slice none 0 0] 24) := ⟨_, rfl⟩
            have b : Below X2.heap.size X2 X3 := hN ▸ below16 X2 (.cells #[.int .u8 0, .slice none 0 0] 24)
            have ZA0 := Lib.hid (show X3.heap[X2.heap.size]? = some (.cells #[.int .u8 0, .slice none 0 0] 24 (0, 0)) from hN ▸ heap_alloc_new X2 _)
            rw [← hN] at hHeld2 ⊢
            have HNE := Lib.hid (show X2.heap.size ≠ gb from Nat.ne_of_gt (blk_lt ZB.out))
            have OP := Lib.hid (owns_on16 OP.out b)
            have ZB := Lib.hid (blk_on ZB.out b)
            obtain ⟨ga, hg⟩ : ∃ g, g = X2.heap.size := ⟨_, rfl⟩
            have GA := Lib.hid (show v2.heap.size ≤ ga from hg ▸ hHeld.1.size)
            rw [← hg] at ZA0 HNE ⊢
            have ZA := ZA0
            clear ZA0 b hN hg
            have hHeld := hHeld2
            clear hHeld2
            refine wpAnyH_ready (rs := [6]) (by kernel_rfl) (List.cons_ne_nil _ _) ?_
            refine AllReadyH.cons rfl (fun K hK => ?_) AllReadyH.nil
            go_simp
            go_wp2_with (go_at_call 22; ((with_reducible refine (HTA.out _ (HON.out _ _ (HON.out _ _ HG.out B2.out) hHeld.1) (HRD.out.on (thn16 B2.out hHeld.1))).mono ?_); rintro e X4 ⟨qt, nt, ct, rfl, lq, oq, bq⟩); have NQ := Lib.hid lq; clear lq)
            obtain ⟨Bt, hBt⟩ : ∃ b, b = X3.heap.size := ⟨_, rfl⟩
            rw [← hBt] at oq
            have SEP := Lib.hid (show ∀ j, qp = some ⟨j, 0, none⟩ → j < Bt from hBt ▸ own_sep16 OP.out)
            have HBt := Lib.hid (show v2.heap.size ≤ Bt from hBt ▸ hHeld.1.size)
            have OQ := Lib.hid oq
            have b := bq
            clear oq bq hBt
            have OP := Lib.hid (owns_on16 OP.out b)
            have ZA := Lib.hid (blk_on ZA.out b)
            have ZB := Lib.hid (blk_on ZB.out b)
            refine hK.out _ _ ?_ (fun hHeld2 => ?_)
            · exact ⟨hHeld.1.trans (b.mono hHeld.1.size), (b.cell (World.block_lt_of_cell? _ _ hHeld.2.1)).trans hHeld.2.1, (b.cell (World.block_lt_of_cell? _ _ hHeld.2.2)).trans hHeld.2.2⟩
            clear hK K
            clear b
            have hHeld := hHeld2
            clear hHeld2
            refine wpAnyH_ready (rs := [9]) (by kernel_rfl) (List.cons_ne_nil _ _) ?_
            refine AllReadyH.cons rfl (fun K hK => ?_) AllReadyH.nil
            have z0 := (cell_of_row X4 ga 0 _ _ (0, 0) ZA.out).trans (show _ = some (Value.int .u8 0) from rfl)
            have z1 := (cell_of_row X4 ga 1 _ _ (0, 0) ZA.out).trans (show _ = some (Value.slice none 0 0) from rfl)
            have zf0 := frozen_of_row X4 ga 0 _ _ ZA.out
            have zf1 := frozen_of_row X4 ga 1 _ _ ZA.out
            go_simp
            refine hK.out _ _ ?_ (fun hHeld2 => ?_)
            · exact (fun HB => ⟨HB, (HB.cell (p := ⟨w.heap.size, 0, none⟩) HLB.out).trans HX0.out, (HB.cell (p := ⟨w.heap.size, 1, none⟩) HLB.out).trans HX1.out⟩) ((hHeld.1.setCell (p := ⟨ga, 0, none⟩) GA.out _).setCell (p := ⟨ga, 1, none⟩) GA.out _)
            clear hK K
            clear z0 z1 zf0 zf1
            have OP1 := Lib.hid (show ((X4.setCell ⟨ga, 0, none⟩ (.int .u8 mi)).setCell ⟨ga, 1, none⟩ (.slice qp np cp)).ownsRow _ 51 2 (.slice qp np cp) np _ from own_box16 ZA.out (by decide) OP.out [.int .u8 mi, .slice qp np cp])
            have OQ1 := Lib.hid (show ((X4.setCell ⟨ga, 0, none⟩ (.int .u8 mi)).setCell ⟨ga, 1, none⟩ (.slice qp np cp)).ownsRow _ 51 2 (.slice qt nt ct) nt _ from own_box16 ZA.out (by decide) OQ.out [.int .u8 mi, .slice qp np cp])
            have ZN := Lib.hid (show ((X4.setCell ⟨ga, 0, none⟩ (.int .u8 mi)).setCell ⟨ga, 1, none⟩ (.slice qp np cp)).heap[ga]? = some (.cells #[.int .u8 mi, .slice qp np cp] 24 (0, 0)) from by have hz2 := ZA.out; simp [World.setCell, Array.getElem?_modify, hz2])
            have ZO := Lib.hid (show ((X4.setCell ⟨ga, 0, none⟩ (.int .u8 mi)).setCell ⟨ga, 1, none⟩ (.slice qp np cp)).heap[gb]? = _ from ((heap_setCell_other _ ⟨ga, 1, none⟩ gb _ (fun e => HNE.out e.symm)).trans (heap_setCell_other _ ⟨ga, 0, none⟩ gb _ (fun e => HNE.out e.symm))).trans ZB.out)
            generalize (X4.setCell ⟨ga, 0, none⟩ (.int .u8 mi)).setCell ⟨ga, 1, none⟩ (.slice qp np cp) = X5 at OP1 OQ1 ZN ZO hHeld2 ⊢
            clear ZA ZB OP OQ hHeld
            have OP := OP1
            have OQ := OQ1
            have ZA := ZN
            have ZB := ZO
            have hHeld := hHeld2
            clear OP1 OQ1 ZN ZO hHeld2
            refine wpAnyH_ready (rs := [10]) (by kernel_rfl) (List.cons_ne_nil _ _) ?_
            refine AllReadyH.cons rfl (fun K hK => ?_) AllReadyH.nil
            have z0 := (cell_of_row X5 gb 0 _ _ (0, 0) ZB.out).trans (show _ = some (Value.int .u8 0) from rfl)
            have z1 := (cell_of_row X5 gb 1 _ _ (0, 0) ZB.out).trans (show _ = some (Value.slice none 0 0) from rfl)
            have zf0 := frozen_of_row X5 gb 0 _ _ ZB.out
            have zf1 := frozen_of_row X5 gb 1 _ _ ZB.out
            go_simp
            refine hK.out _ _ ?_ (fun hHeld2 => ?_)
            · exact (fun HB => ⟨HB, (HB.cell (p := ⟨w.heap.size, 0, none⟩) HLB.out).trans HX0.out, (HB.cell (p := ⟨w.heap.size, 1, none⟩) HLB.out).trans HX1.out⟩) ((hHeld.1.setCell (p := ⟨gb, 0, none⟩) GB.out _).setCell (p := ⟨gb, 1, none⟩) GB.out _)
            clear hK K
            clear z0 z1 zf0 zf1
            have OP1 := Lib.hid (show ((X5.setCell ⟨gb, 0, none⟩ (.int .u8 mi)).setCell ⟨gb, 1, none⟩ (.slice qt nt ct)).ownsRow _ 51 2 (.slice qp np cp) np _ from own_box16 ZB.out (by decide) OP.out [.int .u8 mi, .slice qt nt ct])
            have OQ1 := Lib.hid (show ((X5.setCell ⟨gb, 0, none⟩ (.int .u8 mi)).setCell ⟨gb, 1, none⟩ (.slice qt nt ct)).ownsRow _ 51 2 (.slice qt nt ct) nt _ from own_box16 ZB.out (by decide) OQ.out [.int .u8 mi, .slice qt nt ct])
            have ZN := Lib.hid (show ((X5.setCell ⟨gb, 0, none⟩ (.int .u8 mi)).setCell ⟨gb, 1, none⟩ (.slice qt nt ct)).heap[gb]? = some (.cells #[.int .u8 mi, .slice qt nt ct] 24 (0, 0)) from by have hz2 := ZB.out; simp [World.setCell, Array.getElem?_modify, hz2])
            have ZO := Lib.hid (show ((X5.setCell ⟨gb, 0, none⟩ (.int .u8 mi)).setCell ⟨gb, 1, none⟩ (.slice qt nt ct)).heap[ga]? = _ from ((heap_setCell_other _ ⟨gb, 1, none⟩ ga _ HNE.out).trans (heap_setCell_other _ ⟨gb, 0, none⟩ ga _ HNE.out)).trans ZA.out)
            generalize (X5.setCell ⟨gb, 0, none⟩ (.int .u8 mi)).setCell ⟨gb, 1, none⟩ (.slice qt nt ct) = X6 at OP1 OQ1 ZN ZO hHeld2 ⊢
            clear ZB ZA OP OQ hHeld
            have OP := OP1
            have OQ := OQ1
            have ZB := ZN
            have ZA := ZO
            have hHeld := hHeld2
            clear OP1 OQ1 ZN ZO hHeld2
            refine wpAnyH_done (by kernel_rfl) ?_ _
            exact KEY X6 ga gb qp np cp qt nt ct ⟨hHeld.1, ZA.out, ZB.out, GA.out, GB.out, HNE.out, NP.out, NQ.out, OP.out, Bt, HBt.out, OQ.out, SEP.out⟩
          exact AllReadyH.nil
        exact AllReadyH.nil
      refine AllReadyH.cons rfl (fun K hK => ?_) ?_
      · go_simp
        refine hK.out _ _ ?_ (fun hHeld2 => ?_)
        · exact ⟨hHeld.1.trans ((below16 X0 (.cells #[.int .u8 0, .slice none 0 0] 24)).mono hHeld.1.size), ((below16 X0 (.cells #[.int .u8 0, .slice none 0 0] 24)).cell (World.block_lt_of_cell? _ _ hHeld.2.1)).trans hHeld.2.1, ((below16 X0 (.cells #[.int .u8 0, .slice none 0 0] 24)).cell (World.block_lt_of_cell? _ _ hHeld.2.2)).trans hHeld.2.2⟩
        clear hK K
        obtain ⟨X1, hN⟩ : ∃ X, X = X0.alloc (.cells #[.int .u8 0, .slice none 0 0] 24) := ⟨_, rfl⟩
        have b : Below X0.heap.size X0 X1 := hN ▸ below16 X0 (.cells #[.int .u8 0, .slice none 0 0] 24)
        have ZA0 := Lib.hid (show X1.heap[X0.heap.size]? = some (.cells #[.int .u8 0, .slice none 0 0] 24 (0, 0)) from hN ▸ heap_alloc_new X0 _)
        rw [← hN] at hHeld2 ⊢
        obtain ⟨ga, hg⟩ : ∃ g, g = X0.heap.size := ⟨_, rfl⟩
        have GA := Lib.hid (show v2.heap.size ≤ ga from hg ▸ hHeld.1.size)
        rw [← hg] at ZA0 ⊢
        have ZA := ZA0
        clear ZA0 b hN hg
        have hHeld := hHeld2
        clear hHeld2
        refine wpAnyH_ready (rs := [3, 8]) (by kernel_rfl) (List.cons_ne_nil _ _) ?_
        refine AllReadyH.cons rfl (fun K hK => ?_) ?_
        · go_simp
          go_wp2_with (go_at_call 21; ((with_reducible refine (HPU.out _ (HON.out _ _ (HON.out _ _ HG.out B2.out) hHeld.1) (HRD.out.on (thn16 B2.out hHeld.1))).mono ?_); rintro e X2 ⟨qp, np, cp, rfl, lp, op, bp⟩); have NP := Lib.hid lp; clear lp)
          have OP := Lib.hid (owns_low16 op hHeld.1.size)
          have b := bp
          clear op bp
          have ZA := Lib.hid (blk_on ZA.out b)
          refine hK.out _ _ ?_ (fun hHeld2 => ?_)
          · exact ⟨hHeld.1.trans (b.mono hHeld.1.size), (b.cell (World.block_lt_of_cell? _ _ hHeld.2.1)).trans hHeld.2.1, (b.cell (World.block_lt_of_cell? _ _ hHeld.2.2)).trans hHeld.2.2⟩
          clear hK K
          clear b
          have hHeld := hHeld2
          clear hHeld2
          refine wpAnyH_ready (rs := [6, 8]) (by kernel_rfl) (List.cons_ne_nil _ _) ?_
          refine AllReadyH.cons rfl (fun K hK => ?_) ?_
          · go_simp
            go_wp2_with (go_at_call 22; ((with_reducible refine (HTA.out _ (HON.out _ _ (HON.out _ _ HG.out B2.out) hHeld.1) (HRD.out.on (thn16 B2.out hHeld.1))).mono ?_); rintro e X3 ⟨qt, nt, ct, rfl, lq, oq, bq⟩); have NQ := Lib.hid lq; clear lq)
            obtain ⟨Bt, hBt⟩ : ∃ b, b = X2.heap.size := ⟨_, rfl⟩
            rw [← hBt] at oq
            have SEP := Lib.hid (show ∀ j, qp = some ⟨j, 0, none⟩ → j < Bt from hBt ▸ own_sep16 OP.out)
            have HBt := Lib.hid (show v2.heap.size ≤ Bt from hBt ▸ hHeld.1.size)
            have OQ := Lib.hid oq
            have b := bq
            clear oq bq hBt
            have OP := Lib.hid (owns_on16 OP.out b)
            have ZA := Lib.hid (blk_on ZA.out b)
            refine hK.out _ _ ?_ (fun hHeld2 => ?_)
            · exact ⟨hHeld.1.trans (b.mono hHeld.1.size), (b.cell (World.block_lt_of_cell? _ _ hHeld.2.1)).trans hHeld.2.1, (b.cell (World.block_lt_of_cell? _ _ hHeld.2.2)).trans hHeld.2.2⟩
            clear hK K
            clear b
            have hHeld := hHeld2
            clear hHeld2
            refine wpAnyH_ready (rs := [8]) (by kernel_rfl) (List.cons_ne_nil _ _) ?_
            refine AllReadyH.cons rfl (fun K hK => ?_) AllReadyH.nil
            go_simp
            refine hK.out _ _ ?_ (fun hHeld2 => ?_)
            · exact ⟨hHeld.1.trans ((below16 X3 (.cells #[.int .u8 0, .slice none 0 0] 24)).mono hHeld.1.size), ((below16 X3 (.cells #[.int .u8 0, .slice none 0 0] 24)).cell (World.block_lt_of_cell? _ _ hHeld.2.1)).trans hHeld.2.1, ((below16 X3 (.cells #[.int .u8 0, .slice none 0 0] 24)).cell (World.block_lt_of_cell? _ _ hHeld.2.2)).trans hHeld.2.2⟩
            clear hK K
            obtain ⟨X4, hN⟩ : ∃ X, X = X3.alloc (.cells #[.int .u8 0, .slice none 0 0] 24) := ⟨_, rfl⟩
            have b : Below X3.heap.size X3 X4 := hN ▸ below16 X3 (.cells #[.int .u8 0, .slice none 0 0] 24)
            have ZB0 := Lib.hid (show X4.heap[X3.heap.size]? = some (.cells #[.int .u8 0, .slice none 0 0] 24 (0, 0)) from hN ▸ heap_alloc_new X3 _)
            rw [← hN] at hHeld2 ⊢
            have HNE := Lib.hid (show ga ≠ X3.heap.size from Nat.ne_of_lt (blk_lt ZA.out))
            have OP := Lib.hid (owns_on16 OP.out b)
            have OQ := Lib.hid (owns_on16 OQ.out b)
            have ZA := Lib.hid (blk_on ZA.out b)
            obtain ⟨gb, hg⟩ : ∃ g, g = X3.heap.size := ⟨_, rfl⟩
            have GB := Lib.hid (show v2.heap.size ≤ gb from hg ▸ hHeld.1.size)
            rw [← hg] at ZB0 HNE ⊢
            have ZB := ZB0
            clear ZB0 b hN hg
            have hHeld := hHeld2
            clear hHeld2
            refine wpAnyH_ready (rs := [9]) (by kernel_rfl) (List.cons_ne_nil _ _) ?_
            refine AllReadyH.cons rfl (fun K hK => ?_) AllReadyH.nil
            have z0 := (cell_of_row X4 ga 0 _ _ (0, 0) ZA.out).trans (show _ = some (Value.int .u8 0) from rfl)
            have z1 := (cell_of_row X4 ga 1 _ _ (0, 0) ZA.out).trans (show _ = some (Value.slice none 0 0) from rfl)
            have zf0 := frozen_of_row X4 ga 0 _ _ ZA.out
            have zf1 := frozen_of_row X4 ga 1 _ _ ZA.out
            go_simp
            refine hK.out _ _ ?_ (fun hHeld2 => ?_)
            · exact (fun HB => ⟨HB, (HB.cell (p := ⟨w.heap.size, 0, none⟩) HLB.out).trans HX0.out, (HB.cell (p := ⟨w.heap.size, 1, none⟩) HLB.out).trans HX1.out⟩) ((hHeld.1.setCell (p := ⟨ga, 0, none⟩) GA.out _).setCell (p := ⟨ga, 1, none⟩) GA.out _)
            clear hK K
            clear z0 z1 zf0 zf1
            have OP1 := Lib.hid (show ((X4.setCell ⟨ga, 0, none⟩ (.int .u8 mi)).setCell ⟨ga, 1, none⟩ (.slice qp np cp)).ownsRow _ 51 2 (.slice qp np cp) np _ from own_box16 ZA.out (by decide) OP.out [.int .u8 mi, .slice qp np cp])
            have OQ1 := Lib.hid (show ((X4.setCell ⟨ga, 0, none⟩ (.int .u8 mi)).setCell ⟨ga, 1, none⟩ (.slice qp np cp)).ownsRow _ 51 2 (.slice qt nt ct) nt _ from own_box16 ZA.out (by decide) OQ.out [.int .u8 mi, .slice qp np cp])
            have ZN := Lib.hid (show ((X4.setCell ⟨ga, 0, none⟩ (.int .u8 mi)).setCell ⟨ga, 1, none⟩ (.slice qp np cp)).heap[ga]? = some (.cells #[.int .u8 mi, .slice qp np cp] 24 (0, 0)) from by have hz2 := ZA.out; simp [World.setCell, Array.getElem?_modify, hz2])
            have ZO := Lib.hid (show ((X4.setCell ⟨ga, 0, none⟩ (.int .u8 mi)).setCell ⟨ga, 1, none⟩ (.slice qp np cp)).heap[gb]? = _ from ((heap_setCell_other _ ⟨ga, 1, none⟩ gb _ (fun e => HNE.out e.symm)).trans (heap_setCell_other _ ⟨ga, 0, none⟩ gb _ (fun e => HNE.out e.symm))).trans ZB.out)
            generalize (X4.setCell ⟨ga, 0, none⟩ (.int .u8 mi)).setCell ⟨ga, 1, none⟩ (.slice qp np cp) = X5 at OP1 OQ1 ZN ZO hHeld2 ⊢
            clear ZA ZB OP OQ hHeld
            have OP := OP1
            have OQ := OQ1
            have ZA := ZN
            have ZB := ZO
            have hHeld := hHeld2
            clear OP1 OQ1 ZN ZO hHeld2
            refine wpAnyH_ready (rs := [10]) (by kernel_rfl) (List.cons_ne_nil _ _) ?_
            refine AllReadyH.cons rfl (fun K hK => ?_) AllReadyH.nil
            have z0 := (cell_of_row X5 gb 0 _ _ (0, 0) ZB.out).trans (show _ = some (Value.int .u8 0) from rfl)
            have z1 := (cell_of_row X5 gb 1 _ _ (0, 0) ZB.out).trans (show _ = some (Value.slice none 0 0) from rfl)
            have zf0 := frozen_of_row X5 gb 0 _ _ ZB.out
            have zf1 := frozen_of_row X5 gb 1 _ _ ZB.out
            go_simp
            refine hK.out _ _ ?_ (fun hHeld2 => ?_)
            · exact (fun HB => ⟨HB, (HB.cell (p := ⟨w.heap.size, 0, none⟩) HLB.out).trans HX0.out, (HB.cell (p := ⟨w.heap.size, 1, none⟩) HLB.out).trans HX1.out⟩) ((hHeld.1.setCell (p := ⟨gb, 0, none⟩) GB.out _).setCell (p := ⟨gb, 1, none⟩) GB.out _)
            clear hK K
            clear z0 z1 zf0 zf1
            have OP1 := Lib.hid (show ((X5.setCell ⟨gb, 0, none⟩ (.int .u8 mi)).setCell ⟨gb, 1, none⟩ (.slice qt nt ct)).ownsRow _ 51 2 (.slice qp np cp) np _ from own_box16 ZB.out (by decide) OP.out [.int .u8 mi, .slice qt nt ct])
            have OQ1 := Lib.hid (show ((X5.setCell ⟨gb, 0, none⟩ (.int .u8 mi)).setCell ⟨gb, 1, none⟩ (.slice qt nt ct)).ownsRow _ 51 2 (.slice qt nt ct) nt _ from own_box16 ZB.out (by decide) OQ.out [.int .u8 mi, .slice qt nt ct])
            have ZN := Lib.hid (show ((X5.setCell ⟨gb, 0, none⟩ (.int .u8 mi)).setCell ⟨gb, 1, none⟩ (.slice qt nt ct)).heap[gb]? = some (.cells #[.int .u8 mi, .slice qt nt ct] 24 (0, 0)) from by have hz2 := ZB.out; simp [World.setCell, Array.getElem?_modify, hz2])
            have ZO := Lib.hid (show ((X5.setCell ⟨gb, 0, none⟩ (.int .u8 mi)).setCell ⟨gb, 1, none⟩ (.slice qt nt ct)).heap[ga]? = _ from ((heap_setCell_other _ ⟨gb, 1, none⟩ ga _ HNE.out).trans (heap_setCell_other _ ⟨gb, 0, none⟩ ga _ HNE.out)).trans ZA.out)
            generalize (X5.setCell ⟨gb, 0, none⟩ (.int .u8 mi)).setCell ⟨gb, 1, none⟩ (.slice qt nt ct) = X6 at OP1 OQ1 ZN ZO hHeld2 ⊢
            clear ZB ZA OP OQ hHeld
            have OP := OP1
            have OQ := OQ1
            have ZB := ZN
            have ZA := ZO
            have hHeld := hHeld2
            clear OP1 OQ1 ZN ZO hHeld2
            refine wpAnyH_done (by kernel_rfl) ?_ _
            exact KEY X6 ga gb qp np cp qt nt ct ⟨hHeld.1, ZA.out, ZB.out, GA.out, GB.out, HNE.out, NP.out, NQ.out, OP.out, Bt, HBt.out, OQ.out, SEP.out⟩
          refine AllReadyH.cons rfl (fun K hK => ?_) ?_
          · go_simp
            refine hK.out _ _ ?_ (fun hHeld2 => ?_)
            · exact ⟨hHeld.1.trans ((below16 X2 (.cells #[.int .u8 0, .slice none 0 0] 24)).mono hHeld.1.size), ((below16 X2 (.cells #[.int .u8 0, .slice none 0 0] 24)).cell (World.block_lt_of_cell? _ _ hHeld.2.1)).trans hHeld.2.1, ((below16 X2 (.cells #[.int .u8 0, .slice none 0 0] 24)).cell (World.block_lt_of_cell? _ _ hHeld.2.2)).trans hHeld.2.2⟩
            clear hK K
            obtain ⟨X3, hN⟩ : ∃ X, X = X2.alloc (.cells #[.int .u8 0, .slice none 0 0] 24) := ⟨_, rfl⟩
            have b : Below X2.heap.size X2 X3 := hN ▸ below16 X2 (.cells #[.int .u8 0, .slice none 0 0] 24)
            have ZB0 := Lib.hid (show X3.heap[X2.heap.size]? = some (.cells #[.int .u8 0, .slice none 0 0] 24 (0, 0)) from hN ▸ heap_alloc_new X2 _)
            rw [← hN] at hHeld2 ⊢
            have HNE := Lib.hid (show ga ≠ X2.heap.size from Nat.ne_of_lt (blk_lt ZA.out))
            have OP := Lib.hid (owns_on16 OP.out b)
            have ZA := Lib.hid (blk_on ZA.out b)
            obtain ⟨gb, hg⟩ : ∃ g, g = X2.heap.size := ⟨_, rfl⟩
            have GB := Lib.hid (show v2.heap.size ≤ gb from hg ▸ hHeld.1.size)
            rw [← hg] at ZB0 HNE ⊢
            have ZB := ZB0
            clear ZB0 b hN hg
            have hHeld := hHeld2
            clear hHeld2
            refine wpAnyH_ready (rs := [6]) (by kernel_rfl) (List.cons_ne_nil _ _) ?_
            refine AllReadyH.cons rfl (fun K hK => ?_) AllReadyH.nil
            go_simp
            go_wp2_with (go_at_call 22; ((with_reducible refine (HTA.out _ (HON.out _ _ (HON.out _ _ HG.out B2.out) hHeld.1) (HRD.out.on (thn16 B2.out hHeld.1))).mono ?_); rintro e X4 ⟨qt, nt, ct, rfl, lq, oq, bq⟩); have NQ := Lib.hid lq; clear lq)
            obtain ⟨Bt, hBt⟩ : ∃ b, b = X3.heap.size := ⟨_, rfl⟩
            rw [← hBt] at oq
            have SEP := Lib.hid (show ∀ j, qp = some ⟨j, 0, none⟩ → j < Bt from hBt ▸ own_sep16 OP.out)
            have HBt := Lib.hid (show v2.heap.size ≤ Bt from hBt ▸ hHeld.1.size)
            have OQ := Lib.hid oq
            have b := bq
            clear oq bq hBt
            have OP := Lib.hid (owns_on16 OP.out b)
            have ZA := Lib.hid (blk_on ZA.out b)
            have ZB := Lib.hid (blk_on ZB.out b)
            refine hK.out _ _ ?_ (fun hHeld2 => ?_)
            · exact ⟨hHeld.1.trans (b.mono hHeld.1.size), (b.cell (World.block_lt_of_cell? _ _ hHeld.2.1)).trans hHeld.2.1, (b.cell (World.block_lt_of_cell? _ _ hHeld.2.2)).trans hHeld.2.2⟩
            clear hK K
            clear b
            have hHeld := hHeld2
            clear hHeld2
            refine wpAnyH_ready (rs := [9]) (by kernel_rfl) (List.cons_ne_nil _ _) ?_
            refine AllReadyH.cons rfl (fun K hK => ?_) AllReadyH.nil
            have z0 := (cell_of_row X4 ga 0 _ _ (0, 0) ZA.out).trans (show _ = some (Value.int .u8 0) from rfl)
            have z1 := (cell_of_row X4 ga 1 _ _ (0, 0) ZA.out).trans (show _ = some (Value.slice none 0 0) from rfl)
            have zf0 := frozen_of_row X4 ga 0 _ _ ZA.out
            have zf1 := frozen_of_row X4 ga 1 _ _ ZA.out
            go_simp
            refine hK.out _ _ ?_ (fun hHeld2 => ?_)
            · exact (fun HB => ⟨HB, (HB.cell (p := ⟨w.heap.size, 0, none⟩) HLB.out).trans HX0.out, (HB.cell (p := ⟨w.heap.size, 1, none⟩) HLB.out).trans HX1.out⟩) ((hHeld.1.setCell (p := ⟨ga, 0, none⟩) GA.out _).setCell (p := ⟨ga, 1, none⟩) GA.out _)
            clear hK K
            clear z0 z1 zf0 zf1
            have OP1 := Lib.hid (show ((X4.setCell ⟨ga, 0, none⟩ (.int .u8 mi)).setCell ⟨ga, 1, none⟩ (.slice qp np cp)).ownsRow _ 51 2 (.slice qp np cp) np _ from own_box16 ZA.out (by decide) OP.out [.int .u8 mi, .slice qp np cp])
            have OQ1 := Lib.hid (show ((X4.setCell ⟨ga, 0, none⟩ (.int .u8 mi)).setCell ⟨ga, 1, none⟩ (.slice qp np cp)).ownsRow _ 51 2 (.slice qt nt ct) nt _ from own_box16 ZA.out (by decide) OQ.out [.int .u8 mi, .slice qp np cp])
            have ZN := Lib.hid (show ((X4.setCell ⟨ga, 0, none⟩ (.int .u8 mi)).setCell ⟨ga, 1, none⟩ (.slice qp np cp)).heap[ga]? = some (.cells #[.int .u8 mi, .slice qp np cp] 24 (0, 0)) from by have hz2 := ZA.out; simp [World.setCell, Array.getElem?_modify, hz2])
            have ZO := Lib.hid (show ((X4.setCell ⟨ga, 0, none⟩ (.int .u8 mi)).setCell ⟨ga, 1, none⟩ (.slice qp np cp)).heap[gb]? = _ from ((heap_setCell_other _ ⟨ga, 1, none⟩ gb _ (fun e => HNE.out e.symm)).trans (heap_setCell_other _ ⟨ga, 0, none⟩ gb _ (fun e => HNE.out e.symm))).trans ZB.out)
            generalize (X4.setCell ⟨ga, 0, none⟩ (.int .u8 mi)).setCell ⟨ga, 1, none⟩ (.slice qp np cp) = X5 at OP1 OQ1 ZN ZO hHeld2 ⊢
            clear ZA ZB OP OQ hHeld
            have OP := OP1
            have OQ := OQ1
            have ZA := ZN
            have ZB := ZO
            have hHeld := hHeld2
            clear OP1 OQ1 ZN ZO hHeld2
            refine wpAnyH_ready (rs := [10]) (by kernel_rfl) (List.cons_ne_nil _ _) ?_
            refine AllReadyH.cons rfl (fun K hK => ?_) AllReadyH.nil
            have z0 := (cell_of_row X5 gb 0 _ _ (0, 0) ZB.out).trans (show _ = some (Value.int .u8 0) from rfl)
            have z1 := (cell_of_row X5 gb 1 _ _ (0, 0) ZB.out).trans (show _ = some (Value.slice none 0 0) from rfl)
            have zf0 := frozen_of_row X5 gb 0 _ _ ZB.out
            have zf1 := frozen_of_row X5 gb 1 _ _ ZB.out
            go_simp
            refine hK.out _ _ ?_ (fun hHeld2 => ?_)
            · exact (fun HB => ⟨HB, (HB.cell (p := ⟨w.heap.size, 0, none⟩) HLB.out).trans HX0.out, (HB.cell (p := ⟨w.heap.size, 1, none⟩) HLB.out).trans HX1.out⟩) ((hHeld.1.setCell (p := ⟨gb, 0, none⟩) GB.out _).setCell (p := ⟨gb, 1, none⟩) GB.out _)
            clear hK K
            clear z0 z1 zf0 zf1
            have OP1 := Lib.hid (show ((X5.setCell ⟨gb, 0, none⟩ (.int .u8 mi)).setCell ⟨gb, 1, none⟩ (.slice qt nt ct)).ownsRow _ 51 2 (.slice qp np cp) np _ from own_box16 ZB.out (by decide) OP.out [.int .u8 mi, .slice qt nt ct])
            have OQ1 := Lib.hid (show ((X5.setCell ⟨gb, 0, none⟩ (.int .u8 mi)).setCell ⟨gb, 1, none⟩ (.slice qt nt ct)).ownsRow _ 51 2 (.slice qt nt ct) nt _ from own_box16 ZB.out (by decide) OQ.out [.int .u8 mi, .slice qt nt ct])
            have ZN := Lib.hid (show ((X5.setCell ⟨gb, 0, none⟩ (.int .u8 mi)).setCell ⟨gb, 1, none⟩ (.slice qt nt ct)).heap[gb]? = some (.cells #[.int .u8 mi, .slice qt nt ct] 24 (0, 0)) from by have hz2 := ZB.out; simp [World.setCell, Array.getElem?_modify, hz2])
            have ZO := Lib.hid (show ((X5.setCell ⟨gb, 0, none⟩ (.int .u8 mi)).setCell ⟨gb, 1, none⟩ (.slice qt nt ct)).heap[ga]? = _ from ((heap_setCell_other _ ⟨gb, 1, none⟩ ga _ HNE.out).trans (heap_setCell_other _ ⟨gb, 0, none⟩ ga _ HNE.out)).trans ZA.out)
            generalize (X5.setCell ⟨gb, 0, none⟩ (.int .u8 mi)).setCell ⟨gb, 1, none⟩ (.slice qt nt ct) = X6 at OP1 OQ1 ZN ZO hHeld2 ⊢
            clear ZB ZA OP OQ hHeld
            have OP := OP1
            have OQ := OQ1
            have ZB := ZN
            have ZA := ZO
            have hHeld := hHeld2
            clear OP1 OQ1 ZN ZO hHeld2
            refine wpAnyH_done (by kernel_rfl) ?_ _
            exact KEY X6 ga gb qp np cp qt nt ct ⟨hHeld.1, ZA.out, ZB.out, GA.out, GB.out, HNE.out, NP.out, NQ.out, OP.out, Bt, HBt.out, OQ.out, SEP.out⟩
          exact AllReadyH.nil
        refine AllReadyH.cons rfl (fun K hK => ?_) ?_
        · go_simp
          refine hK.out _ _ ?_ (fun hHeld2 => ?_)
          · exact ⟨hHeld.1.trans ((below16 X1 (.cells #[.int .u8 0, .slice none 0 0] 24)).mono hHeld.1.size), ((below16 X1 (.cells #[.int .u8 0, .slice none 0 0] 24)).cell (World.block_lt_of_cell? _ _ hHeld.2.1)).trans hHeld.2.1, ((below16 X1 (.cells #[.int .u8 0, .slice none 0 0] 24)).cell (World.block_lt_of_cell? _ _ hHeld.2.2)).trans hHeld.2.2⟩
          clear hK K
          obtain ⟨X2, hN⟩ : ∃ X, X = X1.alloc (.cells #[.int .u8 0, .slice none 0 0] 24) := ⟨_, rfl⟩
          have b : Below X1.heap.size X1 X2 := hN ▸ below16 X1 (.cells #[.int .u8 0, .slice none 0 0] 24)
          have ZB0 := Lib.hid (show X2.heap[X1.heap.size]? = some (.cells #[.int .u8 0, .slice none 0 0] 24 (0, 0)) from hN ▸ heap_alloc_new X1 _)
          rw [← hN] at hHeld2 ⊢
          have HNE := Lib.hid (show ga ≠ X1.heap.size from Nat.ne_of_lt (blk_lt ZA.out))
          have ZA := Lib.hid (blk_on ZA.out b)
          obtain ⟨gb, hg⟩ : ∃ g, g = X1.heap.size := ⟨_, rfl⟩
          have GB := Lib.hid (show v2.heap.size ≤ gb from hg ▸ hHeld.1.size)
          rw [← hg] at ZB0 HNE ⊢
          have ZB := ZB0
          clear ZB0 b hN hg
          have hHeld := hHeld2
          clear hHeld2
          refine wpAnyH_ready (rs := [3]) (by kernel_rfl) (List.cons_ne_nil _ _) ?_
          refine AllReadyH.cons rfl (fun K hK => ?_) AllReadyH.nil
          go_simp
          go_wp2_with (go_at_call 21; ((with_reducible refine (HPU.out _ (HON.out _ _ (HON.out _ _ HG.out B2.out) hHeld.1) (HRD.out.on (thn16 B2.out hHeld.1))).mono ?_); rintro e X3 ⟨qp, np, cp, rfl, lp, op, bp⟩); have NP := Lib.hid lp; clear lp)
          have OP := Lib.hid (owns_low16 op hHeld.1.size)
          have b := bp
          clear op bp
          have ZA := Lib.hid (blk_on ZA.out b)
          have ZB := Lib.hid (blk_on ZB.out b)
          refine hK.out _ _ ?_ (fun hHeld2 => ?_)
          · exact ⟨hHeld.1.trans (b.mono hHeld.1.size), (b.cell (World.block_lt_of_cell? _ _ hHeld.2.1)).trans hHeld.2.1, (b.cell (World.block_lt_of_cell? _ _ hHeld.2.2)).trans hHeld.2.2⟩
          clear hK K
          clear b
          have hHeld := hHeld2
          clear hHeld2
          refine wpAnyH_ready (rs := [6]) (by kernel_rfl) (List.cons_ne_nil _ _) ?_
          refine AllReadyH.cons rfl (fun K hK => ?_) AllReadyH.nil
          go_simp
          go_wp2_with (go_at_call 22; ((with_reducible refine (HTA.out _ (HON.out _ _ (HON.out _ _ HG.out B2.out) hHeld.1) (HRD.out.on (thn16 B2.out hHeld.1))).mono ?_); rintro e X4 ⟨qt, nt, ct, rfl, lq, oq, bq⟩); have NQ := Lib.hid lq; clear lq)
          obtain ⟨Bt, hBt⟩ : ∃ b, b = X3.heap.size := ⟨_, rfl⟩
          rw [← hBt] at oq
          have SEP := Lib.hid (show ∀ j, qp = some ⟨j, 0, none⟩ → j < Bt from hBt ▸ own_sep16 OP.out)
          have HBt := Lib.hid (show v2.heap.size ≤ Bt from hBt ▸ hHeld.1.size)
          have OQ := Lib.hid oq
          have b := bq
          clear oq bq hBt
          have OP := Lib.hid (owns_on16 OP.out b)
          have ZA := Lib.hid (blk_on ZA.out b)
          have ZB := Lib.hid (blk_on ZB.out b)
          refine hK.out _ _ ?_ (fun hHeld2 => ?_)
          · exact ⟨hHeld.1.trans (b.mono hHeld.1.size), (b.cell (World.block_lt_of_cell? _ _ hHeld.2.1)).trans hHeld.2.1, (b.cell (World.block_lt_of_cell? _ _ hHeld.2.2)).trans hHeld.2.2⟩
          clear hK K
          clear b
          have hHeld := hHeld2
          clear hHeld2
          refine wpAnyH_ready (rs := [9]) (by kernel_rfl) (List.cons_ne_nil _ _) ?_
          refine AllReadyH.cons rfl (fun K hK => ?_) AllReadyH.nil
          have z0 := (cell_of_row X4 ga 0 _ _ (0, 0) ZA.out).trans (show _ = some (Value.int .u8 0) from rfl)
          have z1 := (cell_of_row X4 ga 1 _ _ (0, 0) ZA.out).trans (show _ = some (Value.slice none 0 0) from rfl)
          have zf0 := frozen_of_row X4 ga 0 _ _ ZA.out
          have zf1 := frozen_of_row X4 ga 1 _ _ ZA.out
          go_simp
          refine hK.out _ _ ?_ (fun hHeld2 => ?_)
          · exact (fun HB => ⟨HB, (HB.cell (p := ⟨w.heap.size, 0, none⟩) HLB.out).trans HX0.out, (HB.cell (p := ⟨w.heap.size, 1, none⟩) HLB.out).trans HX1.out⟩) ((hHeld.1.setCell (p := ⟨ga, 0, none⟩) GA.out _).setCell (p := ⟨ga, 1, none⟩) GA.out _)
          clear hK K
          clear z0 z1 zf0 zf1
          have OP1 := Lib.hid (show ((X4.setCell ⟨ga, 0, none⟩ (.int .u8 mi)).setCell ⟨ga, 1, none⟩ (.slice qp np cp)).ownsRow _ 51 2 (.slice qp np cp) np _ from own_box16 ZA.out (by decide) OP.out [.int .u8 mi, .slice qp np cp])
          have OQ1 := Lib.hid (show ((X4.setCell ⟨ga, 0, none⟩ (.int .u8 mi)).setCell ⟨ga, 1, none⟩ (.slice qp np cp)).ownsRow _ 51 2 (.slice qt nt ct) nt _ from own_box16 ZA.out (by decide) OQ.out [.int .u8 mi, .slice qp np cp])
          have ZN := Lib.hid (show ((X4.setCell ⟨ga, 0, none⟩ (.int .u8 mi)).setCell ⟨ga, 1, none⟩ (.slice qp np cp)).heap[ga]? = some (.cells #[.int .u8 mi, .slice qp np cp] 24 (0, 0)) from by have hz2 := ZA.out; simp [World.setCell, Array.getElem?_modify, hz2])
          have ZO := Lib.hid (show ((X4.setCell ⟨ga, 0, none⟩ (.int .u8 mi)).setCell ⟨ga, 1, none⟩ (.slice qp np cp)).heap[gb]? = _ from ((heap_setCell_other _ ⟨ga, 1, none⟩ gb _ (fun e => HNE.out e.symm)).trans (heap_setCell_other _ ⟨ga, 0, none⟩ gb _ (fun e => HNE.out e.symm))).trans ZB.out)
          generalize (X4.setCell ⟨ga, 0, none⟩ (.int .u8 mi)).setCell ⟨ga, 1, none⟩ (.slice qp np cp) = X5 at OP1 OQ1 ZN ZO hHeld2 ⊢
          clear ZA ZB OP OQ hHeld
          have OP := OP1
          have OQ := OQ1
          have ZA := ZN
          have ZB := ZO
          have hHeld := hHeld2
          clear OP1 OQ1 ZN ZO hHeld2
          refine wpAnyH_ready (rs := [10]) (by kernel_rfl) (List.cons_ne_nil _ _) ?_
          refine AllReadyH.cons rfl (fun K hK => ?_) AllReadyH.nil
          have z0 := (cell_of_row X5 gb 0 _ _ (0, 0) ZB.out).trans (show _ = some (Value.int .u8 0) from rfl)
          have z1 := (cell_of_row X5 gb 1 _ _ (0, 0) ZB.out).trans (show _ = some (Value.slice none 0 0) from rfl)
          have zf0 := frozen_of_row X5 gb 0 _ _ ZB.out
          have zf1 := frozen_of_row X5 gb 1 _ _ ZB.out
          go_simp
          refine hK.out _ _ ?_ (fun hHeld2 => ?_)
          · exact (fun HB => ⟨HB, (HB.cell (p := ⟨w.heap.size, 0, none⟩) HLB.out).trans HX0.out, (HB.cell (p := ⟨w.heap.size, 1, none⟩) HLB.out).trans HX1.out⟩) ((hHeld.1.setCell (p := ⟨gb, 0, none⟩) GB.out _).setCell (p := ⟨gb, 1, none⟩) GB.out _)
          clear hK K
          clear z0 z1 zf0 zf1
          have OP1 := Lib.hid (show ((X5.setCell ⟨gb, 0, none⟩ (.int .u8 mi)).setCell ⟨gb, 1, none⟩ (.slice qt nt ct)).ownsRow _ 51 2 (.slice qp np cp) np _ from own_box16 ZB.out (by decide) OP.out [.int .u8 mi, .slice qt nt ct])
          have OQ1 := Lib.hid (show ((X5.setCell ⟨gb, 0, none⟩ (.int .u8 mi)).setCell ⟨gb, 1, none⟩ (.slice qt nt ct)).ownsRow _ 51 2 (.slice qt nt ct) nt _ from own_box16 ZB.out (by decide) OQ.out [.int .u8 mi, .slice qt nt ct])
          have ZN := Lib.hid (show ((X5.setCell ⟨gb, 0, none⟩ (.int .u8 mi)).setCell ⟨gb, 1, none⟩ (.slice qt nt ct)).heap[gb]? = some (.cells #[.int .u8 mi, .slice qt nt ct] 24 (0, 0)) from by have hz2 := ZB.out; simp [World.setCell, Array.getElem?_modify, hz2])
          have ZO := Lib.hid (show ((X5.setCell ⟨gb, 0, none⟩ (.int .u8 mi)).setCell ⟨gb, 1, none⟩ (.slice qt nt ct)).heap[ga]? = _ from ((heap_setCell_other _ ⟨gb, 1, none⟩ ga _ HNE.out).trans (heap_setCell_other _ ⟨gb, 0, none⟩ ga _ HNE.out)).trans ZA.out)
          generalize (X5.setCell ⟨gb, 0, none⟩ (.int .u8 mi)).setCell ⟨gb, 1, none⟩ (.slice qt nt ct) = X6 at OP1 OQ1 ZN ZO hHeld2 ⊢
          clear ZB ZA OP OQ hHeld
          have OP := OP1
          have OQ := OQ1
          have ZB := ZN
          have ZA := ZO
          have hHeld := hHeld2
          clear OP1 OQ1 ZN ZO hHeld2
          refine wpAnyH_done (by kernel_rfl) ?_ _
          exact KEY X6 ga gb qp np cp qt nt ct ⟨hHeld.1, ZA.out, ZB.out, GA.out, GB.out, HNE.out, NP.out, NQ.out, OP.out, Bt, HBt.out, OQ.out, SEP.out⟩
        exact AllReadyH.nil
      refine AllReadyH.cons rfl (fun K hK => ?_) ?_
      · go_simp
        refine hK.out _ _ ?_ (fun hHeld2 => ?_)
        · exact ⟨hHeld.1.trans ((below16 X0 (.cells #[.int .u8 0, .slice none 0 0] 24)).mono hHeld.1.size), ((below16 X0 (.cells #[.int .u8 0, .slice none 0 0] 24)).cell (World.block_lt_of_cell? _ _ hHeld.2.1)).trans hHeld.2.1, ((below16 X0 (.cells #[.int .u8 0, .slice none 0 0] 24)).cell (World.block_lt_of_cell? _ _ hHeld.2.2)).trans hHeld.2.2⟩
        clear hK K
        obtain ⟨X1, hN⟩ : ∃ X, X = X0.alloc (.cells #[.int .u8 0, .slice none 0 0] 24) := ⟨_, rfl⟩
        have b : Below X0.heap.size X0 X1 := hN ▸ below16 X0 (.cells #[.int .u8 0, .slice none 0 0] 24)
        have ZB0 := Lib.hid (show X1.heap[X0.heap.size]? = some (.cells #[.int .u8 0, .slice none 0 0] 24 (0, 0)) from hN ▸ heap_alloc_new X0 _)
        rw [← hN] at hHeld2 ⊢
        obtain ⟨gb, hg⟩ : ∃ g, g = X0.heap.size := ⟨_, rfl⟩
        have GB := Lib.hid (show v2.heap.size ≤ gb from hg ▸ hHeld.1.size)
        rw [← hg] at ZB0 ⊢
        have ZB := ZB0
        clear ZB0 b hN hg
        have hHeld := hHeld2
        clear hHeld2
        refine wpAnyH_ready (rs := [3, 7]) (by kernel_rfl) (List.cons_ne_nil _ _) ?_
        refine AllReadyH.cons rfl (fun K hK => ?_) ?_
        · go_simp
          go_wp2_with (go_at_call 21; ((with_reducible refine (HPU.out _ (HON.out _ _ (HON.out _ _ HG.out B2.out) hHeld.1) (HRD.out.on (thn16 B2.out hHeld.1))).mono ?_); rintro e X2 ⟨qp, np, cp, rfl, lp, op, bp⟩); have NP := Lib.hid lp; clear lp)
          have OP := Lib.hid (owns_low16 op hHeld.1.size)
          have b := bp
          clear op bp
          have ZB := Lib.hid (blk_on ZB.out b)
          refine hK.out _ _ ?_ (fun hHeld2 => ?_)
          · exact ⟨hHeld.1.trans (b.mono hHeld.1.size), (b.cell (World.block_lt_of_cell? _ _ hHeld.2.1)).trans hHeld.2.1, (b.cell (World.block_lt_of_cell? _ _ hHeld.2.2)).trans hHeld.2.2⟩
          clear hK K
          clear b
          have hHeld := hHeld2
          clear hHeld2
          refine wpAnyH_ready (rs := [6, 7]) (by kernel_rfl) (List.cons_ne_nil _ _) ?_
          refine AllReadyH.cons rfl (fun K hK => ?_) ?_
          · go_simp
            go_wp2_with (go_at_call 22; ((with_reducible refine (HTA.out _ (HON.out _ _ (HON.out _ _ HG.out B2.out) hHeld.1) (HRD.out.on (thn16 B2.out hHeld.1))).mono ?_); rintro e X3 ⟨qt, nt, ct, rfl, lq, oq, bq⟩); have NQ := Lib.hid lq; clear lq)
            obtain ⟨Bt, hBt⟩ : ∃ b, b = X2.heap.size := ⟨_, rfl⟩
            rw [← hBt] at oq
            have SEP := Lib.hid (show ∀ j, qp = some ⟨j, 0, none⟩ → j < Bt from hBt ▸ own_sep16 OP.out)
            have HBt := Lib.hid (show v2.heap.size ≤ Bt from hBt ▸ hHeld.1.size)
            have OQ := Lib.hid oq
            have b := bq
            clear oq bq hBt
            have OP := Lib.hid (owns_on16 OP.out b)
            have ZB := Lib.hid (blk_on ZB.out b)
            refine hK.out _ _ ?_ (fun hHeld2 => ?_)
            · exact ⟨hHeld.1.trans (b.mono hHeld.1.size), (b.cell (World.block_lt_of_cell? _ _ hHeld.2.1)).trans hHeld.2.1, (b.cell (World.block_lt_of_cell? _ _ hHeld.2.2)).trans hHeld.2.2⟩
            clear hK K
            clear b
            have hHeld := hHeld2
            clear hHeld2
            refine wpAnyH_ready (rs := [7]) (by kernel_rfl) (List.cons_ne_nil _ _) ?_
            refine AllReadyH.cons rfl (fun K hK => ?_) AllReadyH.nil
            go_simp
            refine hK.out _ _ ?_ (fun hHeld2 => ?_)
            · exact ⟨hHeld.1.trans ((below16 X3 (.cells #[.int .u8 0, .slice none 0 0] 24)).mono hHeld.1.size), ((below16 X3 (.cells #[.int .u8 0, .slice none 0 0] 24)).cell (World.block_lt_of_cell? _ _ hHeld.2.1)).trans hHeld.2.1, ((below16 X3 (.cells #[.int .u8 0, .slice none 0 0] 24)).cell (World.block_lt_of_cell? _ _ hHeld.2.2)).trans hHeld.2.2⟩
            clear hK K
            obtain ⟨X4, hN⟩ : ∃ X, X = X3.alloc (.cells #[.int .u8 0, .slice none 0 0] 24) := ⟨_, rfl⟩
            have b : Below X3.heap.size X3 X4 := hN ▸ below16 X3 (.cells #[.int .u8 0, .slice none 0 0] 24)
            have ZA0 := Lib.hid (show X4.heap[X3.heap.size]? = some (.cells #[.int .u8 0, .slice none 0 0] 24 (0, 0)) from hN ▸ heap_alloc_new X3 _)
            rw [← hN] at hHeld2 ⊢
            have HNE := Lib.hid (show X3.heap.size ≠ gb from Nat.ne_of_gt (blk_lt ZB.out))
            have OP := Lib.hid (owns_on16 OP.out b)
            have OQ := Lib.hid (owns_on16 OQ.out b)
            have ZB := Lib.hid (blk_on ZB.out b)
            obtain ⟨ga, hg⟩ : ∃ g, g = X3.heap.size := ⟨_, rfl⟩
            have GA := Lib.hid (show v2.heap.size ≤ ga from hg ▸ hHeld.1.size)
            rw [← hg] at ZA0 HNE ⊢
            have ZA := ZA0
            clear ZA0 b hN hg
            have hHeld := hHeld2
            clear hHeld2
            refine wpAnyH_ready (rs := [9]) (by kernel_rfl) (List.cons_ne_nil _ _) ?_
            refine AllReadyH.cons rfl (fun K hK => ?_) AllReadyH.nil
            have z0 := (cell_of_row X4 ga 0 _ _ (0, 0) ZA.out).trans (show _ = some (Value.int .u8 0) from rfl)
            have z1 := (cell_of_row X4 ga 1 _ _ (0, 0) ZA.out).trans (show _ = some (Value.slice none 0 0) from rfl)
            have zf0 := frozen_of_row X4 ga 0 _ _ ZA.out
            have zf1 := frozen_of_row X4 ga 1 _ _ ZA.out
            go_simp
            refine hK.out _ _ ?_ (fun hHeld2 => ?_)
            · exact (fun HB => ⟨HB, (HB.cell (p := ⟨w.heap.size, 0, none⟩) HLB.out).trans HX0.out, (HB.cell (p := ⟨w.heap.size, 1, none⟩) HLB.out).trans HX1.out⟩) ((hHeld.1.setCell (p := ⟨ga, 0, none⟩) GA.out _).setCell (p := ⟨ga, 1, none⟩) GA.out _)
            clear hK K
            clear z0 z1 zf0 zf1
            have OP1 := Lib.hid (show ((X4.setCell ⟨ga, 0, none⟩ (.int .u8 mi)).setCell ⟨ga, 1, none⟩ (.slice qp np cp)).ownsRow _ 51 2 (.slice qp np cp) np _ from own_box16 ZA.out (by decide) OP.out [.int .u8 mi, .slice qp np cp])
            have OQ1 := Lib.hid (show ((X4.setCell ⟨ga, 0, none⟩ (.int .u8 mi)).setCell ⟨ga, 1, none⟩ (.slice qp np cp)).ownsRow _ 51 2 (.slice qt nt ct) nt _ from own_box16 ZA.out (by decide) OQ.out [.int .u8 mi, .slice qp np cp])
            have ZN := Lib.hid (show ((X4.setCell ⟨ga, 0, none⟩ (.int .u8 mi)).setCell ⟨ga, 1, none⟩ (.slice qp np cp)).heap[ga]? = some (.cells #[.int .u8 mi, .slice qp np cp] 24 (0, 0)) from by have hz2 := ZA.out; simp [World.setCell, Array.getElem?_modify, hz2])
            have ZO := Lib.hid (show ((X4.setCell ⟨ga, 0, none⟩ (.int .u8 mi)).setCell ⟨ga, 1, none⟩ (.slice qp np cp)).heap[gb]? = _ from ((heap_setCell_other _ ⟨ga, 1, none⟩ gb _ (fun e => HNE.out e.symm)).trans (heap_setCell_other _ ⟨ga, 0, none⟩ gb _ (fun e => HNE.out e.symm))).trans ZB.out)
            generalize (X4.setCell ⟨ga, 0, none⟩ (.int .u8 mi)).setCell ⟨ga, 1, none⟩ (.slice qp np cp) = X5 at OP1 OQ1 ZN ZO hHeld2 ⊢
            clear ZA ZB OP OQ hHeld
            have OP := OP1
            have OQ := OQ1
            have ZA := ZN
            have ZB := ZO
            have hHeld := hHeld2
            clear OP1 OQ1 ZN ZO hHeld2
            refine wpAnyH_ready (rs := [10]) (by kernel_rfl) (List.cons_ne_nil _ _) ?_
            refine AllReadyH.cons rfl (fun K hK => ?_) AllReadyH.nil
            have z0 := (cell_of_row X5 gb 0 _ _ (0, 0) ZB.out).trans (show _ = some (Value.int .u8 0) from rfl)
            have z1 := (cell_of_row X5 gb 1 _ _ (0, 0) ZB.out).trans (show _ = some (Value.slice none 0 0) from rfl)
            have zf0 := frozen_of_row X5 gb 0 _ _ ZB.out
            have zf1 := frozen_of_row X5 gb 1 _ _ ZB.out
            go_simp
            refine hK.out _ _ ?_ (fun hHeld2 => ?_)
            · exact (fun HB => ⟨HB, (HB.cell (p := ⟨w.heap.size, 0, none⟩) HLB.out).trans HX0.out, (HB.cell (p := ⟨w.heap.size, 1, none⟩) HLB.out).trans HX1.out⟩) ((hHeld.1.setCell (p := ⟨gb, 0, none⟩) GB.out _).setCell (p := ⟨gb, 1, none⟩) GB.out _)
            clear hK K
            clear z0 z1 zf0 zf1
            have OP1 := Lib.hid (show ((X5.setCell ⟨gb, 0, none⟩ (.int .u8 mi)).setCell ⟨gb, 1, none⟩ (.slice qt nt ct)).ownsRow _ 51 2 (.slice qp np cp) np _ from own_box16 ZB.out (by decide) OP.out [.int .u8 mi, .slice qt nt ct])
            have OQ1 := Lib.hid (show ((X5.setCell ⟨gb, 0, none⟩ (.int .u8 mi)).setCell ⟨gb, 1, none⟩ (.slice qt nt ct)).ownsRow _ 51 2 (.slice qt nt ct) nt _ from own_box16 ZB.out (by decide) OQ.out [.int .u8 mi, .slice qt nt ct])
            have ZN := Lib.hid (show ((X5.setCell ⟨gb, 0, none⟩ (.int .u8 mi)).setCell ⟨gb, 1, none⟩ (.slice qt nt ct)).heap[gb]? = some (.cells #[.int .u8 mi, .slice qt nt ct] 24 (0, 0)) from by have hz2 := ZB.out; simp [World.setCell, Array.getElem?_modify, hz2])
            have ZO := Lib.hid (show ((X5.setCell ⟨gb, 0, none⟩ (.int .u8 mi)).setCell ⟨gb, 1, none⟩ (.slice qt nt ct)).heap[ga]? = _ from ((heap_setCell_other _ ⟨gb, 1, none⟩ ga _ HNE.out).trans (heap_setCell_other _ ⟨gb, 0, none⟩ ga _ HNE.out)).trans ZA.out)
            generalize (X5.setCell ⟨gb, 0, none⟩ (.int .u8 mi)).setCell ⟨gb, 1, none⟩ (.slice qt nt ct) = X6 at OP1 OQ1 ZN ZO hHeld2 ⊢
            clear ZB ZA OP OQ hHeld
            have OP := OP1
            have OQ := OQ1
            have ZB := ZN
            have ZA := ZO
            have hHeld := hHeld2
            clear OP1 OQ1 ZN ZO hHeld2
            refine wpAnyH_done (by kernel_rfl) ?_ _
            exact KEY X6 ga gb qp np cp qt nt ct ⟨hHeld.1, ZA.out, ZB.out, GA.out, GB.out, HNE.out, NP.out, NQ.out, OP.out, Bt, HBt.out, OQ.out, SEP.out⟩
          refine AllReadyH.cons rfl (fun K hK => ?_) ?_
          · go_simp
            refine hK.out _ _ ?_ (fun hHeld2 => ?_)
            · exact ⟨hHeld.1.trans ((below16 X2 (.cells #[.int .u8 0, .slice none 0 0] 24)).mono hHeld.1.size), ((below16 X2 (.cells #[.int .u8 0, .slice none 0 0] 24)).cell (World.block_lt_of_cell? _ _ hHeld.2.1)).trans hHeld.2.1, ((below16 X2 (.cells #[.int .u8 0, .slice none 0 0] 24)).cell (World.block_lt_of_cell? _ _ hHeld.2.2)).trans hHeld.2.2⟩
            clear hK K
            obtain ⟨X3, hN⟩ : ∃ X, X = X2.alloc (.cells #[.int .u8 0, .slice none 0 0] 24) := ⟨_, rfl⟩
            have b : Below X2.heap.size X2 X3 := hN ▸ below16 X2 (.cells #[.int .u8 0, .slice none 0 0] 24)
            have ZA0 := Lib.hid (show X3.heap[X2.heap.size]? = some (.cells #[.int .u8 0, .slice none 0 0] 24 (0, 0)) from hN ▸ heap_alloc_new X2 _)
            rw [← hN] at hHeld2 ⊢
            have HNE := Lib.hid (show X2.heap.size ≠ gb from Nat.ne_of_gt (blk_lt ZB.out))
            have OP := Lib.hid (owns_on16 OP.out b)
            have ZB := Lib.hid (blk_on ZB.out b)
            obtain ⟨ga, hg⟩ : ∃ g, g = X2.heap.size := ⟨_, rfl⟩
            have GA := Lib.hid (show v2.heap.size ≤ ga from hg ▸ hHeld.1.size)
            rw [← hg] at ZA0 HNE ⊢
            have ZA := ZA0
            clear ZA0 b hN hg
            have hHeld := hHeld2
            clear hHeld2
            refine wpAnyH_ready (rs := [6]) (by kernel_rfl) (List.cons_ne_nil _ _) ?_
            refine AllReadyH.cons rfl (fun K hK => ?_) AllReadyH.nil
            go_simp
            go_wp2_with (go_at_call 22; ((with_reducible refine (HTA.out _ (HON.out _ _ (HON.out _ _ HG.out B2.out) hHeld.1) (HRD.out.on (thn16 B2.out hHeld.1))).mono ?_); rintro e X4 ⟨qt, nt, ct, rfl, lq, oq, bq⟩); have NQ := Lib.hid lq; clear lq)
            obtain ⟨Bt, hBt⟩ : ∃ b, b = X3.heap.size := ⟨_, rfl⟩
            rw [← hBt] at oq
            have SEP := Lib.hid (show ∀ j, qp = some ⟨j, 0, none⟩ → j < Bt from hBt ▸ own_sep16 OP.out)
            have HBt := Lib.hid (show v2.heap.size ≤ Bt from hBt ▸ hHeld.1.size)
            have OQ := Lib.hid oq
            have b := bq
            clear oq bq hBt
            have OP := Lib.hid (owns_on16 OP.out b)
            have ZA := Lib.hid (blk_on ZA.out b)
            have ZB := Lib.hid (blk_on ZB.out b)
            refine hK.out _ _ ?_ (fun hHeld2 => ?_)
            · exact ⟨hHeld.1.trans (b.mono hHeld.1.size), (b.cell (World.block_lt_of_cell? _ _ hHeld.2.1)).trans hHeld.2.1, (b.cell (World.block_lt_of_cell? _ _ hHeld.2.2)).trans hHeld.2.2⟩
            clear hK K
            clear b
            have hHeld := hHeld2
            clear hHeld2
            refine wpAnyH_ready (rs := [9]) (by kernel_rfl) (List.cons_ne_nil _ _) ?_
            refine AllReadyH.cons rfl (fun K hK => ?_) AllReadyH.nil
            have z0 := (cell_of_row X4 ga 0 _ _ (0, 0) ZA.out).trans (show _ = some (Value.int .u8 0) from rfl)
            have z1 := (cell_of_row X4 ga 1 _ _ (0, 0) ZA.out).trans (show _ = some (Value.slice none 0 0) from rfl)
            have zf0 := frozen_of_row X4 ga 0 _ _ ZA.out
            have zf1 := frozen_of_row X4 ga 1 _ _ ZA.out
            go_simp
            refine hK.out _ _ ?_ (fun hHeld2 => ?_)
            · exact (fun HB => ⟨HB, (HB.cell (p := ⟨w.heap.size, 0, none⟩) HLB.out).trans HX0.out, (HB.cell (p := ⟨w.heap.size, 1, none⟩) HLB.out).trans HX1.out⟩) ((hHeld.1.setCell (p := ⟨ga, 0, none⟩) GA.out _).setCell (p := ⟨ga, 1, none⟩) GA.out _)
            clear hK K
            clear z0 z1 zf0 zf1
            have OP1 := Lib.hid (show ((X4.setCell ⟨ga, 0, none⟩ (.int .u8 mi)).setCell ⟨ga, 1, none⟩ (.slice qp np cp)).ownsRow _ 51 2 (.slice qp np cp) np _ from own_box16 ZA.out (by decide) OP.out [.int .u8 mi, .slice qp np cp])
            have OQ1 := Lib.hid (show ((X4.setCell ⟨ga, 0, none⟩ (.int .u8 mi)).setCell ⟨ga, 1, none⟩ (.slice qp np cp)).ownsRow _ 51 2 (.slice qt nt ct) nt _ from own_box16 ZA.out (by decide) OQ.out [.int .u8 mi, .slice qp np cp])
            have ZN := Lib.hid (show ((X4.setCell ⟨ga, 0, none⟩ (.int .u8 mi)).setCell ⟨ga, 1, none⟩ (.slice qp np cp)).heap[ga]? = some (.cells #[.int .u8 mi, .slice qp np cp] 24 (0, 0)) from by have hz2 := ZA.out; simp [World.setCell, Array.getElem?_modify, hz2])
            have ZO := Lib.hid (show ((X4.setCell ⟨ga, 0, none⟩ (.int .u8 mi)).setCell ⟨ga, 1, none⟩ (.slice qp np cp)).heap[gb]? = _ from ((heap_setCell_other _ ⟨ga, 1, none⟩ gb _ (fun e => HNE.out e.symm)).trans (heap_setCell_other _ ⟨ga, 0, none⟩ gb _ (fun e => HNE.out e.symm))).trans ZB.out)
            generalize (X4.setCell ⟨ga, 0, none⟩ (.int .u8 mi)).setCell ⟨ga, 1, none⟩ (.slice qp np cp) = X5 at OP1 OQ1 ZN ZO hHeld2 ⊢
            clear ZA ZB OP OQ hHeld
            have OP := OP1
            have OQ := OQ1
            have ZA := ZN
            have ZB := ZO
            have hHeld := hHeld2
            clear OP1 OQ1 ZN ZO hHeld2
            refine wpAnyH_ready (rs := [10]) (by kernel_rfl) (List.cons_ne_nil _ _) ?_
            refine AllReadyH.cons rfl (fun K hK => ?_) AllReadyH.nil
            have z0 := (cell_of_row X5 gb 0 _ _ (0, 0) ZB.out).trans (show _ = some (Value.int .u8 0) from rfl)
            have z1 := (cell_of_row X5 gb 1 _ _ (0, 0) ZB.out).trans (show _ = some (Value.slice none 0 0) from rfl)
            have zf0 := frozen_of_row X5 gb 0 _ _ ZB.out
            have zf1 := frozen_of_row X5 gb 1 _ _ ZB.out
            go_simp
            refine hK.out _ _ ?_ (fun hHeld2 => ?_)
            · exact (fun HB => ⟨HB, (HB.cell (p := ⟨w.heap.size, 0, none⟩) HLB.out).trans HX0.out, (HB.cell (p := ⟨w.heap.size, 1, none⟩) HLB.out).trans HX1.out⟩) ((hHeld.1.setCell (p := ⟨gb, 0, none⟩) GB.out _).setCell (p := ⟨gb, 1, none⟩) GB.out _)
            clear hK K
            clear z0 z1 zf0 zf1
            have OP1 := Lib.hid (show ((X5.setCell ⟨gb, 0, none⟩ (.int .u8 mi)).setCell ⟨gb, 1, none⟩ (.slice qt nt ct)).ownsRow _ 51 2 (.slice qp np cp) np _ from own_box16 ZB.out (by decide) OP.out [.int .u8 mi, .slice qt nt ct])
            have OQ1 := Lib.hid (show ((X5.setCell ⟨gb, 0, none⟩ (.int .u8 mi)).setCell ⟨gb, 1, none⟩ (.slice qt nt ct)).ownsRow _ 51 2 (.slice qt nt ct) nt _ from own_box16 ZB.out (by decide) OQ.out [.int .u8 mi, .slice qt nt ct])
            have ZN := Lib.hid (show ((X5.setCell ⟨gb, 0, none⟩ (.int .u8 mi)).setCell ⟨gb, 1, none⟩ (.slice qt nt ct)).heap[gb]? = some (.cells #[.int .u8 mi, .slice qt nt ct] 24 (0, 0)) from by have hz2 := ZB.out; simp [World.setCell, Array.getElem?_modify, hz2])
            have ZO := Lib.hid (show ((X5.setCell ⟨gb, 0, none⟩ (.int .u8 mi)).setCell ⟨gb, 1, none⟩ (.slice qt nt ct)).heap[ga]? = _ from ((heap_setCell_other _ ⟨gb, 1, none⟩ ga _ HNE.out).trans (heap_setCell_other _ ⟨gb, 0, none⟩ ga _ HNE.out)).trans ZA.out)
            generalize (X5.setCell ⟨gb, 0, none⟩ (.int .u8 mi)).setCell ⟨gb, 1, none⟩ (.slice qt nt ct) = X6 at OP1 OQ1 ZN ZO hHeld2 ⊢
            clear ZB ZA OP OQ hHeld
            have OP := OP1
            have OQ := OQ1
            have ZB := ZN
            have ZA := ZO
            have hHeld := hHeld2
            clear OP1 OQ1 ZN ZO hHeld2
            refine wpAnyH_done (by kernel_rfl) ?_ _
            exact KEY X6 ga gb qp np cp qt nt ct ⟨hHeld.1, ZA.out, ZB.out, GA.out, GB.out, HNE.out, NP.out, NQ.out, OP.out, Bt, HBt.out, OQ.out, SEP.out⟩
          exact AllReadyH.nil
        refine AllReadyH.cons rfl (fun K hK => ?_) ?_
        · go_simp
          refine hK.out _ _ ?_ (fun hHeld2 => ?_)
          · exact ⟨hHeld.1.trans ((below16 X1 (.cells #[.int .u8 0, .slice none 0 0] 24)).mono hHeld.1.size), ((below16 X1 (.cells #[.int .u8 0, .slice none 0 0] 24)).cell (World.block_lt_of_cell? _ _ hHeld.2.1)).trans hHeld.2.1, ((below16 X1 (.cells #[.int .u8 0, .slice none 0 0] 24)).cell (World.block_lt_of_cell? _ _ hHeld.2.2)).trans hHeld.2.2⟩
          clear hK K
          obtain ⟨X2, hN⟩ : ∃ X, X = X1.alloc (.cells #[.int .u8 0, .slice none 0 0] 24) := ⟨_, rfl⟩
          have b : Below X1.heap.size X1 X2 := hN ▸ below16 X1 (.cells #[.int .u8 0, .slice none 0 0] 24)
          have ZA0 := Lib.hid (show X2.heap[X1.heap.size]? = some (.cells #[.int .u8 0, .slice none 0 0] 24 (0, 0)) from hN ▸ heap_alloc_new X1 _)
          rw [← hN] at hHeld2 ⊢
          have HNE := Lib.hid (show X1.heap.size ≠ gb from Nat.ne_of_gt (blk_lt ZB.out))
          have ZB := Lib.hid (blk_on ZB.out b)
          obtain ⟨ga, hg⟩ : ∃ g, g = X1.heap.size := ⟨_, rfl⟩
          have GA := Lib.hid (show v2.heap.size ≤ ga from hg ▸ hHeld.1.size)
          rw [← hg] at ZA0 HNE ⊢
          have ZA := ZA0
          clear ZA0 b hN hg
          have hHeld := hHeld2
          clear hHeld2
          refine wpAnyH_ready (rs := [3]) (by kernel_rfl) (List.cons_ne_nil _ _) ?_
          refine AllReadyH.cons rfl (fun K hK => ?_) AllReadyH.nil
          go_simp
          go_wp2_with (go_at_call 21; ((with_reducible refine (HPU.out _ (HON.out _ _ (HON.out _ _ HG.out B2.out) hHeld.1) (HRD.out.on (thn16 B2.out hHeld.1))).mono ?_); rintro e X3 ⟨qp, np, cp, rfl, lp, op, bp⟩); have NP := Lib.hid lp; clear lp)
          have OP := Lib.hid (owns_low16 op hHeld.1.size)
          have b := bp
          clear op bp
          have ZA := Lib.hid (blk_on ZA.out b)
          have ZB := Lib.hid (blk_on ZB.out b)
          refine hK.out _ _ ?_ (fun hHeld2 => ?_)
          · exact ⟨hHeld.1.trans (b.mono hHeld.1.size), (b.cell (World.block_lt_of_cell? _ _ hHeld.2.1)).trans hHeld.2.1, (b.cell (World.block_lt_of_cell? _ _ hHeld.2.2)).trans hHeld.2.2⟩
          clear hK K
          clear b
          have hHeld := hHeld2
          clear hHeld2
          refine wpAnyH_ready (rs := [6]) (by kernel_rfl) (List.cons_ne_nil _ _) ?_
          refine AllReadyH.cons rfl (fun K hK => ?_) AllReadyH.nil
          go_simp
          go_wp2_with (go_at_call 22; ((with_reducible refine (HTA.out _ (HON.out _ _ (HON.out _ _ HG.out B2.out) hHeld.1) (HRD.out.on (thn16 B2.out hHeld.1))).mono ?_); rintro e X4 ⟨qt, nt, ct, rfl, lq, oq, bq⟩); have NQ := Lib.hid lq; clear lq)
          obtain ⟨Bt, hBt⟩ : ∃ b, b = X3.heap.size := ⟨_, rfl⟩
          rw [← hBt] at oq
          have SEP := Lib.hid (show ∀ j, qp = some ⟨j, 0, none⟩ → j < Bt from hBt ▸ own_sep16 OP.out)
          have HBt := Lib.hid (show v2.heap.size ≤ Bt from hBt ▸ hHeld.1.size)
          have OQ := Lib.hid oq
          have b := bq
          clear oq bq hBt
          have OP := Lib.hid (owns_on16 OP.out b)
          have ZA := Lib.hid (blk_on ZA.out b)
          have ZB := Lib.hid (blk_on ZB.out b)
          refine hK.out _ _ ?_ (fun hHeld2 => ?_)
          · exact ⟨hHeld.1.trans (b.mono hHeld.1.size), (b.cell (World.block_lt_of_cell? _ _ hHeld.2.1)).trans hHeld.2.1, (b.cell (World.block_lt_of_cell? _ _ hHeld.2.2)).trans hHeld.2.2⟩
          clear hK K
          clear b
          have hHeld := hHeld2
          clear hHeld2
          refine wpAnyH_ready (rs := [9]) (by kernel_rfl) (List.cons_ne_nil _ _) ?_
          refine AllReadyH.cons rfl (fun K hK => ?_) AllReadyH.nil
          have z0 := (cell_of_row X4 ga 0 _ _ (0, 0) ZA.out).trans (show _ = some (Value.int .u8 0) from rfl)
          have z1 := (cell_of_row X4 ga 1 _ _ (0, 0) ZA.out).trans (show _ = some (Value.slice none 0 0) from rfl)
          have zf0 := frozen_of_row X4 ga 0 _ _ ZA.out
          have zf1 := frozen_of_row X4 ga 1 _ _ ZA.out
          go_simp
          refine hK.out _ _ ?_ (fun hHeld2 => ?_)
          · exact (fun HB => ⟨HB, (HB.cell (p := ⟨w.heap.size, 0, none⟩) HLB.out).trans HX0.out, (HB.cell (p := ⟨w.heap.size, 1, none⟩) HLB.out).trans HX1.out⟩) ((hHeld.1.setCell (p := ⟨ga, 0, none⟩) GA.out _).setCell (p := ⟨ga, 1, none⟩) GA.out _)
          clear hK K
          clear z0 z1 zf0 zf1
          have OP1 := Lib.hid (show ((X4.setCell ⟨ga, 0, none⟩ (.int .u8 mi)).setCell ⟨ga, 1, none⟩ (.slice qp np cp)).ownsRow _ 51 2 (.slice qp np cp) np _ from own_box16 ZA.out (by decide) OP.out [.int .u8 mi, .slice qp np cp])
          have OQ1 := Lib.hid (show ((X4.setCell ⟨ga, 0, none⟩ (.int .u8 mi)).setCell ⟨ga, 1, none⟩ (.slice qp np cp)).ownsRow _ 51 2 (.slice qt nt ct) nt _ from own_box16 ZA.out (by decide) OQ.out [.int .u8 mi, .slice qp np cp])
          have ZN := Lib.hid (show ((X4.setCell ⟨ga, 0, none⟩ (.int .u8 mi)).setCell ⟨ga, 1, none⟩ (.slice qp np cp)).heap[ga]? = some (.cells #[.int .u8 mi, .slice qp np cp] 24 (0, 0)) from by have hz2 := ZA.out; simp [World.setCell, Array.getElem?_modify, hz2])
          have ZO := Lib.hid (show ((X4.setCell ⟨ga, 0, none⟩ (.int .u8 mi)).setCell ⟨ga, 1, none⟩ (.slice qp np cp)).heap[gb]? = _ from ((heap_setCell_other _ ⟨ga, 1, none⟩ gb _ (fun e => HNE.out e.symm)).trans (heap_setCell_other _ ⟨ga, 0, none⟩ gb _ (fun e => HNE.out e.symm))).trans ZB.out)
          generalize (X4.setCell ⟨ga, 0, none⟩ (.int .u8 mi)).setCell ⟨ga, 1, none⟩ (.slice qp np cp) = X5 at OP1 OQ1 ZN ZO hHeld2 ⊢
          clear ZA ZB OP OQ hHeld
          have OP := OP1
          have OQ := OQ1
          have ZA := ZN
          have ZB := ZO
          have hHeld := hHeld2
          clear OP1 OQ1 ZN ZO hHeld2
          refine wpAnyH_ready (rs := [10]) (by kernel_rfl) (List.cons_ne_nil _ _) ?_
          refine AllReadyH.cons rfl (fun K hK => ?_) AllReadyH.nil
          have z0 := (cell_of_row X5 gb 0 _ _ (0, 0) ZB.out).trans (show _ = some (Value.int .u8 0) from rfl)
          have z1 := (cell_of_row X5 gb 1 _ _ (0, 0) ZB.out).trans (show _ = some (Value.slice none 0 0) from rfl)
          have zf0 := frozen_of_row X5 gb 0 _ _ ZB.out
          have zf1 := frozen_of_row X5 gb 1 _ _ ZB.out
          go_simp
          refine hK.out _ _ ?_ (fun hHeld2 => ?_)
          · exact (fun HB => ⟨HB, (HB.cell (p := ⟨w.heap.size, 0, none⟩) HLB.out).trans HX0.out, (HB.cell (p := ⟨w.heap.size, 1, none⟩) HLB.out).trans HX1.out⟩) ((hHeld.1.setCell (p := ⟨gb, 0, none⟩) GB.out _).setCell (p := ⟨gb, 1, none⟩) GB.out _)
          clear hK K
          clear z0 z1 zf0 zf1
          have OP1 := Lib.hid (show ((X5.setCell ⟨gb, 0, none⟩ (.int .u8 mi)).setCell ⟨gb, 1, none⟩ (.slice qt nt ct)).ownsRow _ 51 2 (.slice qp np cp) np _ from own_box16 ZB.out (by decide) OP.out [.int .u8 mi, .slice qt nt ct])
          have OQ1 := Lib.hid (show ((X5.setCell ⟨gb, 0, none⟩ (.int .u8 mi)).setCell ⟨gb, 1, none⟩ (.slice qt nt ct)).ownsRow _ 51 2 (.slice qt nt ct) nt _ from own_box16 ZB.out (by decide) OQ.out [.int .u8 mi, .slice qt nt ct])
          have ZN := Lib.hid (show ((X5.setCell ⟨gb, 0, none⟩ (.int .u8 mi)).setCell ⟨gb, 1, none⟩ (.slice qt nt ct)).heap[gb]? = some (.cells #[.int .u8 mi, .slice qt nt ct] 24 (0, 0)) from by have hz2 := ZB.out; simp [World.setCell, Array.getElem?_modify, hz2])
          have ZO := Lib.hid (show ((X5.setCell ⟨gb, 0, none⟩ (.int .u8 mi)).setCell ⟨gb, 1, none⟩ (.slice qt nt ct)).heap[ga]? = _ from ((heap_setCell_other _ ⟨gb, 1, none⟩ ga _ HNE.out).trans (heap_setCell_other _ ⟨gb, 0, none⟩ ga _ HNE.out)).trans ZA.out)
          generalize (X5.setCell ⟨gb, 0, none⟩ (.int .u8 mi)).setCell ⟨gb, 1, none⟩ (.slice qt nt ct) = X6 at OP1 OQ1 ZN ZO hHeld2 ⊢
          clear ZB ZA OP OQ hHeld
          have OP := OP1
          have OQ := OQ1
          have ZB := ZN
          have ZA := ZO
          have hHeld := hHeld2
          clear OP1 OQ1 ZN ZO hHeld2
          refine wpAnyH_done (by kernel_rfl) ?_ _
          exact KEY X6 ga gb qp np cp qt nt ct ⟨hHeld.1, ZA.out, ZB.out, GA.out, GB.out, HNE.out, NP.out, NQ.out, OP.out, Bt, HBt.out, OQ.out, SEP.out⟩
        exact AllReadyH.nil
      exact AllReadyH.nil
    case h2 =>
      intro X ga gb qp np cp qt nt ct hF
      obtain ⟨bX, zA, zB, gA, gB, hne, hnp, hnq, oP, Bt, hBt, oQ, sep⟩ := hF
      have BX := Lib.hid (thn16 B2.out bX)
      have ZA := Lib.hid zA
      have ZB := Lib.hid zB
      have NP := Lib.hid hnp
      have NQ := Lib.hid hnq
      have OP := Lib.hid oP
      have OQ := Lib.hid oQ
      have XL := Lib.hid (blk_on X2.out bX)
      have E0 := Lib.hid ((cell_of_row X w.heap.size 0 _ _ (0, 0) XL.out).trans (show _ = some (Value.int .u8 mi) from rfl))
      have E1 := Lib.hid ((cell_of_row X w.heap.size 1 _ _ (0, 0) XL.out).trans (show _ = some (Value.slice a0 len0 cap0) from rfl))
      have E2 := Lib.hid ((cell_of_row X ga 0 _ _ (0, 0) ZA.out).trans (show _ = some (Value.int .u8 mi) from rfl))
      have E3 := Lib.hid ((cell_of_row X ga 1 _ _ (0, 0) ZA.out).trans (show _ = some (Value.slice qp np cp) from rfl))
      have E4 := Lib.hid ((cell_of_row X gb 0 _ _ (0, 0) ZB.out).trans (show _ = some (Value.int .u8 mi) from rfl))
      have E5 := Lib.hid ((cell_of_row X gb 1 _ _ (0, 0) ZB.out).trans (show _ = some (Value.slice qt nt ct) from rfl))
      have HLT := Lib.hid (show w.heap.size < X.heap.size ∧ ga < X.heap.size ∧ gb < X.heap.size from ⟨blk_lt XL.out, blk_lt ZA.out, blk_lt ZB.out⟩)
      have t1 : (ai == ai) = true := by simp
      have t2 : (fb == fb) = true := by simp
      have t3 : (fd == fd) = true := by simp
      have e0 := E0.out
      have e1 := E1.out
      have e2 := E2.out
      have e3 := E3.out
      have e4 := E4.out
      have e5 := E5.out
      have l0 := HLT.out.1
      clear zA zB gA gB hne hnp hnq oP hBt oQ sep bX
      by_cases hm0 : m0 = 0
      · obtain rfl : mi = 0 := by rw [HMI.out, hm0]; rfl
        clear hm0
        go_wp2_with (first
          | (go_at_call 19
             (with_reducible refine (HFP1.out _ qp np cp (HON.out _ _ HG.out (thn16 BX.out (Below.refl _ _))) NP.out (LsAt.of_own OP.out NP.out)).mono ?_)
             rintro e f4 ⟨rfl, b⟩
             have D4 := Lib.hid (thn16 (Below.refl _ _) b)
             clear b e0 e1 e2 e3 e4 e5 l0
             have e0 := (D4.out.cell (p := ⟨w.heap.size, 0, none⟩) HLT.out.1).trans E0.out
             have e1 := (D4.out.cell (p := ⟨w.heap.size, 1, none⟩) HLT.out.1).trans E1.out
             have e2 := (D4.out.cell (p := ⟨ga, 0, none⟩) HLT.out.2.1).trans E2.out
             have e3 := (D4.out.cell (p := ⟨ga, 1, none⟩) HLT.out.2.1).trans E3.out
             have e4 := (D4.out.cell (p := ⟨gb, 0, none⟩) HLT.out.2.2).trans E4.out
             have e5 := (D4.out.cell (p := ⟨gb, 1, none⟩) HLT.out.2.2).trans E5.out
             have l0 : w.heap.size < f4.heap.size := Nat.lt_of_lt_of_le HLT.out.1 D4.out.size)
          | (go_at_call 19
             (with_reducible refine (HFQ1.out _ qt nt ct (HON.out _ _ HG.out (thn16 BX.out D4.out)) NQ.out (LsAt.of_own (owns_on16 OQ.out D4.out) NQ.out)).mono ?_)
             rintro e f5 ⟨rfl, b⟩
             have D5 := Lib.hid (thn16 D4.out b)
             clear b e0 e1 e2 e3 e4 e5 l0
             have e0 := (D5.out.cell (p := ⟨w.heap.size, 0, none⟩) HLT.out.1).trans E0.out
             have e1 := (D5.out.cell (p := ⟨w.heap.size, 1, none⟩) HLT.out.1).trans E1.out
             have e2 := (D5.out.cell (p := ⟨ga, 0, none⟩) HLT.out.2.1).trans E2.out
             have e3 := (D5.out.cell (p := ⟨ga, 1, none⟩) HLT.out.2.1).trans E3.out
             have e4 := (D5.out.cell (p := ⟨gb, 0, none⟩) HLT.out.2.2).trans E4.out
             have e5 := (D5.out.cell (p := ⟨gb, 1, none⟩) HLT.out.2.2).trans E5.out
             have l0 : w.heap.size < f5.heap.size := Nat.lt_of_lt_of_le HLT.out.1 D5.out.size)
          | (go_at_call 19
             (with_reducible refine (HFL.out _ (HON.out _ _ HG.out (thn16 BX.out D5.out)) (HRD.out.on (thn16 BX.out D5.out))).mono ?_)
             rintro e f6 ⟨rfl, b⟩
             have D6 := Lib.hid (thn16 D5.out b)
             clear b e0 e1 e2 e3 e4 e5 l0
             have e0 := (D6.out.cell (p := ⟨w.heap.size, 0, none⟩) HLT.out.1).trans E0.out
             have e1 := (D6.out.cell (p := ⟨w.heap.size, 1, none⟩) HLT.out.1).trans E1.out
             have e2 := (D6.out.cell (p := ⟨ga, 0, none⟩) HLT.out.2.1).trans E2.out
             have e3 := (D6.out.cell (p := ⟨ga, 1, none⟩) HLT.out.2.1).trans E3.out
             have e4 := (D6.out.cell (p := ⟨gb, 0, none⟩) HLT.out.2.2).trans E4.out
             have e5 := (D6.out.cell (p := ⟨gb, 1, none⟩) HLT.out.2.2).trans E5.out
             have l0 : w.heap.size < f6.heap.size := Nat.lt_of_lt_of_le HLT.out.1 D6.out.size)
          | (go_at_call 19
             (with_reducible refine (HFP2.out _ qp np cp (HON.out _ _ HG.out (thn16 BX.out D6.out)) NP.out (LsAt.of_own (owns_on16 OP.out D6.out) NP.out)).mono ?_)
             rintro e f7 ⟨rfl, b⟩
             have D7 := Lib.hid (thn16 D6.out b)
             clear b e0 e1 e2 e3 e4 e5 l0
             have e0 := (D7.out.cell (p := ⟨w.heap.size, 0, none⟩) HLT.out.1).trans E0.out
             have e1 := (D7.out.cell (p := ⟨w.heap.size, 1, none⟩) HLT.out.1).trans E1.out
             have e2 := (D7.out.cell (p := ⟨ga, 0, none⟩) HLT.out.2.1).trans E2.out
             have e3 := (D7.out.cell (p := ⟨ga, 1, none⟩) HLT.out.2.1).trans E3.out
             have e4 := (D7.out.cell (p := ⟨gb, 0, none⟩) HLT.out.2.2).trans E4.out
             have e5 := (D7.out.cell (p := ⟨gb, 1, none⟩) HLT.out.2.2).trans E5.out
             have l0 : w.heap.size < f7.heap.size := Nat.lt_of_lt_of_le HLT.out.1 D7.out.size)
          | (go_at_call 19
             (with_reducible refine (HFQ2.out _ qt nt ct (HON.out _ _ HG.out (thn16 BX.out D7.out)) NQ.out (LsAt.of_own (owns_on16 OQ.out D7.out) NQ.out)).mono ?_)
             rintro e f8 ⟨rfl, b⟩
             have D8 := Lib.hid (thn16 D7.out b)
             clear b e0 e1 e2 e3 e4 e5 l0
             have e0 := (D8.out.cell (p := ⟨w.heap.size, 0, none⟩) HLT.out.1).trans E0.out
             have e1 := (D8.out.cell (p := ⟨w.heap.size, 1, none⟩) HLT.out.1).trans E1.out
             have e2 := (D8.out.cell (p := ⟨ga, 0, none⟩) HLT.out.2.1).trans E2.out
             have e3 := (D8.out.cell (p := ⟨ga, 1, none⟩) HLT.out.2.1).trans E3.out
             have e4 := (D8.out.cell (p := ⟨gb, 0, none⟩) HLT.out.2.2).trans E4.out
             have e5 := (D8.out.cell (p := ⟨gb, 1, none⟩) HLT.out.2.2).trans E5.out
             have l0 : w.heap.size < f8.heap.size := Nat.lt_of_lt_of_le HLT.out.1 D8.out.size)
          | (go_at_call 16
             (with_reducible refine (HAW.out _ (HON.out _ _ HG.out (thn16 BX.out D8.out))).mono ?_)
             rintro e v9 ⟨rfl, b9⟩
             have B9 := Lib.hid (thn16 (thn16 BX.out D8.out) b9)
             clear b9))
        go_ret
        exact ⟨by first | rfl | simp, B9.out⟩
      have hb0 : (mi == 0) = false := beq_eq_false_iff_ne.2 (by rw [HMI.out]; omega)
      have hmd : m0 ≤ 2 := HOK.out.mode
      have hrem : (a1.size : Int).tmod 3 = 0 ∨ (a1.size : Int).tmod 3 = 1 ∨ (a1.size : Int).tmod 3 = 2 := by
        rw [Int.tmod_eq_emod_of_nonneg (by omega)]; omega
      rcases (show m0 = 1 ∨ m0 = 2 by omega) with hmm | hmm
      all_goals clear hm0 hmd
      · have HM0 := Lib.hid hmm
        have hb2 : (mi == 2) = false := by rw [HMI.out, hmm]; rfl
        clear hmm
        cases a4 with
        | true =>
          rcases hrem with hj | hj | hj
          · have hstep := stepA_ok (sfx := true) (v := ⟨#[126, 114, 101, 97, 100]⟩) (s := (m0, z0)) HOK.out
            have hrk := step_ok grpX_known true ⟨#[126, 114, 101, 97, 100]⟩ (s := (m0, z0)) HOK.out
            have hfp := find_plain plain_read (X := grpX) true true (s := (m0, z0)) (Or.inl HM0.out)
            have hsp := congrArg Prod.snd (step_plain plain_read (X := grpX) true true (m0, z0))
            have e1 : (if (true : Bool) = true then bs (126 :: [114, 101, 97, 100]) else bs [114, 101, 97, 100]) = ⟨#[126, 114, 101, 97, 100]⟩ := by kernel_rfl
            have e2 : bs [114, 101, 97, 100] = ⟨#[114, 101, 97, 100]⟩ := by kernel_rfl
            rw [e1] at hfp hsp
            rw [e2] at hfp
            simp only at hsp
            have HST := Lib.hid (fun (W : World) (g : G W) (h : LsAt W a0 z0) => step_n HCC.out m0 a0 len0 cap0 z0 ⟨#[126, 114, 101, 97, 100]⟩ true W g HX0B.out W0S.out HL1.out HACT.out (by decide) h _ rfl _ rfl)
            obtain ⟨r, hr⟩ : ∃ r, r = stepA true ⟨#[126, 114, 101, 97, 100]⟩ (m0, z0) := ⟨_, rfl⟩
            rw [← hstep] at hrk hfp hsp
            rw [← hr] at HST hrk hfp hsp
            have hf : findC r.1.2 ⟨#[114, 101, 97, 100]⟩ = none := by
              refine Eq.trans hfp ?_
              simp [HM0.out]
            have HFS := Lib.hid (fun (W : World) (q : Option Addr) (c : Nat) (g : G W) (h : LsAt W q r.1.2) => HCC.out.find r.1.1 q r.1.2.length c r.1.2 ⟨#[114, 101, 97, 100]⟩ W g (by have := hrk.mode; omega) rfl (by have := okl_le hrk; omega) (okl_lt hrk) h)
            rw [hf] at HFS
            rw [hsp] at HST
            simp only [Option.getD_some, Option.getD_none, Option.isSome_some, Option.isSome_none, List.map_nil] at HFS HST
            rw [show (((0 : Nat) : Nat) : Int) = 0 from rfl] at HFS
            unfold lsV at HST HFS
            rw [← HMI.out] at HST
            obtain ⟨mr, hmr⟩ : ∃ x : Int, x = (r.1.1 : Nat) := ⟨_, rfl⟩
            obtain ⟨nr, hnr⟩ : ∃ n, n = r.1.2.length := ⟨_, rfl⟩
            have HNR := Lib.hid hnr
            rw [← hmr, ← hnr] at HST HFS
            rw [show (⟨#[126, 114, 101, 97, 100]⟩ : ByteArray) = ⟨#[126]⟩ ++ ⟨#[114, 101, 97, 100]⟩ from by kernel_rfl] at HST
            clear hstep hrk hfp hsp e1 e2 hr hf hmr hnr
            go_wp2_with (first
              | (go_at_call 19
                 (with_reducible refine (HFP1.out _ qp np cp (HON.out _ _ HG.out (thn16 BX.out (Below.refl _ _))) NP.out (LsAt.of_own OP.out NP.out)).mono ?_)
                 rintro e f4 ⟨rfl, b⟩
                 have D4 := Lib.hid (thn16 (Below.refl _ _) b)
                 clear b e0 e1 e2 e3 e4 e5 l0
                 have e0 := (D4.out.cell (p := ⟨w.heap.size, 0, none⟩) HLT.out.1).trans E0.out
                 have e1 := (D4.out.cell (p := ⟨w.heap.size, 1, none⟩) HLT.out.1).trans E1.out
                 have e2 := (D4.out.cell (p := ⟨ga, 0, none⟩) HLT.out.2.1).trans E2.out
                 have e3 := (D4.out.cell (p := ⟨ga, 1, none⟩) HLT.out.2.1).trans E3.out
                 have e4 := (D4.out.cell (p := ⟨gb, 0, none⟩) HLT.out.2.2).trans E4.out
                 have e5 := (D4.out.cell (p := ⟨gb, 1, none⟩) HLT.out.2.2).trans E5.out
                 have l0 : w.heap.size < f4.heap.size := Nat.lt_of_lt_of_le HLT.out.1 D4.out.size)
              | (go_at_call 19
                 (with_reducible refine (HFQ1.out _ qt nt ct (HON.out _ _ HG.out (thn16 BX.out D4.out)) NQ.out (LsAt.of_own (owns_on16 OQ.out D4.out) NQ.out)).mono ?_)
                 rintro e f5 ⟨rfl, b⟩
                 have D5 := Lib.hid (thn16 D4.out b)
                 clear b e0 e1 e2 e3 e4 e5 l0
                 have e0 := (D5.out.cell (p := ⟨w.heap.size, 0, none⟩) HLT.out.1).trans E0.out
                 have e1 := (D5.out.cell (p := ⟨w.heap.size, 1, none⟩) HLT.out.1).trans E1.out
                 have e2 := (D5.out.cell (p := ⟨ga, 0, none⟩) HLT.out.2.1).trans E2.out
                 have e3 := (D5.out.cell (p := ⟨ga, 1, none⟩) HLT.out.2.1).trans E3.out
                 have e4 := (D5.out.cell (p := ⟨gb, 0, none⟩) HLT.out.2.2).trans E4.out
                 have e5 := (D5.out.cell (p := ⟨gb, 1, none⟩) HLT.out.2.2).trans E5.out
                 have l0 : w.heap.size < f5.heap.size := Nat.lt_of_lt_of_le HLT.out.1 D5.out.size)
              | (go_at_call 19
                 (with_reducible refine (HFL.out _ (HON.out _ _ HG.out (thn16 BX.out D5.out)) (HRD.out.on (thn16 BX.out D5.out))).mono ?_)
                 rintro e f6 ⟨rfl, b⟩
                 have D6 := Lib.hid (thn16 D5.out b)
                 clear b e0 e1 e2 e3 e4 e5 l0
                 have e0 := (D6.out.cell (p := ⟨w.heap.size, 0, none⟩) HLT.out.1).trans E0.out
                 have e1 := (D6.out.cell (p := ⟨w.heap.size, 1, none⟩) HLT.out.1).trans E1.out
                 have e2 := (D6.out.cell (p := ⟨ga, 0, none⟩) HLT.out.2.1).trans E2.out
                 have e3 := (D6.out.cell (p := ⟨ga, 1, none⟩) HLT.out.2.1).trans E3.out
                 have e4 := (D6.out.cell (p := ⟨gb, 0, none⟩) HLT.out.2.2).trans E4.out
                 have e5 := (D6.out.cell (p := ⟨gb, 1, none⟩) HLT.out.2.2).trans E5.out
                 have l0 : w.heap.size < f6.heap.size := Nat.lt_of_lt_of_le HLT.out.1 D6.out.size)
              | (go_at_call 19
                 (with_reducible refine (HFP2.out _ qp np cp (HON.out _ _ HG.out (thn16 BX.out D6.out)) NP.out (LsAt.of_own (owns_on16 OP.out D6.out) NP.out)).mono ?_)
                 rintro e f7 ⟨rfl, b⟩
                 have D7 := Lib.hid (thn16 D6.out b)
                 clear b e0 e1 e2 e3 e4 e5 l0
                 have e0 := (D7.out.cell (p := ⟨w.heap.size, 0, none⟩) HLT.out.1).trans E0.out
                 have e1 := (D7.out.cell (p := ⟨w.heap.size, 1, none⟩) HLT.out.1).trans E1.out
                 have e2 := (D7.out.cell (p := ⟨ga, 0, none⟩) HLT.out.2.1).trans E2.out
                 have e3 := (D7.out.cell (p := ⟨ga, 1, none⟩) HLT.out.2.1).trans E3.out
                 have e4 := (D7.out.cell (p := ⟨gb, 0, none⟩) HLT.out.2.2).trans E4.out
                 have e5 := (D7.out.cell (p := ⟨gb, 1, none⟩) HLT.out.2.2).trans E5.out
                 have l0 : w.heap.size < f7.heap.size := Nat.lt_of_lt_of_le HLT.out.1 D7.out.size)
              | (go_at_call 19
                 (with_reducible refine (HFQ2.out _ qt nt ct (HON.out _ _ HG.out (thn16 BX.out D7.out)) NQ.out (LsAt.of_own (owns_on16 OQ.out D7.out) NQ.out)).mono ?_)
                 rintro e f8 ⟨rfl, b⟩
                 have D8 := Lib.hid (thn16 D7.out b)
                 clear b e0 e1 e2 e3 e4 e5 l0
                 have e0 := (D8.out.cell (p := ⟨w.heap.size, 0, none⟩) HLT.out.1).trans E0.out
                 have e1 := (D8.out.cell (p := ⟨w.heap.size, 1, none⟩) HLT.out.1).trans E1.out
                 have e2 := (D8.out.cell (p := ⟨ga, 0, none⟩) HLT.out.2.1).trans E2.out
                 have e3 := (D8.out.cell (p := ⟨ga, 1, none⟩) HLT.out.2.1).trans E3.out
                 have e4 := (D8.out.cell (p := ⟨gb, 0, none⟩) HLT.out.2.2).trans E4.out
                 have e5 := (D8.out.cell (p := ⟨gb, 1, none⟩) HLT.out.2.2).trans E5.out
                 have l0 : w.heap.size < f8.heap.size := Nat.lt_of_lt_of_le HLT.out.1 D8.out.size)
              | (go_at_call 11
                 (with_reducible refine (HST.out _ (HON.out _ _ HG.out (thn16 BX.out (thn16 D8.out (below16 f8 (.cells #[.string ⟨#[114, 101, 97, 100]⟩, .string ⟨#[107, 105, 108, 108]⟩, .string ⟨#[115, 111, 99, 107, 101, 116]⟩] 9))))) (HRD.out.on (thn16 BX.out (thn16 D8.out (below16 f8 (.cells #[.string ⟨#[114, 101, 97, 100]⟩, .string ⟨#[107, 105, 108, 108]⟩, .string ⟨#[115, 111, 99, 107, 101, 116]⟩] 9)))))).mono ?_)
                 rintro e f10 ⟨q10, c10, vN10, rfl, o10, ⟨qN, cN, rfl, _⟩, b⟩
                 have O10 := Lib.hid o10
                 clear o10
                 have D10 := Lib.hid (thn16 (thn16 D8.out (below16 f8 (.cells #[.string ⟨#[114, 101, 97, 100]⟩, .string ⟨#[107, 105, 108, 108]⟩, .string ⟨#[115, 111, 99, 107, 101, 116]⟩] 9))) b)
                 clear b e0 e1 e2 e3 e4 e5 l0
                 have e0 := (D10.out.cell (p := ⟨w.heap.size, 0, none⟩) HLT.out.1).trans E0.out
                 have e1 := (D10.out.cell (p := ⟨w.heap.size, 1, none⟩) HLT.out.1).trans E1.out
                 have e2 := (D10.out.cell (p := ⟨ga, 0, none⟩) HLT.out.2.1).trans E2.out
                 have e3 := (D10.out.cell (p := ⟨ga, 1, none⟩) HLT.out.2.1).trans E3.out
                 have e4 := (D10.out.cell (p := ⟨gb, 0, none⟩) HLT.out.2.2).trans E4.out
                 have e5 := (D10.out.cell (p := ⟨gb, 1, none⟩) HLT.out.2.2).trans E5.out
                 have l0 : w.heap.size < f10.heap.size := Nat.lt_of_lt_of_le HLT.out.1 D10.out.size
                 have DA := Lib.hid (thn16 D10.out (below16 f10 (.cells #[.int .u8 mr, .slice q10 nr c10] 24))))
              | (go_at_call 19
                 (with_reducible refine (HFS.out _ q10 c10 (HON.out _ _ HG.out (thn16 BX.out DA.out)) (LsAt.of_own (owns_on16 O10.out (below16 f10 (.cells #[.int .u8 mr, .slice q10 nr c10] 24))) HNR.out)).mono ?_)
                 rintro e f11 ⟨rfl, b⟩
                 have D11 := Lib.hid (thn16 DA.out b)
                 clear b e0 e1 e2 e3 e4 e5 l0
                 have e0 := (D11.out.cell (p := ⟨w.heap.size, 0, none⟩) HLT.out.1).trans E0.out
                 have e1 := (D11.out.cell (p := ⟨w.heap.size, 1, none⟩) HLT.out.1).trans E1.out
                 have e2 := (D11.out.cell (p := ⟨ga, 0, none⟩) HLT.out.2.1).trans E2.out
                 have e3 := (D11.out.cell (p := ⟨ga, 1, none⟩) HLT.out.2.1).trans E3.out
                 have e4 := (D11.out.cell (p := ⟨gb, 0, none⟩) HLT.out.2.2).trans E4.out
                 have e5 := (D11.out.cell (p := ⟨gb, 1, none⟩) HLT.out.2.2).trans E5.out
                 have l0 : w.heap.size < f11.heap.size := Nat.lt_of_lt_of_le HLT.out.1 D11.out.size)
              | (go_at_call 16
                 (with_reducible refine (HAW.out _ (HON.out _ _ HG.out (thn16 BX.out D11.out))).mono ?_)
                 rintro e v9 ⟨rfl, b9⟩
                 have B9 := Lib.hid (thn16 (thn16 BX.out D11.out) b9)
                 clear b9))
            go_ret
            exact ⟨by first | rfl | simp, B9.out⟩
          · have hstep := stepA_ok (sfx := true) (v := ⟨#[126, 107, 105, 108, 108]⟩) (s := (m0, z0)) HOK.out
            have hrk := step_ok grpX_known true ⟨#[126, 107, 105, 108, 108]⟩ (s := (m0, z0)) HOK.out
            have hfp := find_plain plain_kill (X := grpX) true true (s := (m0, z0)) (Or.inl HM0.out)
            have hsp := congrArg Prod.snd (step_plain plain_kill (X := grpX) true true (m0, z0))
            have e1 : (if (true : Bool) = true then bs (126 :: [107, 105, 108, 108]) else bs [107, 105, 108, 108]) = ⟨#[126, 107, 105, 108, 108]⟩ := by kernel_rfl
            have e2 : bs [107, 105, 108, 108] = ⟨#[107, 105, 108, 108]⟩ := by kernel_rfl
            rw [e1] at hfp hsp
            rw [e2] at hfp
            simp only at hsp
            have HST := Lib.hid (fun (W : World) (g : G W) (h : LsAt W a0 z0) => step_n HCC.out m0 a0 len0 cap0 z0 ⟨#[126, 107, 105, 108, 108]⟩ true W g HX0B.out W0S.out HL1.out HACT.out (by decide) h _ rfl _ rfl)
            obtain ⟨r, hr⟩ : ∃ r, r = stepA true ⟨#[126, 107, 105, 108, 108]⟩ (m0, z0) := ⟨_, rfl⟩
            rw [← hstep] at hrk hfp hsp
            rw [← hr] at HST hrk hfp hsp
            have hf : findC r.1.2 ⟨#[107, 105, 108, 108]⟩ = none := by
              refine Eq.trans hfp ?_
              simp [HM0.out]
            have HFS := Lib.hid (fun (W : World) (q : Option Addr) (c : Nat) (g : G W) (h : LsAt W q r.1.2) => HCC.out.find r.1.1 q r.1.2.length c r.1.2 ⟨#[107, 105, 108, 108]⟩ W g (by have := hrk.mode; omega) rfl (by have := okl_le hrk; omega) (okl_lt hrk) h)
            rw [hf] at HFS
            rw [hsp] at HST
            simp only [Option.getD_some, Option.getD_none, Option.isSome_some, Option.isSome_none, List.map_nil] at HFS HST
            rw [show (((0 : Nat) : Nat) : Int) = 0 from rfl] at HFS
            unfold lsV at HST HFS
            rw [← HMI.out] at HST
            obtain ⟨mr, hmr⟩ : ∃ x : Int, x = (r.1.1 : Nat) := ⟨_, rfl⟩
            obtain ⟨nr, hnr⟩ : ∃ n, n = r.1.2.length := ⟨_, rfl⟩
            have HNR := Lib.hid hnr
            rw [← hmr, ← hnr] at HST HFS
            rw [show (⟨#[126, 107, 105, 108, 108]⟩ : ByteArray) = ⟨#[126]⟩ ++ ⟨#[107, 105, 108, 108]⟩ from by kernel_rfl] at HST
            clear hstep hrk hfp hsp e1 e2 hr hf hmr hnr
            go_wp2_with (first
              | (go_at_call 19
                 (with_reducible refine (HFP1.out _ qp np cp (HON.out _ _ HG.out (thn16 BX.out (Below.refl _ _))) NP.out (LsAt.of_own OP.out NP.out)).mono ?_)
                 rintro e f4 ⟨rfl, b⟩
                 have D4 := Lib.hid (thn16 (Below.refl _ _) b)
                 clear b e0 e1 e2 e3 e4 e5 l0
                 have e0 := (D4.out.cell (p := ⟨w.heap.size, 0, none⟩) HLT.out.1).trans E0.out
                 have e1 := (D4.out.cell (p := ⟨w.heap.size, 1, none⟩) HLT.out.1).trans E1.out
                 have e2 := (D4.out.cell (p := ⟨ga, 0, none⟩) HLT.out.2.1).trans E2.out
                 have e3 := (D4.out.cell (p := ⟨ga, 1, none⟩) HLT.out.2.1).trans E3.out
                 have e4 := (D4.out.cell (p := ⟨gb, 0, none⟩) HLT.out.2.2).trans E4.out
                 have e5 := (D4.out.cell (p := ⟨gb, 1, none⟩) HLT.out.2.2).trans E5.out
                 have l0 : w.heap.size < f4.heap.size := Nat.lt_of_lt_of_le HLT.out.1 D4.out.size)
              | (go_at_call 19
                 (with_reducible refine (HFQ1.out _ qt nt ct (HON.out _ _ HG.out (thn16 BX.out D4.out)) NQ.out (LsAt.of_own (owns_on16 OQ.out D4.out) NQ.out)).mono ?_)
                 rintro e f5 ⟨rfl, b⟩
                 have D5 := Lib.hid (thn16 D4.out b)
                 clear b e0 e1 e2 e3 e4 e5 l0
                 have e0 := (D5.out.cell (p := ⟨w.heap.size, 0, none⟩) HLT.out.1).trans E0.out
                 have e1 := (D5.out.cell (p := ⟨w.heap.size, 1, none⟩) HLT.out.1).trans E1.out
                 have e2 := (D5.out.cell (p := ⟨ga, 0, none⟩) HLT.out.2.1).trans E2.out
                 have e3 := (D5.out.cell (p := ⟨ga, 1, none⟩) HLT.out.2.1).trans E3.out
                 have e4 := (D5.out.cell (p := ⟨gb, 0, none⟩) HLT.out.2.2).trans E4.out
                 have e5 := (D5.out.cell (p := ⟨gb, 1, none⟩) HLT.out.2.2).trans E5.out
                 have l0 : w.heap.size < f5.heap.size := Nat.lt_of_lt_of_le HLT.out.1 D5.out.size)
              | (go_at_call 19
                 (with_reducible refine (HFL.out _ (HON.out _ _ HG.out (thn16 BX.out D5.out)) (HRD.out.on (thn16 BX.out D5.out))).mono ?_)
                 rintro e f6 ⟨rfl, b⟩
                 have D6 := Lib.hid (thn16 D5.out b)
                 clear b e0 e1 e2 e3 e4 e5 l0
                 have e0 := (D6.out.cell (p := ⟨w.heap.size, 0, none⟩) HLT.out.1).trans E0.out
                 have e1 := (D6.out.cell (p := ⟨w.heap.size, 1, none⟩) HLT.out.1).trans E1.out
                 have e2 := (D6.out.cell (p := ⟨ga, 0, none⟩) HLT.out.2.1).trans E2.out
                 have e3 := (D6.out.cell (p := ⟨ga, 1, none⟩) HLT.out.2.1).trans E3.out
                 have e4 := (D6.out.cell (p := ⟨gb, 0, none⟩) HLT.out.2.2).trans E4.out
                 have e5 := (D6.out.cell (p := ⟨gb, 1, none⟩) HLT.out.2.2).trans E5.out
                 have l0 : w.heap.size < f6.heap.size := Nat.lt_of_lt_of_le HLT.out.1 D6.out.size)
              | (go_at_call 19
                 (with_reducible refine (HFP2.out _ qp np cp (HON.out _ _ HG.out (thn16 BX.out D6.out)) NP.out (LsAt.of_own (owns_on16 OP.out D6.out) NP.out)).mono ?_)
                 rintro e f7 ⟨rfl, b⟩
                 have D7 := Lib.hid (thn16 D6.out b)
                 clear b e0 e1 e2 e3 e4 e5 l0
                 have e0 := (D7.out.cell (p := ⟨w.heap.size, 0, none⟩) HLT.out.1).trans E0.out
                 have e1 := (D7.out.cell (p := ⟨w.heap.size, 1, none⟩) HLT.out.1).trans E1.out
                 have e2 := (D7.out.cell (p := ⟨ga, 0, none⟩) HLT.out.2.1).trans E2.out
                 have e3 := (D7.out.cell (p := ⟨ga, 1, none⟩) HLT.out.2.1).trans E3.out
                 have e4 := (D7.out.cell (p := ⟨gb, 0, none⟩) HLT.out.2.2).trans E4.out
                 have e5 := (D7.out.cell (p := ⟨gb, 1, none⟩) HLT.out.2.2).trans E5.out
                 have l0 : w.heap.size < f7.heap.size := Nat.lt_of_lt_of_le HLT.out.1 D7.out.size)
              | (go_at_call 19
                 (with_reducible refine (HFQ2.out _ qt nt ct (HON.out _ _ HG.out (thn16 BX.out D7.out)) NQ.out (LsAt.of_own (owns_on16 OQ.out D7.out) NQ.out)).mono ?_)
                 rintro e f8 ⟨rfl, b⟩
                 have D8 := Lib.hid (thn16 D7.out b)
                 clear b e0 e1 e2 e3 e4 e5 l0
                 have e0 := (D8.out.cell (p := ⟨w.heap.size, 0, none⟩) HLT.out.1).trans E0.out
                 have e1 := (D8.out.cell (p := ⟨w.heap.size, 1, none⟩) HLT.out.1).trans E1.out
                 have e2 := (D8.out.cell (p := ⟨ga, 0, none⟩) HLT.out.2.1).trans E2.out
                 have e3 := (D8.out.cell (p := ⟨ga, 1, none⟩) HLT.out.2.1).trans E3.out
                 have e4 := (D8.out.cell (p := ⟨gb, 0, none⟩) HLT.out.2.2).trans E4.out
                 have e5 := (D8.out.cell (p := ⟨gb, 1, none⟩) HLT.out.2.2).trans E5.out
                 have l0 : w.heap.size < f8.heap.size := Nat.lt_of_lt_of_le HLT.out.1 D8.out.size)
              | (go_at_call 11
                 (with_reducible refine (HST.out _ (HON.out _ _ HG.out (thn16 BX.out (thn16 D8.out (below16 f8 (.cells #[.string ⟨#[114, 101, 97, 100]⟩, .string ⟨#[107, 105, 108, 108]⟩, .string ⟨#[115, 111, 99, 107, 101, 116]⟩] 9))))) (HRD.out.on (thn16 BX.out (thn16 D8.out (below16 f8 (.cells #[.string ⟨#[114, 101, 97, 100]⟩, .string ⟨#[107, 105, 108, 108]⟩, .string ⟨#[115, 111, 99, 107, 101, 116]⟩] 9)))))).mono ?_)
                 rintro e f10 ⟨q10, c10, vN10, rfl, o10, ⟨qN, cN, rfl, _⟩, b⟩
                 have O10 := Lib.hid o10
                 clear o10
                 have D10 := Lib.hid (thn16 (thn16 D8.out (below16 f8 (.cells #[.string ⟨#[114, 101, 97, 100]⟩, .string ⟨#[107, 105, 108, 108]⟩, .string ⟨#[115, 111, 99, 107, 101, 116]⟩] 9))) b)
                 clear b e0 e1 e2 e3 e4 e5 l0
                 have e0 := (D10.out.cell (p := ⟨w.heap.size, 0, none⟩) HLT.out.1).trans E0.out
                 have e1 := (D10.out.cell (p := ⟨w.heap.size, 1, none⟩) HLT.out.1).trans E1.out
                 have e2 := (D10.out.cell (p := ⟨ga, 0, none⟩) HLT.out.2.1).trans E2.out
                 have e3 := (D10.out.cell (p := ⟨ga, 1, none⟩) HLT.out.2.1).trans E3.out
                 have e4 := (D10.out.cell (p := ⟨gb, 0, none⟩) HLT.out.2.2).trans E4.out
                 have e5 := (D10.out.cell (p := ⟨gb, 1, none⟩) HLT.out.2.2).trans E5.out
                 have l0 : w.heap.size < f10.heap.size := Nat.lt_of_lt_of_le HLT.out.1 D10.out.size
                 have DA := Lib.hid (thn16 D10.out (below16 f10 (.cells #[.int .u8 mr, .slice q10 nr c10] 24))))
              | (go_at_call 19
                 (with_reducible refine (HFS.out _ q10 c10 (HON.out _ _ HG.out (thn16 BX.out DA.out)) (LsAt.of_own (owns_on16 O10.out (below16 f10 (.cells #[.int .u8 mr, .slice q10 nr c10] 24))) HNR.out)).mono ?_)
                 rintro e f11 ⟨rfl, b⟩
                 have D11 := Lib.hid (thn16 DA.out b)
                 clear b e0 e1 e2 e3 e4 e5 l0
                 have e0 := (D11.out.cell (p := ⟨w.heap.size, 0, none⟩) HLT.out.1).trans E0.out
                 have e1 := (D11.out.cell (p := ⟨w.heap.size, 1, none⟩) HLT.out.1).trans E1.out
                 have e2 := (D11.out.cell (p := ⟨ga, 0, none⟩) HLT.out.2.1).trans E2.out
                 have e3 := (D11.out.cell (p := ⟨ga, 1, none⟩) HLT.out.2.1).trans E3.out
                 have e4 := (D11.out.cell (p := ⟨gb, 0, none⟩) HLT.out.2.2).trans E4.out
                 have e5 := (D11.out.cell (p := ⟨gb, 1, none⟩) HLT.out.2.2).trans E5.out
                 have l0 : w.heap.size < f11.heap.size := Nat.lt_of_lt_of_le HLT.out.1 D11.out.size)
              | (go_at_call 16
                 (with_reducible refine (HAW.out _ (HON.out _ _ HG.out (thn16 BX.out D11.out))).mono ?_)
                 rintro e v9 ⟨rfl, b9⟩
                 have B9 := Lib.hid (thn16 (thn16 BX.out D11.out) b9)
                 clear b9))
            go_ret
            exact ⟨by first | rfl | simp, B9.out⟩
          · have hstep := stepA_ok (sfx := true) (v := ⟨#[126, 115, 111, 99, 107, 101, 116]⟩) (s := (m0, z0)) HOK.out
            have hrk := step_ok grpX_known true ⟨#[126, 115, 111, 99, 107, 101, 116]⟩ (s := (m0, z0)) HOK.out
            have hfp := find_plain plain_socket (X := grpX) true true (s := (m0, z0)) (Or.inl HM0.out)
            have hsp := congrArg Prod.snd (step_plain plain_socket (X := grpX) true true (m0, z0))
            have e1 : (if (true : Bool) = true then bs (126 :: [115, 111, 99, 107, 101, 116]) else bs [115, 111, 99, 107, 101, 116]) = ⟨#[126, 115, 111, 99, 107, 101, 116]⟩ := by kernel_rfl
            have e2 : bs [115, 111, 99, 107, 101, 116] = ⟨#[115, 111, 99, 107, 101, 116]⟩ := by kernel_rfl
            rw [e1] at hfp hsp
            rw [e2] at hfp
            simp only at hsp
            have HST := Lib.hid (fun (W : World) (g : G W) (h : LsAt W a0 z0) => step_n HCC.out m0 a0 len0 cap0 z0 ⟨#[126, 115, 111, 99, 107, 101, 116]⟩ true W g HX0B.out W0S.out HL1.out HACT.out (by decide) h _ rfl _ rfl)
            obtain ⟨r, hr⟩ : ∃ r, r = stepA true ⟨#[126, 115, 111, 99, 107, 101, 116]⟩ (m0, z0) := ⟨_, rfl⟩
            rw [← hstep] at hrk hfp hsp
            rw [← hr] at HST hrk hfp hsp
            have hf : findC r.1.2 ⟨#[115, 111, 99, 107, 101, 116]⟩ = none := by
              refine Eq.trans hfp ?_
              simp [HM0.out]
            have HFS := Lib.hid (fun (W : World) (q : Option Addr) (c : Nat) (g : G W) (h : LsAt W q r.1.2) => HCC.out.find r.1.1 q r.1.2.length c r.1.2 ⟨#[115, 111, 99, 107, 101, 116]⟩ W g (by have := hrk.mode; omega) rfl (by have := okl_le hrk; omega) (okl_lt hrk) h)
            rw [hf] at HFS
            rw [hsp] at HST
            simp only [Option.getD_some, Option.getD_none, Option.isSome_some, Option.isSome_none, List.map_nil] at HFS HST
            rw [show (((0 : Nat) : Nat) : Int) = 0 from rfl] at HFS
            unfold lsV at HST HFS
            rw [← HMI.out] at HST
            obtain ⟨mr, hmr⟩ : ∃ x : Int, x = (r.1.1 : Nat) := ⟨_, rfl⟩
            obtain ⟨nr, hnr⟩ : ∃ n, n = r.1.2.length := ⟨_, rfl⟩
            have HNR := Lib.hid hnr
            rw [← hmr, ← hnr] at HST HFS
            rw [show (⟨#[126, 115, 111, 99, 107, 101, 116]⟩ : ByteArray) = ⟨#[126]⟩ ++ ⟨#[115, 111, 99, 107, 101, 116]⟩ from by kernel_rfl] at HST
            clear hstep hrk hfp hsp e1 e2 hr hf hmr hnr
            go_wp2_with (first
              | (go_at_call 19
                 (with_reducible refine (HFP1.out _ qp np cp (HON.out _ _ HG.out (thn16 BX.out (Below.refl _ _))) NP.out (LsAt.of_own OP.out NP.out)).mono ?_)
                 rintro e f4 ⟨rfl, b⟩
                 have D4 := Lib.hid (thn16 (Below.refl _ _) b)
                 clear b e0 e1 e2 e3 e4 e5 l0
                 have e0 := (D4.out.cell (p := ⟨w.heap.size, 0, none⟩) HLT.out.1).trans E0.out
                 have e1 := (D4.out.cell (p := ⟨w.heap.size, 1, none⟩) HLT.out.1).trans E1.out
                 have e2 := (D4.out.cell (p := ⟨ga, 0, none⟩) HLT.out.2.1).trans E2.out
                 have e3 := (D4.out.cell (p := ⟨ga, 1, none⟩) HLT.out.2.1).trans E3.out
                 have e4 := (D4.out.cell (p := ⟨gb, 0, none⟩) HLT.out.2.2).trans E4.out
                 have e5 := (D4.out.cell (p := ⟨gb, 1, none⟩) HLT.out.2.2).trans E5.out
                 have l0 : w.heap.size < f4.heap.size := Nat.lt_of_lt_of_le HLT.out.1 D4.out.size)
              | (go_at_call 19
                 (with_reducible refine (HFQ1.out _ qt nt ct (HON.out _ _ HG.out (thn16 BX.out D4.out)) NQ.out (LsAt.of_own (owns_on16 OQ.out D4.out) NQ.out)).mono ?_)
                 rintro e f5 ⟨rfl, b⟩
                 have D5 := Lib.hid (thn16 D4.out b)
                 clear b e0 e1 e2 e3 e4 e5 l0
                 have e0 := (D5.out.cell (p := ⟨w.heap.size, 0, none⟩) HLT.out.1).trans E0.out
                 have e1 := (D5.out.cell (p := ⟨w.heap.size, 1, none⟩) HLT.out.1).trans E1.out
                 have e2 := (D5.out.cell (p := ⟨ga, 0, none⟩) HLT.out.2.1).trans E2.out
                 have e3 := (D5.out.cell (p := ⟨ga, 1, none⟩) HLT.out.2.1).trans E3.out
                 have e4 := (D5.out.cell (p := ⟨gb, 0, none⟩) HLT.out.2.2).trans E4.out
                 have e5 := (D5.out.cell (p := ⟨gb, 1, none⟩) HLT.out.2.2).trans E5.out
                 have l0 : w.heap.size < f5.heap.size := Nat.lt_of_lt_of_le HLT.out.1 D5.out.size)
              | (go_at_call 19
                 (with_reducible refine (HFL.out _ (HON.out _ _ HG.out (thn16 BX.out D5.out)) (HRD.out.on (thn16 BX.out D5.out))).mono ?_)
                 rintro e f6 ⟨rfl, b⟩
                 have D6 := Lib.hid (thn16 D5.out b)
                 clear b e0 e1 e2 e3 e4 e5 l0
                 have e0 := (D6.out.cell (p := ⟨w.heap.size, 0, none⟩) HLT.out.1).trans E0.out
                 have e1 := (D6.out.cell (p := ⟨w.heap.size, 1, none⟩) HLT.out.1).trans E1.out
                 have e2 := (D6.out.cell (p := ⟨ga, 0, none⟩) HLT.out.2.1).trans E2.out
                 have e3 := (D6.out.cell (p := ⟨ga, 1, none⟩) HLT.out.2.1).trans E3.out
                 have e4 := (D6.out.cell (p := ⟨gb, 0, none⟩) HLT.out.2.2).trans E4.out
                 have e5 := (D6.out.cell (p := ⟨gb, 1, none⟩) HLT.out.2.2).trans E5.out
                 have l0 : w.heap.size < f6.heap.size := Nat.lt_of_lt_of_le HLT.out.1 D6.out.size)
              | (go_at_call 19
                 (with_reducible refine (HFP2.out _ qp np cp (HON.out _ _ HG.out (thn16 BX.out D6.out)) NP.out (LsAt.of_own (owns_on16 OP.out D6.out) NP.out)).mono ?_)
                 rintro e f7 ⟨rfl, b⟩
                 have D7 := Lib.hid (thn16 D6.out b)
                 clear b e0 e1 e2 e3 e4 e5 l0
                 have e0 := (D7.out.cell (p := ⟨w.heap.size, 0, none⟩) HLT.out.1).trans E0.out
                 have e1 := (D7.out.cell (p := ⟨w.heap.size, 1, none⟩) HLT.out.1).trans E1.out
                 have e2 := (D7.out.cell (p := ⟨ga, 0, none⟩) HLT.out.2.1).trans E2.out
                 have e3 := (D7.out.cell (p := ⟨ga, 1, none⟩) HLT.out.2.1).trans E3.out
                 have e4 := (D7.out.cell (p := ⟨gb, 0, none⟩) HLT.out.2.2).trans E4.out
                 have e5 := (D7.out.cell (p := ⟨gb, 1, none⟩) HLT.out.2.2).trans E5.out
                 have l0 : w.heap.size < f7.heap.size := Nat.lt_of_lt_of_le HLT.out.1 D7.out.size)
              | (go_at_call 19
                 (with_reducible refine (HFQ2.out _ qt nt ct (HON.out _ _ HG.out (thn16 BX.out D7.out)) NQ.out (LsAt.of_own (owns_on16 OQ.out D7.out) NQ.out)).mono ?_)
                 rintro e f8 ⟨rfl, b⟩
                 have D8 := Lib.hid (thn16 D7.out b)
                 clear b e0 e1 e2 e3 e4 e5 l0
                 have e0 := (D8.out.cell (p := ⟨w.heap.size, 0, none⟩) HLT.out.1).trans E0.out
                 have e1 := (D8.out.cell (p := ⟨w.heap.size, 1, none⟩) HLT.out.1).trans E1.out
                 have e2 := (D8.out.cell (p := ⟨ga, 0, none⟩) HLT.out.2.1).trans E2.out
                 have e3 := (D8.out.cell (p := ⟨ga, 1, none⟩) HLT.out.2.1).trans E3.out
                 have e4 := (D8.out.cell (p := ⟨gb, 0, none⟩) HLT.out.2.2).trans E4.out
                 have e5 := (D8.out.cell (p := ⟨gb, 1, none⟩) HLT.out.2.2).trans E5.out
                 have l0 : w.heap.size < f8.heap.size := Nat.lt_of_lt_of_le HLT.out.1 D8.out.size)
              | (go_at_call 11
                 (with_reducible refine (HST.out _ (HON.out _ _ HG.out (thn16 BX.out (thn16 D8.out (below16 f8 (.cells #[.string ⟨#[114, 101, 97, 100]⟩, .string ⟨#[107, 105, 108, 108]⟩, .string ⟨#[115, 111, 99, 107, 101, 116]⟩] 9))))) (HRD.out.on (thn16 BX.out (thn16 D8.out (below16 f8 (.cells #[.string ⟨#[114, 101, 97, 100]⟩, .string ⟨#[107, 105, 108, 108]⟩, .string ⟨#[115, 111, 99, 107, 101, 116]⟩] 9)))))).mono ?_)
                 rintro e f10 ⟨q10, c10, vN10, rfl, o10, ⟨qN, cN, rfl, _⟩, b⟩
                 have O10 := Lib.hid o10
                 clear o10
                 have D10 := Lib.hid (thn16 (thn16 D8.out (below16 f8 (.cells #[.string ⟨#[114, 101, 97, 100]⟩, .string ⟨#[107, 105, 108, 108]⟩, .string ⟨#[115, 111, 99, 107, 101, 116]⟩] 9))) b)
                 clear b e0 e1 e2 e3 e4 e5 l0
                 have e0 := (D10.out.cell (p := ⟨w.heap.size, 0, none⟩) HLT.out.1).trans E0.out
                 have e1 := (D10.out.cell (p := ⟨w.heap.size, 1, none⟩) HLT.out.1).trans E1.out
                 have e2 := (D10.out.cell (p := ⟨ga, 0, none⟩) HLT.out.2.1).trans E2.out
                 have e3 := (D10.out.cell (p := ⟨ga, 1, none⟩) HLT.out.2.1).trans E3.out
                 have e4 := (D10.out.cell (p := ⟨gb, 0, none⟩) HLT.out.2.2).trans E4.out
                 have e5 := (D10.out.cell (p := ⟨gb, 1, none⟩) HLT.out.2.2).trans E5.out
                 have l0 : w.heap.size < f10.heap.size := Nat.lt_of_lt_of_le HLT.out.1 D10.out.size
                 have DA := Lib.hid (thn16 D10.out (below16 f10 (.cells #[.int .u8 mr, .slice q10 nr c10] 24))))
              | (go_at_call 19
                 (with_reducible refine (HFS.out _ q10 c10 (HON.out _ _ HG.out (thn16 BX.out DA.out)) (LsAt.of_own (owns_on16 O10.out (below16 f10 (.cells #[.int .u8 mr, .slice q10 nr c10] 24))) HNR.out)).mono ?_)
                 rintro e f11 ⟨rfl, b⟩
                 have D11 := Lib.hid (thn16 DA.out b)
                 clear b e0 e1 e2 e3 e4 e5 l0
                 have e0 := (D11.out.cell (p := ⟨w.heap.size, 0, none⟩) HLT.out.1).trans E0.out
                 have e1 := (D11.out.cell (p := ⟨w.heap.size, 1, none⟩) HLT.out.1).trans E1.out
                 have e2 := (D11.out.cell (p := ⟨ga, 0, none⟩) HLT.out.2.1).trans E2.out
                 have e3 := (D11.out.cell (p := ⟨ga, 1, none⟩) HLT.out.2.1).trans E3.out
                 have e4 := (D11.out.cell (p := ⟨gb, 0, none⟩) HLT.out.2.2).trans E4.out
                 have e5 := (D11.out.cell (p := ⟨gb, 1, none⟩) HLT.out.2.2).trans E5.out
                 have l0 : w.heap.size < f11.heap.size := Nat.lt_of_lt_of_le HLT.out.1 D11.out.size)
              | (go_at_call 16
                 (with_reducible refine (HAW.out _ (HON.out _ _ HG.out (thn16 BX.out D11.out))).mono ?_)
                 rintro e v9 ⟨rfl, b9⟩
                 have B9 := Lib.hid (thn16 (thn16 BX.out D11.out) b9)
                 clear b9))
            go_ret
            exact ⟨by first | rfl | simp, B9.out⟩
        | false =>
          rcases hrem with hj | hj | hj
          · have hstep := stepA_ok (sfx := true) (v := ⟨#[114, 101, 97, 100]⟩) (s := (m0, z0)) HOK.out
            have hrk := step_ok grpX_known true ⟨#[114, 101, 97, 100]⟩ (s := (m0, z0)) HOK.out
            have hfp := find_plain plain_read (X := grpX) true false (s := (m0, z0)) (Or.inl HM0.out)
            have hsp := congrArg Prod.snd (step_plain plain_read (X := grpX) true false (m0, z0))
            have e1 : (if (false : Bool) = true then bs (126 :: [114, 101, 97, 100]) else bs [114, 101, 97, 100]) = ⟨#[114, 101, 97, 100]⟩ := by kernel_rfl
            have e2 : bs [114, 101, 97, 100] = ⟨#[114, 101, 97, 100]⟩ := by kernel_rfl
            rw [e1] at hfp hsp
            rw [e2] at hfp
            simp only at hsp
            have HST := Lib.hid (fun (W : World) (g : G W) (h : LsAt W a0 z0) => step_n HCC.out m0 a0 len0 cap0 z0 ⟨#[114, 101, 97, 100]⟩ true W g HX0B.out W0S.out HL1.out HACT.out (by decide) h _ rfl _ rfl)
            obtain ⟨r, hr⟩ : ∃ r, r = stepA true ⟨#[114, 101, 97, 100]⟩ (m0, z0) := ⟨_, rfl⟩
            rw [← hstep] at hrk hfp hsp
            rw [← hr] at HST hrk hfp hsp
            have hf : findC r.1.2 ⟨#[114, 101, 97, 100]⟩ = some 0 := by
              refine Eq.trans hfp ?_
              simp [HM0.out]
            have HFS := Lib.hid (fun (W : World) (q : Option Addr) (c : Nat) (g : G W) (h : LsAt W q r.1.2) => HCC.out.find r.1.1 q r.1.2.length c r.1.2 ⟨#[114, 101, 97, 100]⟩ W g (by have := hrk.mode; omega) rfl (by have := okl_le hrk; omega) (okl_lt hrk) h)
            rw [hf] at HFS
            rw [hsp] at HST
            simp only [Option.getD_some, Option.getD_none, Option.isSome_some, Option.isSome_none, List.map_nil] at HFS HST
            rw [show (((0 : Nat) : Nat) : Int) = 0 from rfl] at HFS
            unfold lsV at HST HFS
            rw [← HMI.out] at HST
            obtain ⟨mr, hmr⟩ : ∃ x : Int, x = (r.1.1 : Nat) := ⟨_, rfl⟩
            obtain ⟨nr, hnr⟩ : ∃ n, n = r.1.2.length := ⟨_, rfl⟩
            have HNR := Lib.hid hnr
            rw [← hmr, ← hnr] at HST HFS
            clear hstep hrk hfp hsp e1 e2 hr hf hmr hnr
            go_wp2_with (first
              | (go_at_call 19
                 (with_reducible refine (HFP1.out _ qp np cp (HON.out _ _ HG.out (thn16 BX.out (Below.refl _ _))) NP.out (LsAt.of_own OP.out NP.out)).mono ?_)
                 rintro e f4 ⟨rfl, b⟩
                 have D4 := Lib.hid (thn16 (Below.refl _ _) b)
                 clear b e0 e1 e2 e3 e4 e5 l0
                 have e0 := (D4.out.cell (p := ⟨w.heap.size, 0, none⟩) HLT.out.1).trans E0.out
                 have e1 := (D4.out.cell (p := ⟨w.heap.size, 1, none⟩) HLT.out.1).trans E1.out
                 have e2 := (D4.out.cell (p := ⟨ga, 0, none⟩) HLT.out.2.1).trans E2.out
                 have e3 := (D4.out.cell (p := ⟨ga, 1, none⟩) HLT.out.2.1).trans E3.out
                 have e4 := (D4.out.cell (p := ⟨gb, 0, none⟩) HLT.out.2.2).trans E4.out
                 have e5 := (D4.out.cell (p := ⟨gb, 1, none⟩) HLT.out.2.2).trans E5.out
                 have l0 : w.heap.size < f4.heap.size := Nat.lt_of_lt_of_le HLT.out.1 D4.out.size)
              | (go_at_call 19
                 (with_reducible refine (HFQ1.out _ qt nt ct (HON.out _ _ HG.out (thn16 BX.out D4.out)) NQ.out (LsAt.of_own (owns_on16 OQ.out D4.out) NQ.out)).mono ?_)
                 rintro e f5 ⟨rfl, b⟩
                 have D5 := Lib.hid (thn16 D4.out b)
                 clear b e0 e1 e2 e3 e4 e5 l0
                 have e0 := (D5.out.cell (p := ⟨w.heap.size, 0, none⟩) HLT.out.1).trans E0.out
                 have e1 := (D5.out.cell (p := ⟨w.heap.size, 1, none⟩) HLT.out.1).trans E1.out
                 have e2 := (D5.out.cell (p := ⟨ga, 0, none⟩) HLT.out.2.1).trans E2.out
                 have e3 := (D5.out.cell (p := ⟨ga, 1, none⟩) HLT.out.2.1).trans E3.out
                 have e4 := (D5.out.cell (p := ⟨gb, 0, none⟩) HLT.out.2.2).trans E4.out
                 have e5 := (D5.out.cell (p := ⟨gb, 1, none⟩) HLT.out.2.2).trans E5.out
                 have l0 : w.heap.size < f5.heap.size := Nat.lt_of_lt_of_le HLT.out.1 D5.out.size)
              | (go_at_call 19
                 (with_reducible refine (HFL.out _ (HON.out _ _ HG.out (thn16 BX.out D5.out)) (HRD.out.on (thn16 BX.out D5.out))).mono ?_)
                 rintro e f6 ⟨rfl, b⟩
                 have D6 := Lib.hid (thn16 D5.out b)
                 clear b e0 e1 e2 e3 e4 e5 l0
                 have e0 := (D6.out.cell (p := ⟨w.heap.size, 0, none⟩) HLT.out.1).trans E0.out
                 have e1 := (D6.out.cell (p := ⟨w.heap.size, 1, none⟩) HLT.out.1).trans E1.out
                 have e2 := (D6.out.cell (p := ⟨ga, 0, none⟩) HLT.out.2.1).trans E2.out
                 have e3 := (D6.out.cell (p := ⟨ga, 1, none⟩) HLT.out.2.1).trans E3.out
                 have e4 := (D6.out.cell (p := ⟨gb, 0, none⟩) HLT.out.2.2).trans E4.out
                 have e5 := (D6.out.cell (p := ⟨gb, 1, none⟩) HLT.out.2.2).trans E5.out
                 have l0 : w.heap.size < f6.heap.size := Nat.lt_of_lt_of_le HLT.out.1 D6.out.size)
              | (go_at_call 19
                 (with_reducible refine (HFP2.out _ qp np cp (HON.out _ _ HG.out (thn16 BX.out D6.out)) NP.out (LsAt.of_own (owns_on16 OP.out D6.out) NP.out)).mono ?_)
                 rintro e f7 ⟨rfl, b⟩
                 have D7 := Lib.hid (thn16 D6.out b)
                 clear b e0 e1 e2 e3 e4 e5 l0
                 have e0 := (D7.out.cell (p := ⟨w.heap.size, 0, none⟩) HLT.out.1).trans E0.out
                 have e1 := (D7.out.cell (p := ⟨w.heap.size, 1, none⟩) HLT.out.1).trans E1.out
                 have e2 := (D7.out.cell (p := ⟨ga, 0, none⟩) HLT.out.2.1).trans E2.out
                 have e3 := (D7.out.cell (p := ⟨ga, 1, none⟩) HLT.out.2.1).trans E3.out
                 have e4 := (D7.out.cell (p := ⟨gb, 0, none⟩) HLT.out.2.2).trans E4.out
                 have e5 := (D7.out.cell (p := ⟨gb, 1, none⟩) HLT.out.2.2).trans E5.out
                 have l0 : w.heap.size < f7.heap.size := Nat.lt_of_lt_of_le HLT.out.1 D7.out.size)
              | (go_at_call 19
                 (with_reducible refine (HFQ2.out _ qt nt ct (HON.out _ _ HG.out (thn16 BX.out D7.out)) NQ.out (LsAt.of_own (owns_on16 OQ.out D7.out) NQ.out)).mono ?_)
                 rintro e f8 ⟨rfl, b⟩
                 have D8 := Lib.hid (thn16 D7.out b)
                 clear b e0 e1 e2 e3 e4 e5 l0
                 have e0 := (D8.out.cell (p := ⟨w.heap.size, 0, none⟩) HLT.out.1).trans E0.out
                 have e1 := (D8.out.cell (p := ⟨w.heap.size, 1, none⟩) HLT.out.1).trans E1.out
                 have e2 := (D8.out.cell (p := ⟨ga, 0, none⟩) HLT.out.2.1).trans E2.out
                 have e3 := (D8.out.cell (p := ⟨ga, 1, none⟩) HLT.out.2.1).trans E3.out
                 have e4 := (D8.out.cell (p := ⟨gb, 0, none⟩) HLT.out.2.2).trans E4.out
                 have e5 := (D8.out.cell (p := ⟨gb, 1, none⟩) HLT.out.2.2).trans E5.out
                 have l0 : w.heap.size < f8.heap.size := Nat.lt_of_lt_of_le HLT.out.1 D8.out.size)
              | (go_at_call 11
                 (with_reducible refine (HST.out _ (HON.out _ _ HG.out (thn16 BX.out (thn16 D8.out (below16 f8 (.cells #[.string ⟨#[114, 101, 97, 100]⟩, .string ⟨#[107, 105, 108, 108]⟩, .string ⟨#[115, 111, 99, 107, 101, 116]⟩] 9))))) (HRD.out.on (thn16 BX.out (thn16 D8.out (below16 f8 (.cells #[.string ⟨#[114, 101, 97, 100]⟩, .string ⟨#[107, 105, 108, 108]⟩, .string ⟨#[115, 111, 99, 107, 101, 116]⟩] 9)))))).mono ?_)
                 rintro e f10 ⟨q10, c10, vN10, rfl, o10, ⟨qN, cN, rfl, _⟩, b⟩
                 have O10 := Lib.hid o10
                 clear o10
                 have D10 := Lib.hid (thn16 (thn16 D8.out (below16 f8 (.cells #[.string ⟨#[114, 101, 97, 100]⟩, .string ⟨#[107, 105, 108, 108]⟩, .string ⟨#[115, 111, 99, 107, 101, 116]⟩] 9))) b)
                 clear b e0 e1 e2 e3 e4 e5 l0
                 have e0 := (D10.out.cell (p := ⟨w.heap.size, 0, none⟩) HLT.out.1).trans E0.out
                 have e1 := (D10.out.cell (p := ⟨w.heap.size, 1, none⟩) HLT.out.1).trans E1.out
                 have e2 := (D10.out.cell (p := ⟨ga, 0, none⟩) HLT.out.2.1).trans E2.out
                 have e3 := (D10.out.cell (p := ⟨ga, 1, none⟩) HLT.out.2.1).trans E3.out
                 have e4 := (D10.out.cell (p := ⟨gb, 0, none⟩) HLT.out.2.2).trans E4.out
                 have e5 := (D10.out.cell (p := ⟨gb, 1, none⟩) HLT.out.2.2).trans E5.out
                 have l0 : w.heap.size < f10.heap.size := Nat.lt_of_lt_of_le HLT.out.1 D10.out.size
                 have DA := Lib.hid (thn16 D10.out (below16 f10 (.cells #[.int .u8 mr, .slice q10 nr c10] 24))))
              | (go_at_call 19
                 (with_reducible refine (HFS.out _ q10 c10 (HON.out _ _ HG.out (thn16 BX.out DA.out)) (LsAt.of_own (owns_on16 O10.out (below16 f10 (.cells #[.int .u8 mr, .slice q10 nr c10] 24))) HNR.out)).mono ?_)
                 rintro e f11 ⟨rfl, b⟩
                 have D11 := Lib.hid (thn16 DA.out b)
                 clear b e0 e1 e2 e3 e4 e5 l0
                 have e0 := (D11.out.cell (p := ⟨w.heap.size, 0, none⟩) HLT.out.1).trans E0.out
                 have e1 := (D11.out.cell (p := ⟨w.heap.size, 1, none⟩) HLT.out.1).trans E1.out
                 have e2 := (D11.out.cell (p := ⟨ga, 0, none⟩) HLT.out.2.1).trans E2.out
                 have e3 := (D11.out.cell (p := ⟨ga, 1, none⟩) HLT.out.2.1).trans E3.out
                 have e4 := (D11.out.cell (p := ⟨gb, 0, none⟩) HLT.out.2.2).trans E4.out
                 have e5 := (D11.out.cell (p := ⟨gb, 1, none⟩) HLT.out.2.2).trans E5.out
                 have l0 : w.heap.size < f11.heap.size := Nat.lt_of_lt_of_le HLT.out.1 D11.out.size)
              | (go_at_call 16
                 (with_reducible refine (HAW.out _ (HON.out _ _ HG.out (thn16 BX.out D11.out))).mono ?_)
                 rintro e v9 ⟨rfl, b9⟩
                 have B9 := Lib.hid (thn16 (thn16 BX.out D11.out) b9)
                 clear b9))
            go_ret
            exact ⟨by first | rfl | simp, B9.out⟩
          · have hstep := stepA_ok (sfx := true) (v := ⟨#[107, 105, 108, 108]⟩) (s := (m0, z0)) HOK.out
            have hrk := step_ok grpX_known true ⟨#[107, 105, 108, 108]⟩ (s := (m0, z0)) HOK.out
            have hfp := find_plain plain_kill (X := grpX) true false (s := (m0, z0)) (Or.inl HM0.out)
            have hsp := congrArg Prod.snd (step_plain plain_kill (X := grpX) true false (m0, z0))
            have e1 : (if (false : Bool) = true then bs (126 :: [107, 105, 108, 108]) else bs [107, 105, 108, 108]) = ⟨#[107, 105, 108, 108]⟩ := by kernel_rfl
            have e2 : bs [107, 105, 108, 108] = ⟨#[107, 105, 108, 108]⟩ := by kernel_rfl
            rw [e1] at hfp hsp
            rw [e2] at hfp
            simp only at hsp
            have HST := Lib.hid (fun (W : World) (g : G W) (h : LsAt W a0 z0) => step_n HCC.out m0 a0 len0 cap0 z0 ⟨#[107, 105, 108, 108]⟩ true W g HX0B.out W0S.out HL1.out HACT.out (by decide) h _ rfl _ rfl)
            obtain ⟨r, hr⟩ : ∃ r, r = stepA true ⟨#[107, 105, 108, 108]⟩ (m0, z0) := ⟨_, rfl⟩
            rw [← hstep] at hrk hfp hsp
            rw [← hr] at HST hrk hfp hsp
            have hf : findC r.1.2 ⟨#[107, 105, 108, 108]⟩ = some 0 := by
              refine Eq.trans hfp ?_
              simp [HM0.out]
            have HFS := Lib.hid (fun (W : World) (q : Option Addr) (c : Nat) (g : G W) (h : LsAt W q r.1.2) => HCC.out.find r.1.1 q r.1.2.length c r.1.2 ⟨#[107, 105, 108, 108]⟩ W g (by have := hrk.mode; omega) rfl (by have := okl_le hrk; omega) (okl_lt hrk) h)
            rw [hf] at HFS
            rw [hsp] at HST
            simp only [Option.getD_some, Option.getD_none, Option.isSome_some, Option.isSome_none, List.map_nil] at HFS HST
            rw [show (((0 : Nat) : Nat) : Int) = 0 from rfl] at HFS
            unfold lsV at HST HFS
            rw [← HMI.out] at HST
            obtain ⟨mr, hmr⟩ : ∃ x : Int, x = (r.1.1 : Nat) := ⟨_, rfl⟩
            obtain ⟨nr, hnr⟩ : ∃ n, n = r.1.2.length := ⟨_, rfl⟩
            have HNR := Lib.hid hnr
            rw [← hmr, ← hnr] at HST HFS
            clear hstep hrk hfp hsp e1 e2 hr hf hmr hnr
            go_wp2_with (first
              | (go_at_call 19
                 (with_reducible refine (HFP1.out _ qp np cp (HON.out _ _ HG.out (thn16 BX.out (Below.refl _ _))) NP.out (LsAt.of_own OP.out NP.out)).mono ?_)
                 rintro e f4 ⟨rfl, b⟩
                 have D4 := Lib.hid (thn16 (Below.refl _ _) b)
                 clear b e0 e1 e2 e3 e4 e5 l0
                 have e0 := (D4.out.cell (p := ⟨w.heap.size, 0, none⟩) HLT.out.1).trans E0.out
                 have e1 := (D4.out.cell (p := ⟨w.heap.size, 1, none⟩) HLT.out.1).trans E1.out
                 have e2 := (D4.out.cell (p := ⟨ga, 0, none⟩) HLT.out.2.1).trans E2.out
                 have e3 := (D4.out.cell (p := ⟨ga, 1, none⟩) HLT.out.2.1).trans E3.out
                 have e4 := (D4.out.cell (p := ⟨gb, 0, none⟩) HLT.out.2.2).trans E4.out
                 have e5 := (D4.out.cell (p := ⟨gb, 1, none⟩) HLT.out.2.2).trans E5.out
                 have l0 : w.heap.size < f4.heap.size := Nat.lt_of_lt_of_le HLT.out.1 D4.out.size)
              | (go_at_call 19
                 (with_reducible refine (HFQ1.out _ qt nt ct (HON.out _ _ HG.out (thn16 BX.out D4.out)) NQ.out (LsAt.of_own (owns_on16 OQ.out D4.out) NQ.out)).mono ?_)
                 rintro e f5 ⟨rfl, b⟩
                 have D5 := Lib.hid (thn16 D4.out b)
                 clear b e0 e1 e2 e3 e4 e5 l0
                 have e0 := (D5.out.cell (p := ⟨w.heap.size, 0, none⟩) HLT.out.1).trans E0.out
                 have e1 := (D5.out.cell (p := ⟨w.heap.size, 1, none⟩) HLT.out.1).trans E1.out
                 have e2 := (D5.out.cell (p := ⟨ga, 0, none⟩) HLT.out.2.1).trans E2.out
                 have e3 := (D5.out.cell (p := ⟨ga, 1, none⟩) HLT.out.2.1).trans E3.out
                 have e4 := (D5.out.cell (p := ⟨gb, 0, none⟩) HLT.out.2.2).trans E4.out
                 have e5 := (D5.out.cell (p := ⟨gb, 1, none⟩) HLT.out.2.2).trans E5.out
                 have l0 : w.heap.size < f5.heap.size := Nat.lt_of_lt_of_le HLT.out.1 D5.out.size)
              | (go_at_call 19
                 (with_reducible refine (HFL.out _ (HON.out _ _ HG.out (thn16 BX.out D5.out)) (HRD.out.on (thn16 BX.out D5.out))).mono ?_)
                 rintro e f6 ⟨rfl, b⟩
                 have D6 := Lib.hid (thn16 D5.out b)
                 clear b e0 e1 e2 e3 e4 e5 l0
                 have e0 := (D6.out.cell (p := ⟨w.heap.size, 0, none⟩) HLT.out.1).trans E0.out
                 have e1 := (D6.out.cell (p := ⟨w.heap.size, 1, none⟩) HLT.out.1).trans E1.out
                 have e2 := (D6.out.cell (p := ⟨ga, 0, none⟩) HLT.out.2.1).trans E2.out
                 have e3 := (D6.out.cell (p := ⟨ga, 1, none⟩) HLT.out.2.1).trans E3.out
                 have e4 := (D6.out.cell (p := ⟨gb, 0, none⟩) HLT.out.2.2).trans E4.out
                 have e5 := (D6.out.cell (p := ⟨gb, 1, none⟩) HLT.out.2.2).trans E5.out
                 have l0 : w.heap.size < f6.heap.size := Nat.lt_of_lt_of_le HLT.out.1 D6.out.size)
              | (go_at_call 19
                 (with_reducible refine (HFP2.out _ qp np cp (HON.out _ _ HG.out (thn16 BX.out D6.out)) NP.out (LsAt.of_own (owns_on16 OP.out D6.out) NP.out)).mono ?_)
                 rintro e f7 ⟨rfl, b⟩
                 have D7 := Lib.hid (thn16 D6.out b)
                 clear b e0 e1 e2 e3 e4 e5 l0
                 have e0 := (D7.out.cell (p := ⟨w.heap.size, 0, none⟩) HLT.out.1).trans E0.out
                 have e1 := (D7.out.cell (p := ⟨w.heap.size, 1, none⟩) HLT.out.1).trans E1.out
                 have e2 := (D7.out.cell (p := ⟨ga, 0, none⟩) HLT.out.2.1).trans E2.out
                 have e3 := (D7.out.cell (p := ⟨ga, 1, none⟩) HLT.out.2.1).trans E3.out
                 have e4 := (D7.out.cell (p := ⟨gb, 0, none⟩) HLT.out.2.2).trans E4.out
                 have e5 := (D7.out.cell (p := ⟨gb, 1, none⟩) HLT.out.2.2).trans E5.out
                 have l0 : w.heap.size < f7.heap.size := Nat.lt_of_lt_of_le HLT.out.1 D7.out.size)
              | (go_at_call 19
                 (with_reducible refine (HFQ2.out _ qt nt ct (HON.out _ _ HG.out (thn16 BX.out D7.out)) NQ.out (LsAt.of_own (owns_on16 OQ.out D7.out) NQ.out)).mono ?_)
                 rintro e f8 ⟨rfl, b⟩
                 have D8 := Lib.hid (thn16 D7.out b)
                 clear b e0 e1 e2 e3 e4 e5 l0
                 have e0 := (D8.out.cell (p := ⟨w.heap.size, 0, none⟩) HLT.out.1).trans E0.out
                 have e1 := (D8.out.cell (p := ⟨w.heap.size, 1, none⟩) HLT.out.1).trans E1.out
                 have e2 := (D8.out.cell (p := ⟨ga, 0, none⟩) HLT.out.2.1).trans E2.out
                 have e3 := (D8.out.cell (p := ⟨ga, 1, none⟩) HLT.out.2.1).trans E3.out
                 have e4 := (D8.out.cell (p := ⟨gb, 0, none⟩) HLT.out.2.2).trans E4.out
                 have e5 := (D8.out.cell (p := ⟨gb, 1, none⟩) HLT.out.2.2).trans E5.out
                 have l0 : w.heap.size < f8.heap.size := Nat.lt_of_lt_of_le HLT.out.1 D8.out.size)
              | (go_at_call 11
                 (with_reducible refine (HST.out _ (HON.out _ _ HG.out (thn16 BX.out (thn16 D8.out (below16 f8 (.cells #[.string ⟨#[114, 101, 97, 100]⟩, .string ⟨#[107, 105, 108, 108]⟩, .string ⟨#[115, 111, 99, 107, 101, 116]⟩] 9))))) (HRD.out.on (thn16 BX.out (thn16 D8.out (below16 f8 (.cells #[.string ⟨#[114, 101, 97, 100]⟩, .string ⟨#[107, 105, 108, 108]⟩, .string ⟨#[115, 111, 99, 107, 101, 116]⟩] 9)))))).mono ?_)
                 rintro e f10 ⟨q10, c10, vN10, rfl, o10, ⟨qN, cN, rfl, _⟩, b⟩
                 have O10 := Lib.hid o10
                 clear o10
                 have D10 := Lib.hid (thn16 (thn16 D8.out (below16 f8 (.cells #[.string ⟨#[114, 101, 97, 100]⟩, .string ⟨#[107, 105, 108, 108]⟩, .string ⟨#[115, 111, 99, 107, 101, 116]⟩] 9))) b)
                 clear b e0 e1 e2 e3 e4 e5 l0
                 have e0 := (D10.out.cell (p := ⟨w.heap.size, 0, none⟩) HLT.out.1).trans E0.out
                 have e1 := (D10.out.cell (p := ⟨w.heap.size, 1, none⟩) HLT.out.1).trans E1.out
                 have e2 := (D10.out.cell (p := ⟨ga, 0, none⟩) HLT.out.2.1).trans E2.out
                 have e3 := (D10.out.cell (p := ⟨ga, 1, none⟩) HLT.out.2.1).trans E3.out
                 have e4 := (D10.out.cell (p := ⟨gb, 0, none⟩) HLT.out.2.2).trans E4.out
                 have e5 := (D10.out.cell (p := ⟨gb, 1, none⟩) HLT.out.2.2).trans E5.out
                 have l0 : w.heap.size < f10.heap.size := Nat.lt_of_lt_of_le HLT.out.1 D10.out.size
                 have DA := Lib.hid (thn16 D10.out (below16 f10 (.cells #[.int .u8 mr, .slice q10 nr c10] 24))))
              | (go_at_call 19
                 (with_reducible refine (HFS.out _ q10 c10 (HON.out _ _ HG.out (thn16 BX.out DA.out)) (LsAt.of_own (owns_on16 O10.out (below16 f10 (.cells #[.int .u8 mr, .slice q10 nr c10] 24))) HNR.out)).mono ?_)
                 rintro e f11 ⟨rfl, b⟩
                 have D11 := Lib.hid (thn16 DA.out b)
                 clear b e0 e1 e2 e3 e4 e5 l0
                 have e0 := (D11.out.cell (p := ⟨w.heap.size, 0, none⟩) HLT.out.1).trans E0.out
                 have e1 := (D11.out.cell (p := ⟨w.heap.size, 1, none⟩) HLT.out.1).trans E1.out
                 have e2 := (D11.out.cell (p := ⟨ga, 0, none⟩) HLT.out.2.1).trans E2.out
                 have e3 := (D11.out.cell (p := ⟨ga, 1, none⟩) HLT.out.2.1).trans E3.out
                 have e4 := (D11.out.cell (p := ⟨gb, 0, none⟩) HLT.out.2.2).trans E4.out
                 have e5 := (D11.out.cell (p := ⟨gb, 1, none⟩) HLT.out.2.2).trans E5.out
                 have l0 : w.heap.size < f11.heap.size := Nat.lt_of_lt_of_le HLT.out.1 D11.out.size)
              | (go_at_call 16
                 (with_reducible refine (HAW.out _ (HON.out _ _ HG.out (thn16 BX.out D11.out))).mono ?_)
                 rintro e v9 ⟨rfl, b9⟩
                 have B9 := Lib.hid (thn16 (thn16 BX.out D11.out) b9)
                 clear b9))
            go_ret
            exact ⟨by first | rfl | simp, B9.out⟩
          · have hstep := stepA_ok (sfx := true) (v := ⟨#[115, 111, 99, 107, 101, 116]⟩) (s := (m0, z0)) HOK.out
            have hrk := step_ok grpX_known true ⟨#[115, 111, 99, 107, 101, 116]⟩ (s := (m0, z0)) HOK.out
            have hfp := find_plain plain_socket (X := grpX) true false (s := (m0, z0)) (Or.inl HM0.out)
            have hsp := congrArg Prod.snd (step_plain plain_socket (X := grpX) true false (m0, z0))
            have e1 : (if (false : Bool) = true then bs (126 :: [115, 111, 99, 107, 101, 116]) else bs [115, 111, 99, 107, 101, 116]) = ⟨#[115, 111, 99, 107, 101, 116]⟩ := by kernel_rfl
            have e2 : bs [115, 111, 99, 107, 101, 116] = ⟨#[115, 111, 99, 107, 101, 116]⟩ := by kernel_rfl
            rw [e1] at hfp hsp
            rw [e2] at hfp
            simp only at hsp
            have HST := Lib.hid (fun (W : World) (g : G W) (h : LsAt W a0 z0) => step_n HCC.out m0 a0 len0 cap0 z0 ⟨#[115, 111, 99, 107, 101, 116]⟩ true W g HX0B.out W0S.out HL1.out HACT.out (by decide) h _ rfl _ rfl)
            obtain ⟨r, hr⟩ : ∃ r, r = stepA true ⟨#[115, 111, 99, 107, 101, 116]⟩ (m0, z0) := ⟨_, rfl⟩
            rw [← hstep] at hrk hfp hsp
            rw [← hr] at HST hrk hfp hsp
            have hf : findC r.1.2 ⟨#[115, 111, 99, 107, 101, 116]⟩ = some 0 := by
              refine Eq.trans hfp ?_
              simp [HM0.out]
            have HFS := Lib.hid (fun (W : World) (q : Option Addr) (c : Nat) (g : G W) (h : LsAt W q r.1.2) => HCC.out.find r.1.1 q r.1.2.length c r.1.2 ⟨#[115, 111, 99, 107, 101, 116]⟩ W g (by have := hrk.mode; omega) rfl (by have := okl_le hrk; omega) (okl_lt hrk) h)
            rw [hf] at HFS
            rw [hsp] at HST
            simp only [Option.getD_some, Option.getD_none, Option.isSome_some, Option.isSome_none, List.map_nil] at HFS HST
            rw [show (((0 : Nat) : Nat) : Int) = 0 from rfl] at HFS
            unfold lsV at HST HFS
            rw [← HMI.out] at HST
            obtain ⟨mr, hmr⟩ : ∃ x : Int, x = (r.1.1 : Nat) := ⟨_, rfl⟩
            obtain ⟨nr, hnr⟩ : ∃ n, n = r.1.2.length := ⟨_, rfl⟩
            have HNR := Lib.hid hnr
            rw [← hmr, ← hnr] at HST HFS
            clear hstep hrk hfp hsp e1 e2 hr hf hmr hnr
            go_wp2_with (first
              | (go_at_call 19
                 (with_reducible refine (HFP1.out _ qp np cp (HON.out _ _ HG.out (thn16 BX.out (Below.refl _ _))) NP.out (LsAt.of_own OP.out NP.out)).mono ?_)
                 rintro e f4 ⟨rfl, b⟩
                 have D4 := Lib.hid (thn16 (Below.refl _ _) b)
                 clear b e0 e1 e2 e3 e4 e5 l0
                 have e0 := (D4.out.cell (p := ⟨w.heap.size, 0, none⟩) HLT.out.1).trans E0.out
                 have e1 := (D4.out.cell (p := ⟨w.heap.size, 1, none⟩) HLT.out.1).trans E1.out
                 have e2 := (D4.out.cell (p := ⟨ga, 0, none⟩) HLT.out.2.1).trans E2.out
                 have e3 := (D4.out.cell (p := ⟨ga, 1, none⟩) HLT.out.2.1).trans E3.out
                 have e4 := (D4.out.cell (p := ⟨gb, 0, none⟩) HLT.out.2.2).trans E4.out
                 have e5 := (D4.out.cell (p := ⟨gb, 1, none⟩) HLT.out.2.2).trans E5.out
                 have l0 : w.heap.size < f4.heap.size := Nat.lt_of_lt_of_le HLT.out.1 D4.out.size)
              | (go_at_call 19
                 (with_reducible refine (HFQ1.out _ qt nt ct (HON.out _ _ HG.out (thn16 BX.out D4.out)) NQ.out (LsAt.of_own (owns_on16 OQ.out D4.out) NQ.out)).mono ?_)
                 rintro e f5 ⟨rfl, b⟩
                 have D5 := Lib.hid (thn16 D4.out b)
                 clear b e0 e1 e2 e3 e4 e5 l0
                 have e0 := (D5.out.cell (p := ⟨w.heap.size, 0, none⟩) HLT.out.1).trans E0.out
                 have e1 := (D5.out.cell (p := ⟨w.heap.size, 1, none⟩) HLT.out.1).trans E1.out
                 have e2 := (D5.out.cell (p := ⟨ga, 0, none⟩) HLT.out.2.1).trans E2.out
                 have e3 := (D5.out.cell (p := ⟨ga, 1, none⟩) HLT.out.2.1).trans E3.out
                 have e4 := (D5.out.cell (p := ⟨gb, 0, none⟩) HLT.out.2.2).trans E4.out
                 have e5 := (D5.out.cell (p := ⟨gb, 1, none⟩) HLT.out.2.2).trans E5.out
                 have l0 : w.heap.size < f5.heap.size := Nat.lt_of_lt_of_le HLT.out.1 D5.out.size)
              | (go_at_call 19
                 (with_reducible refine (HFL.out _ (HON.out _ _ HG.out (thn16 BX.out D5.out)) (HRD.out.on (thn16 BX.out D5.out))).mono ?_)
                 rintro e f6 ⟨rfl, b⟩
                 have D6 := Lib.hid (thn16 D5.out b)
                 clear b e0 e1 e2 e3 e4 e5 l0
                 have e0 := (D6.out.cell (p := ⟨w.heap.size, 0, none⟩) HLT.out.1).trans E0.out
                 have e1 := (D6.out.cell (p := ⟨w.heap.size, 1, none⟩) HLT.out.1).trans E1.out
                 have e2 := (D6.out.cell (p := ⟨ga, 0, none⟩) HLT.out.2.1).trans E2.out
                 have e3 := (D6.out.cell (p := ⟨ga, 1, none⟩) HLT.out.2.1).trans E3.out
                 have e4 := (D6.out.cell (p := ⟨gb, 0, none⟩) HLT.out.2.2).trans E4.out
                 have e5 := (D6.out.cell (p := ⟨gb, 1, none⟩) HLT.out.2.2).trans E5.out
                 have l0 : w.heap.size < f6.heap.size := Nat.lt_of_lt_of_le HLT.out.1 D6.out.size)
              | (go_at_call 19
                 (with_reducible refine (HFP2.out _ qp np cp (HON.out _ _ HG.out (thn16 BX.out D6.out)) NP.out (LsAt.of_own (owns_on16 OP.out D6.out) NP.out)).mono ?_)
                 rintro e f7 ⟨rfl, b⟩
                 have D7 := Lib.hid (thn16 D6.out b)
                 clear b e0 e1 e2 e3 e4 e5 l0
                 have e0 := (D7.out.cell (p := ⟨w.heap.size, 0, none⟩) HLT.out.1).trans E0.out
                 have e1 := (D7.out.cell (p := ⟨w.heap.size, 1, none⟩) HLT.out.1).trans E1.out
                 have e2 := (D7.out.cell (p := ⟨ga, 0, none⟩) HLT.out.2.1).trans E2.out
                 have e3 := (D7.out.cell (p := ⟨ga, 1, none⟩) HLT.out.2.1).trans E3.out
                 have e4 := (D7.out.cell (p := ⟨gb, 0, none⟩) HLT.out.2.2).trans E4.out
                 have e5 := (D7.out.cell (p := ⟨gb, 1, none⟩) HLT.out.2.2).trans E5.out
                 have l0 : w.heap.size < f7.heap.size := Nat.lt_of_lt_of_le HLT.out.1 D7.out.size)
              | (go_at_call 19
                 (with_reducible refine (HFQ2.out _ qt nt ct (HON.out _ _ HG.out (thn16 BX.out D7.out)) NQ.out (LsAt.of_own (owns_on16 OQ.out D7.out) NQ.out)).mono ?_)
                 rintro e f8 ⟨rfl, b⟩
                 have D8 := Lib.hid (thn16 D7.out b)
                 clear b e0 e1 e2 e3 e4 e5 l0
                 have e0 := (D8.out.cell (p := ⟨w.heap.size, 0, none⟩) HLT.out.1).trans E0.out
                 have e1 := (D8.out.cell (p := ⟨w.heap.size, 1, none⟩) HLT.out.1).trans E1.out
                 have e2 := (D8.out.cell (p := ⟨ga, 0, none⟩) HLT.out.2.1).trans E2.out
                 have e3 := (D8.out.cell (p := ⟨ga, 1, none⟩) HLT.out.2.1).trans E3.out
                 have e4 := (D8.out.cell (p := ⟨gb, 0, none⟩) HLT.out.2.2).trans E4.out
                 have e5 := (D8.out.cell (p := ⟨gb, 1, none⟩) HLT.out.2.2).trans E5.out
                 have l0 : w.heap.size < f8.heap.size := Nat.lt_of_lt_of_le HLT.out.1 D8.out.size)
              | (go_at_call 11
                 (with_reducible refine (HST.out _ (HON.out _ _ HG.out (thn16 BX.out (thn16 D8.out (below16 f8 (.cells #[.string ⟨#[114, 101, 97, 100]⟩, .string ⟨#[107, 105, 108, 108]⟩, .string ⟨#[115, 111, 99, 107, 101, 116]⟩] 9))))) (HRD.out.on (thn16 BX.out (thn16 D8.out (below16 f8 (.cells #[.string ⟨#[114, 101, 97, 100]⟩, .string ⟨#[107, 105, 108, 108]⟩, .string ⟨#[115, 111, 99, 107, 101, 116]⟩] 9)))))).mono ?_)
                 rintro e f10 ⟨q10, c10, vN10, rfl, o10, ⟨qN, cN, rfl, _⟩, b⟩
                 have O10 := Lib.hid o10
                 clear o10
                 have D10 := Lib.hid (thn16 (thn16 D8.out (below16 f8 (.cells #[.string ⟨#[114, 101, 97, 100]⟩, .string ⟨#[107, 105, 108, 108]⟩, .string ⟨#[115, 111, 99, 107, 101, 116]⟩] 9))) b)
                 clear b e0 e1 e2 e3 e4 e5 l0
                 have e0 := (D10.out.cell (p := ⟨w.heap.size, 0, none⟩) HLT.out.1).trans E0.out
                 have e1 := (D10.out.cell (p := ⟨w.heap.size, 1, none⟩) HLT.out.1).trans E1.out
                 have e2 := (D10.out.cell (p := ⟨ga, 0, none⟩) HLT.out.2.1).trans E2.out
                 have e3 := (D10.out.cell (p := ⟨ga, 1, none⟩) HLT.out.2.1).trans E3.out
                 have e4 := (D10.out.cell (p := ⟨gb, 0, none⟩) HLT.out.2.2).trans E4.out
                 have e5 := (D10.out.cell (p := ⟨gb, 1, none⟩) HLT.out.2.2).trans E5.out
                 have l0 : w.heap.size < f10.heap.size := Nat.lt_of_lt_of_le HLT.out.1 D10.out.size
                 have DA := Lib.hid (thn16 D10.out (below16 f10 (.cells #[.int .u8 mr, .slice q10 nr c10] 24))))
              | (go_at_call 19
                 (with_reducible refine (HFS.out _ q10 c10 (HON.out _ _ HG.out (thn16 BX.out DA.out)) (LsAt.of_own (owns_on16 O10.out (below16 f10 (.cells #[.int .u8 mr, .slice q10 nr c10] 24))) HNR.out)).mono ?_)
                 rintro e f11 ⟨rfl, b⟩
                 have D11 := Lib.hid (thn16 DA.out b)
                 clear b e0 e1 e2 e3 e4 e5 l0
                 have e0 := (D11.out.cell (p := ⟨w.heap.size, 0, none⟩) HLT.out.1).trans E0.out
                 have e1 := (D11.out.cell (p := ⟨w.heap.size, 1, none⟩) HLT.out.1).trans E1.out
                 have e2 := (D11.out.cell (p := ⟨ga, 0, none⟩) HLT.out.2.1).trans E2.out
                 have e3 := (D11.out.cell (p := ⟨ga, 1, none⟩) HLT.out.2.1).trans E3.out
                 have e4 := (D11.out.cell (p := ⟨gb, 0, none⟩) HLT.out.2.2).trans E4.out
                 have e5 := (D11.out.cell (p := ⟨gb, 1, none⟩) HLT.out.2.2).trans E5.out
                 have l0 : w.heap.size < f11.heap.size := Nat.lt_of_lt_of_le HLT.out.1 D11.out.size)
              | (go_at_call 16
                 (with_reducible refine (HAW.out _ (HON.out _ _ HG.out (thn16 BX.out D11.out))).mono ?_)
                 rintro e v9 ⟨rfl, b9⟩
                 have B9 := Lib.hid (thn16 (thn16 BX.out D11.out) b9)
                 clear b9))
            go_ret
            exact ⟨by first | rfl | simp, B9.out⟩
      · have HM0 := Lib.hid hmm
        have hb2 : (mi == 2) = true := by rw [HMI.out, hmm]; rfl
        clear hmm
        cases a4 with
        | true =>
          rcases hrem with hj | hj | hj
          · have hstep := stepA_ok (sfx := true) (v := ⟨#[126, 114, 101, 97, 100]⟩) (s := (m0, z0)) HOK.out
            have hrk := step_ok grpX_known true ⟨#[126, 114, 101, 97, 100]⟩ (s := (m0, z0)) HOK.out
            have hfp := find_plain plain_read (X := grpX) true true (s := (m0, z0)) (Or.inr HM0.out)
            have hsp := congrArg Prod.snd (step_plain plain_read (X := grpX) true true (m0, z0))
            have e1 : (if (true : Bool) = true then bs (126 :: [114, 101, 97, 100]) else bs [114, 101, 97, 100]) = ⟨#[126, 114, 101, 97, 100]⟩ := by kernel_rfl
            have e2 : bs [114, 101, 97, 100] = ⟨#[114, 101, 97, 100]⟩ := by kernel_rfl
            rw [e1] at hfp hsp
            rw [e2] at hfp
            simp only at hsp
            have HST := Lib.hid (fun (W : World) (g : G W) (h : LsAt W a0 z0) => step_n HCC.out m0 a0 len0 cap0 z0 ⟨#[126, 114, 101, 97, 100]⟩ true W g HX0B.out W0S.out HL1.out HACT.out (by decide) h _ rfl _ rfl)
            obtain ⟨r, hr⟩ : ∃ r, r = stepA true ⟨#[126, 114, 101, 97, 100]⟩ (m0, z0) := ⟨_, rfl⟩
            rw [← hstep] at hrk hfp hsp
            rw [← hr] at HST hrk hfp hsp
            have hf : findC r.1.2 ⟨#[114, 101, 97, 100]⟩ = some 0 := by
              refine Eq.trans hfp ?_
              simp [HM0.out]
            have HFS := Lib.hid (fun (W : World) (q : Option Addr) (c : Nat) (g : G W) (h : LsAt W q r.1.2) => HCC.out.find r.1.1 q r.1.2.length c r.1.2 ⟨#[114, 101, 97, 100]⟩ W g (by have := hrk.mode; omega) rfl (by have := okl_le hrk; omega) (okl_lt hrk) h)
            rw [hf] at HFS
            rw [hsp] at HST
            simp only [Option.getD_some, Option.getD_none, Option.isSome_some, Option.isSome_none, List.map_nil] at HFS HST
            rw [show (((0 : Nat) : Nat) : Int) = 0 from rfl] at HFS
            unfold lsV at HST HFS
            rw [← HMI.out] at HST
            obtain ⟨mr, hmr⟩ : ∃ x : Int, x = (r.1.1 : Nat) := ⟨_, rfl⟩
            obtain ⟨nr, hnr⟩ : ∃ n, n = r.1.2.length := ⟨_, rfl⟩
            have HNR := Lib.hid hnr
            rw [← hmr, ← hnr] at HST HFS
            rw [show (⟨#[126, 114, 101, 97, 100]⟩ : ByteArray) = ⟨#[126]⟩ ++ ⟨#[114, 101, 97, 100]⟩ from by kernel_rfl] at HST
            clear hstep hrk hfp hsp e1 e2 hr hf hmr hnr
            go_wp2_with (first
              | (go_at_call 19
                 (with_reducible refine (HFP1.out _ qp np cp (HON.out _ _ HG.out (thn16 BX.out (Below.refl _ _))) NP.out (LsAt.of_own OP.out NP.out)).mono ?_)
                 rintro e f4 ⟨rfl, b⟩
                 have D4 := Lib.hid (thn16 (Below.refl _ _) b)
                 clear b e0 e1 e2 e3 e4 e5 l0
                 have e0 := (D4.out.cell (p := ⟨w.heap.size, 0, none⟩) HLT.out.1).trans E0.out
                 have e1 := (D4.out.cell (p := ⟨w.heap.size, 1, none⟩) HLT.out.1).trans E1.out
                 have e2 := (D4.out.cell (p := ⟨ga, 0, none⟩) HLT.out.2.1).trans E2.out
                 have e3 := (D4.out.cell (p := ⟨ga, 1, none⟩) HLT.out.2.1).trans E3.out
                 have e4 := (D4.out.cell (p := ⟨gb, 0, none⟩) HLT.out.2.2).trans E4.out
                 have e5 := (D4.out.cell (p := ⟨gb, 1, none⟩) HLT.out.2.2).trans E5.out
                 have l0 : w.heap.size < f4.heap.size := Nat.lt_of_lt_of_le HLT.out.1 D4.out.size)
              | (go_at_call 19
                 (with_reducible refine (HFQ1.out _ qt nt ct (HON.out _ _ HG.out (thn16 BX.out D4.out)) NQ.out (LsAt.of_own (owns_on16 OQ.out D4.out) NQ.out)).mono ?_)
                 rintro e f5 ⟨rfl, b⟩
                 have D5 := Lib.hid (thn16 D4.out b)
                 clear b e0 e1 e2 e3 e4 e5 l0
                 have e0 := (D5.out.cell (p := ⟨w.heap.size, 0, none⟩) HLT.out.1).trans E0.out
                 have e1 := (D5.out.cell (p := ⟨w.heap.size, 1, none⟩) HLT.out.1).trans E1.out
                 have e2 := (D5.out.cell (p := ⟨ga, 0, none⟩) HLT.out.2.1).trans E2.out
                 have e3 := (D5.out.cell (p := ⟨ga, 1, none⟩) HLT.out.2.1).trans E3.out
                 have e4 := (D5.out.cell (p := ⟨gb, 0, none⟩) HLT.out.2.2).trans E4.out
                 have e5 := (D5.out.cell (p := ⟨gb, 1, none⟩) HLT.out.2.2).trans E5.out
                 have l0 : w.heap.size < f5.heap.size := Nat.lt_of_lt_of_le HLT.out.1 D5.out.size)
              | (go_at_call 19
                 (with_reducible refine (HFL.out _ (HON.out _ _ HG.out (thn16 BX.out D5.out)) (HRD.out.on (thn16 BX.out D5.out))).mono ?_)
                 rintro e f6 ⟨rfl, b⟩
                 have D6 := Lib.hid (thn16 D5.out b)
                 clear b e0 e1 e2 e3 e4 e5 l0
                 have e0 := (D6.out.cell (p := ⟨w.heap.size, 0, none⟩) HLT.out.1).trans E0.out
                 have e1 := (D6.out.cell (p := ⟨w.heap.size, 1, none⟩) HLT.out.1).trans E1.out
                 have e2 := (D6.out.cell (p := ⟨ga, 0, none⟩) HLT.out.2.1).trans E2.out
                 have e3 := (D6.out.cell (p := ⟨ga, 1, none⟩) HLT.out.2.1).trans E3.out
                 have e4 := (D6.out.cell (p := ⟨gb, 0, none⟩) HLT.out.2.2).trans E4.out
                 have e5 := (D6.out.cell (p := ⟨gb, 1, none⟩) HLT.out.2.2).trans E5.out
                 have l0 : w.heap.size < f6.heap.size := Nat.lt_of_lt_of_le HLT.out.1 D6.out.size)
              | (go_at_call 19
                 (with_reducible refine (HFP2.out _ qp np cp (HON.out _ _ HG.out (thn16 BX.out D6.out)) NP.out (LsAt.of_own (owns_on16 OP.out D6.out) NP.out)).mono ?_)
                 rintro e f7 ⟨rfl, b⟩
                 have D7 := Lib.hid (thn16 D6.out b)
                 clear b e0 e1 e2 e3 e4 e5 l0
                 have e0 := (D7.out.cell (p := ⟨w.heap.size, 0, none⟩) HLT.out.1).trans E0.out
                 have e1 := (D7.out.cell (p := ⟨w.heap.size, 1, none⟩) HLT.out.1).trans E1.out
                 have e2 := (D7.out.cell (p := ⟨ga, 0, none⟩) HLT.out.2.1).trans E2.out
                 have e3 := (D7.out.cell (p := ⟨ga, 1, none⟩) HLT.out.2.1).trans E3.out
                 have e4 := (D7.out.cell (p := ⟨gb, 0, none⟩) HLT.out.2.2).trans E4.out
                 have e5 := (D7.out.cell (p := ⟨gb, 1, none⟩) HLT.out.2.2).trans E5.out
                 have l0 : w.heap.size < f7.heap.size := Nat.lt_of_lt_of_le HLT.out.1 D7.out.size)
              | (go_at_call 19
                 (with_reducible refine (HFQ2.out _ qt nt ct (HON.out _ _ HG.out (thn16 BX.out D7.out)) NQ.out (LsAt.of_own (owns_on16 OQ.out D7.out) NQ.out)).mono ?_)
                 rintro e f8 ⟨rfl, b⟩
                 have D8 := Lib.hid (thn16 D7.out b)
                 clear b e0 e1 e2 e3 e4 e5 l0
                 have e0 := (D8.out.cell (p := ⟨w.heap.size, 0, none⟩) HLT.out.1).trans E0.out
                 have e1 := (D8.out.cell (p := ⟨w.heap.size, 1, none⟩) HLT.out.1).trans E1.out
                 have e2 := (D8.out.cell (p := ⟨ga, 0, none⟩) HLT.out.2.1).trans E2.out
                 have e3 := (D8.out.cell (p := ⟨ga, 1, none⟩) HLT.out.2.1).trans E3.out
                 have e4 := (D8.out.cell (p := ⟨gb, 0, none⟩) HLT.out.2.2).trans E4.out
                 have e5 := (D8.out.cell (p := ⟨gb, 1, none⟩) HLT.out.2.2).trans E5.out
                 have l0 : w.heap.size < f8.heap.size := Nat.lt_of_lt_of_le HLT.out.1 D8.out.size)
              | (go_at_call 11
                 (with_reducible refine (HST.out _ (HON.out _ _ HG.out (thn16 BX.out (thn16 D8.out (below16 f8 (.cells #[.string ⟨#[114, 101, 97, 100]⟩, .string ⟨#[107, 105, 108, 108]⟩, .string ⟨#[115, 111, 99, 107, 101, 116]⟩] 9))))) (HRD.out.on (thn16 BX.out (thn16 D8.out (below16 f8 (.cells #[.string ⟨#[114, 101, 97, 100]⟩, .string ⟨#[107, 105, 108, 108]⟩, .string ⟨#[115, 111, 99, 107, 101, 116]⟩] 9)))))).mono ?_)
                 rintro e f10 ⟨q10, c10, vN10, rfl, o10, ⟨qN, cN, rfl, _⟩, b⟩
                 have O10 := Lib.hid o10
                 clear o10
                 have D10 := Lib.hid (thn16 (thn16 D8.out (below16 f8 (.cells #[.string ⟨#[114, 101, 97, 100]⟩, .string ⟨#[107, 105, 108, 108]⟩, .string ⟨#[115, 111, 99, 107, 101, 116]⟩] 9))) b)
                 clear b e0 e1 e2 e3 e4 e5 l0
                 have e0 := (D10.out.cell (p := ⟨w.heap.size, 0, none⟩) HLT.out.1).trans E0.out
                 have e1 := (D10.out.cell (p := ⟨w.heap.size, 1, none⟩) HLT.out.1).trans E1.out
                 have e2 := (D10.out.cell (p := ⟨ga, 0, none⟩) HLT.out.2.1).trans E2.out
                 have e3 := (D10.out.cell (p := ⟨ga, 1, none⟩) HLT.out.2.1).trans E3.out
                 have e4 := (D10.out.cell (p := ⟨gb, 0, none⟩) HLT.out.2.2).trans E4.out
                 have e5 := (D10.out.cell (p := ⟨gb, 1, none⟩) HLT.out.2.2).trans E5.out
                 have l0 : w.heap.size < f10.heap.size := Nat.lt_of_lt_of_le HLT.out.1 D10.out.size
                 have DA := Lib.hid (thn16 D10.out (below16 f10 (.cells #[.int .u8 mr, .slice q10 nr c10] 24))))
              | (go_at_call 19
                 (with_reducible refine (HFS.out _ q10 c10 (HON.out _ _ HG.out (thn16 BX.out DA.out)) (LsAt.of_own (owns_on16 O10.out (below16 f10 (.cells #[.int .u8 mr, .slice q10 nr c10] 24))) HNR.out)).mono ?_)
                 rintro e f11 ⟨rfl, b⟩
                 have D11 := Lib.hid (thn16 DA.out b)
                 clear b e0 e1 e2 e3 e4 e5 l0
                 have e0 := (D11.out.cell (p := ⟨w.heap.size, 0, none⟩) HLT.out.1).trans E0.out
                 have e1 := (D11.out.cell (p := ⟨w.heap.size, 1, none⟩) HLT.out.1).trans E1.out
                 have e2 := (D11.out.cell (p := ⟨ga, 0, none⟩) HLT.out.2.1).trans E2.out
                 have e3 := (D11.out.cell (p := ⟨ga, 1, none⟩) HLT.out.2.1).trans E3.out
                 have e4 := (D11.out.cell (p := ⟨gb, 0, none⟩) HLT.out.2.2).trans E4.out
                 have e5 := (D11.out.cell (p := ⟨gb, 1, none⟩) HLT.out.2.2).trans E5.out
                 have l0 : w.heap.size < f11.heap.size := Nat.lt_of_lt_of_le HLT.out.1 D11.out.size)
              | (go_at_call 16
                 (with_reducible refine (HAW.out _ (HON.out _ _ HG.out (thn16 BX.out D11.out))).mono ?_)
                 rintro e v9 ⟨rfl, b9⟩
                 have B9 := Lib.hid (thn16 (thn16 BX.out D11.out) b9)
                 clear b9))
            go_ret
            exact ⟨by first | rfl | simp, B9.out⟩
          · have hstep := stepA_ok (sfx := true) (v := ⟨#[126, 107, 105, 108, 108]⟩) (s := (m0, z0)) HOK.out
            have hrk := step_ok grpX_known true ⟨#[126, 107, 105, 108, 108]⟩ (s := (m0, z0)) HOK.out
            have hfp := find_plain plain_kill (X := grpX) true true (s := (m0, z0)) (Or.inr HM0.out)
            have hsp := congrArg Prod.snd (step_plain plain_kill (X := grpX) true true (m0, z0))
            have e1 : (if (true : Bool) = true then bs (126 :: [107, 105, 108, 108]) else bs [107, 105, 108, 108]) = ⟨#[126, 107, 105, 108, 108]⟩ := by kernel_rfl
            have e2 : bs [107, 105, 108, 108] = ⟨#[107, 105, 108, 108]⟩ := by kernel_rfl
            rw [e1] at hfp hsp
            rw [e2] at hfp
            simp only at hsp
            have HST := Lib.hid (fun (W : World) (g : G W) (h : LsAt W a0 z0) => step_n HCC.out m0 a0 len0 cap0 z0 ⟨#[126, 107, 105, 108, 108]⟩ true W g HX0B.out W0S.out HL1.out HACT.out (by decide) h _ rfl _ rfl)
            obtain ⟨r, hr⟩ : ∃ r, r = stepA true ⟨#[126, 107, 105, 108, 108]⟩ (m0, z0) := ⟨_, rfl⟩
            rw [← hstep] at hrk hfp hsp
            rw [← hr] at HST hrk hfp hsp
            have hf : findC r.1.2 ⟨#[107, 105, 108, 108]⟩ = some 0 := by
              refine Eq.trans hfp ?_
              simp [HM0.out]
            have HFS := Lib.hid (fun (W : World) (q : Option Addr) (c : Nat) (g : G W) (h : LsAt W q r.1.2) => HCC.out.find r.1.1 q r.1.2.length c r.1.2 ⟨#[107, 105, 108, 108]⟩ W g (by have := hrk.mode; omega) rfl (by have := okl_le hrk; omega) (okl_lt hrk) h)
            rw [hf] at HFS
            rw [hsp] at HST
            simp only [Option.getD_some, Option.getD_none, Option.isSome_some, Option.isSome_none, List.map_nil] at HFS HST
            rw [show (((0 : Nat) : Nat) : Int) = 0 from rfl] at HFS
            unfold lsV at HST HFS
            rw [← HMI.out] at HST
            obtain ⟨mr, hmr⟩ : ∃ x : Int, x = (r.1.1 : Nat) := ⟨_, rfl⟩
            obtain ⟨nr, hnr⟩ : ∃ n, n = r.1.2.length := ⟨_, rfl⟩
            have HNR := Lib.hid hnr
            rw [← hmr, ← hnr] at HST HFS
            rw [show (⟨#[126, 107, 105, 108, 108]⟩ : ByteArray) = ⟨#[126]⟩ ++ ⟨#[107, 105, 108, 108]⟩ from by kernel_rfl] at HST
            clear hstep hrk hfp hsp e1 e2 hr hf hmr hnr
            go_wp2_with (first
              | (go_at_call 19
                 (with_reducible refine (HFP1.out _ qp np cp (HON.out _ _ HG.out (thn16 BX.out (Below.refl _ _))) NP.out (LsAt.of_own OP.out NP.out)).mono ?_)
                 rintro e f4 ⟨rfl, b⟩
                 have D4 := Lib.hid (thn16 (Below.refl _ _) b)
                 clear b e0 e1 e2 e3 e4 e5 l0
                 have e0 := (D4.out.cell (p := ⟨w.heap.size, 0, none⟩) HLT.out.1).trans E0.out
                 have e1 := (D4.out.cell (p := ⟨w.heap.size, 1, none⟩) HLT.out.1).trans E1.out
                 have e2 := (D4.out.cell (p := ⟨ga, 0, none⟩) HLT.out.2.1).trans E2.out
                 have e3 := (D4.out.cell (p := ⟨ga, 1, none⟩) HLT.out.2.1).trans E3.out
                 have e4 := (D4.out.cell (p := ⟨gb, 0, none⟩) HLT.out.2.2).trans E4.out
                 have e5 := (D4.out.cell (p := ⟨gb, 1, none⟩) HLT.out.2.2).trans E5.out
                 have l0 : w.heap.size < f4.heap.size := Nat.lt_of_lt_of_le HLT.out.1 D4.out.size)
              | (go_at_call 19
                 (with_reducible refine (HFQ1.out _ qt nt ct (HON.out _ _ HG.out (thn16 BX.out D4.out)) NQ.out (LsAt.of_own (owns_on16 OQ.out D4.out) NQ.out)).mono ?_)
                 rintro e f5 ⟨rfl, b⟩
                 have D5 := Lib.hid (thn16 D4.out b)
                 clear b e0 e1 e2 e3 e4 e5 l0
                 have e0 := (D5.out.cell (p := ⟨w.heap.size, 0, none⟩) HLT.out.1).trans E0.out
                 have e1 := (D5.out.cell (p := ⟨w.heap.size, 1, none⟩) HLT.out.1).trans E1.out
                 have e2 := (D5.out.cell (p := ⟨ga, 0, none⟩) HLT.out.2.1).trans E2.out
                 have e3 := (D5.out.cell (p := ⟨ga, 1, none⟩) HLT.out.2.1).trans E3.out
                 have e4 := (D5.out.cell (p := ⟨gb, 0, none⟩) HLT.out.2.2).trans E4.out
                 have e5 := (D5.out.cell (p := ⟨gb, 1, none⟩) HLT.out.2.2).trans E5.out
                 have l0 : w.heap.size < f5.heap.size := Nat.lt_of_lt_of_le HLT.out.1 D5.out.size)
              | (go_at_call 19
                 (with_reducible refine (HFL.out _ (HON.out _ _ HG.out (thn16 BX.out D5.out)) (HRD.out.on (thn16 BX.out D5.out))).mono ?_)
                 rintro e f6 ⟨rfl, b⟩
                 have D6 := Lib.hid (thn16 D5.out b)
                 clear b e0 e1 e2 e3 e4 e5 l0
                 have e0 := (D6.out.cell (p := ⟨w.heap.size, 0, none⟩) HLT.out.1).trans E0.out
                 have e1 := (D6.out.cell (p := ⟨w.heap.size, 1, none⟩) HLT.out.1).trans E1.out
                 have e2 := (D6.out.cell (p := ⟨ga, 0, none⟩) HLT.out.2.1).trans E2.out
                 have e3 := (D6.out.cell (p := ⟨ga, 1, none⟩) HLT.out.2.1).trans E3.out
                 have e4 := (D6.out.cell (p := ⟨gb, 0, none⟩) HLT.out.2.2).trans E4.out
                 have e5 := (D6.out.cell (p := ⟨gb, 1, none⟩) HLT.out.2.2).trans E5.out
                 have l0 : w.heap.size < f6.heap.size := Nat.lt_of_lt_of_le HLT.out.1 D6.out.size)
              | (go_at_call 19
                 (with_reducible refine (HFP2.out _ qp np cp (HON.out _ _ HG.out (thn16 BX.out D6.out)) NP.out (LsAt.of_own (owns_on16 OP.out D6.out) NP.out)).mono ?_)
                 rintro e f7 ⟨rfl, b⟩
                 have D7 := Lib.hid (thn16 D6.out b)
                 clear b e0 e1 e2 e3 e4 e5 l0
                 have e0 := (D7.out.cell (p := ⟨w.heap.size, 0, none⟩) HLT.out.1).trans E0.out
                 have e1 := (D7.out.cell (p := ⟨w.heap.size, 1, none⟩) HLT.out.1).trans E1.out
                 have e2 := (D7.out.cell (p := ⟨ga, 0, none⟩) HLT.out.2.1).trans E2.out
                 have e3 := (D7.out.cell (p := ⟨ga, 1, none⟩) HLT.out.2.1).trans E3.out
                 have e4 := (D7.out.cell (p := ⟨gb, 0, none⟩) HLT.out.2.2).trans E4.out
                 have e5 := (D7.out.cell (p := ⟨gb, 1, none⟩) HLT.out.2.2).trans E5.out
                 have l0 : w.heap.size < f7.heap.size := Nat.lt_of_lt_of_le HLT.out.1 D7.out.size)
              | (go_at_call 19
                 (with_reducible refine (HFQ2.out _ qt nt ct (HON.out _ _ HG.out (thn16 BX.out D7.out)) NQ.out (LsAt.of_own (owns_on16 OQ.out D7.out) NQ.out)).mono ?_)
                 rintro e f8 ⟨rfl, b⟩
                 have D8 := Lib.hid (thn16 D7.out b)
                 clear b e0 e1 e2 e3 e4 e5 l0
                 have e0 := (D8.out.cell (p := ⟨w.heap.size, 0, none⟩) HLT.out.1).trans E0.out
                 have e1 := (D8.out.cell (p := ⟨w.heap.size, 1, none⟩) HLT.out.1).trans E1.out
                 have e2 := (D8.out.cell (p := ⟨ga, 0, none⟩) HLT.out.2.1).trans E2.out
                 have e3 := (D8.out.cell (p := ⟨ga, 1, none⟩) HLT.out.2.1).trans E3.out
                 have e4 := (D8.out.cell (p := ⟨gb, 0, none⟩) HLT.out.2.2).trans E4.out
                 have e5 := (D8.out.cell (p := ⟨gb, 1, none⟩) HLT.out.2.2).trans E5.out
                 have l0 : w.heap.size < f8.heap.size := Nat.lt_of_lt_of_le HLT.out.1 D8.out.size)
              | (go_at_call 11
                 (with_reducible refine (HST.out _ (HON.out _ _ HG.out (thn16 BX.out (thn16 D8.out (below16 f8 (.cells #[.string ⟨#[114, 101, 97, 100]⟩, .string ⟨#[107, 105, 108, 108]⟩, .string ⟨#[115, 111, 99, 107, 101, 116]⟩] 9))))) (HRD.out.on (thn16 BX.out (thn16 D8.out (below16 f8 (.cells #[.string ⟨#[114, 101, 97, 100]⟩, .string ⟨#[107, 105, 108, 108]⟩, .string ⟨#[115, 111, 99, 107, 101, 116]⟩] 9)))))).mono ?_)
                 rintro e f10 ⟨q10, c10, vN10, rfl, o10, ⟨qN, cN, rfl, _⟩, b⟩
                 have O10 := Lib.hid o10
                 clear o10
                 have D10 := Lib.hid (thn16 (thn16 D8.out (below16 f8 (.cells #[.string ⟨#[114, 101, 97, 100]⟩, .string ⟨#[107, 105, 108, 108]⟩, .string ⟨#[115, 111, 99, 107, 101, 116]⟩] 9))) b)
                 clear b e0 e1 e2 e3 e4 e5 l0
                 have e0 := (D10.out.cell (p := ⟨w.heap.size, 0, none⟩) HLT.out.1).trans E0.out
                 have e1 := (D10.out.cell (p := ⟨w.heap.size, 1, none⟩) HLT.out.1).trans E1.out
                 have e2 := (D10.out.cell (p := ⟨ga, 0, none⟩) HLT.out.2.1).trans E2.out
                 have e3 := (D10.out.cell (p := ⟨ga, 1, none⟩) HLT.out.2.1).trans E3.out
                 have e4 := (D10.out.cell (p := ⟨gb, 0, none⟩) HLT.out.2.2).trans E4.out
                 have e5 := (D10.out.cell (p := ⟨gb, 1, none⟩) HLT.out.2.2).trans E5.out
                 have l0 : w.heap.size < f10.heap.size := Nat.lt_of_lt_of_le HLT.out.1 D10.out.size
                 have DA := Lib.hid (thn16 D10.out (below16 f10 (.cells #[.int .u8 mr, .slice q10 nr c10] 24))))
              | (go_at_call 19
                 (with_reducible refine (HFS.out _ q10 c10 (HON.out _ _ HG.out (thn16 BX.out DA.out)) (LsAt.of_own (owns_on16 O10.out (below16 f10 (.cells #[.int .u8 mr, .slice q10 nr c10] 24))) HNR.out)).mono ?_)
                 rintro e f11 ⟨rfl, b⟩
                 have D11 := Lib.hid (thn16 DA.out b)
                 clear b e0 e1 e2 e3 e4 e5 l0
                 have e0 := (D11.out.cell (p := ⟨w.heap.size, 0, none⟩) HLT.out.1).trans E0.out
                 have e1 := (D11.out.cell (p := ⟨w.heap.size, 1, none⟩) HLT.out.1).trans E1.out
                 have e2 := (D11.out.cell (p := ⟨ga, 0, none⟩) HLT.out.2.1).trans E2.out
                 have e3 := (D11.out.cell (p := ⟨ga, 1, none⟩) HLT.out.2.1).trans E3.out
                 have e4 := (D11.out.cell (p := ⟨gb, 0, none⟩) HLT.out.2.2).trans E4.out
                 have e5 := (D11.out.cell (p := ⟨gb, 1, none⟩) HLT.out.2.2).trans E5.out
                 have l0 : w.heap.size < f11.heap.size := Nat.lt_of_lt_of_le HLT.out.1 D11.out.size)
              | (go_at_call 16
                 (with_reducible refine (HAW.out _ (HON.out _ _ HG.out (thn16 BX.out D11.out))).mono ?_)
                 rintro e v9 ⟨rfl, b9⟩
                 have B9 := Lib.hid (thn16 (thn16 BX.out D11.out) b9)
                 clear b9))
            go_ret
            exact ⟨by first | rfl | simp, B9.out⟩
          · have hstep := stepA_ok (sfx := true) (v := ⟨#[126, 115, 111, 99, 107, 101, 116]⟩) (s := (m0, z0)) HOK.out
            have hrk := step_ok grpX_known true ⟨#[126, 115, 111, 99, 107, 101, 116]⟩ (s := (m0, z0)) HOK.out
            have hfp := find_plain plain_socket (X := grpX) true true (s := (m0, z0)) (Or.inr HM0.out)
            have hsp := congrArg Prod.snd (step_plain plain_socket (X := grpX) true true (m0, z0))
            have e1 : (if (true : Bool) = true then bs (126 :: [115, 111, 99, 107, 101, 116]) else bs [115, 111, 99, 107, 101, 116]) = ⟨#[126, 115, 111, 99, 107, 101, 116]⟩ := by kernel_rfl
            have e2 : bs [115, 111, 99, 107, 101, 116] = ⟨#[115, 111, 99, 107, 101, 116]⟩ := by kernel_rfl
            rw [e1] at hfp hsp
            rw [e2] at hfp
            simp only at hsp
            have HST := Lib.hid (fun (W : World) (g : G W) (h : LsAt W a0 z0) => step_n HCC.out m0 a0 len0 cap0 z0 ⟨#[126, 115, 111, 99, 107, 101, 116]⟩ true W g HX0B.out W0S.out HL1.out HACT.out (by decide) h _ rfl _ rfl)
            obtain ⟨r, hr⟩ : ∃ r, r = stepA true ⟨#[126, 115, 111, 99, 107, 101, 116]⟩ (m0, z0) := ⟨_, rfl⟩
            rw [← hstep] at hrk hfp hsp
            rw [← hr] at HST hrk hfp hsp
            have hf : findC r.1.2 ⟨#[115, 111, 99, 107, 101, 116]⟩ = some 0 := by
              refine Eq.trans hfp ?_
              simp [HM0.out]
            have HFS := Lib.hid (fun (W : World) (q : Option Addr) (c : Nat) (g : G W) (h : LsAt W q r.1.2) => HCC.out.find r.1.1 q r.1.2.length c r.1.2 ⟨#[115, 111, 99, 107, 101, 116]⟩ W g (by have := hrk.mode; omega) rfl (by have := okl_le hrk; omega) (okl_lt hrk) h)
            rw [hf] at HFS
            rw [hsp] at HST
            simp only [Option.getD_some, Option.getD_none, Option.isSome_some, Option.isSome_none, List.map_nil] at HFS HST
            rw [show (((0 : Nat) : Nat) : Int) = 0 from rfl] at HFS
            unfold lsV at HST HFS
            rw [← HMI.out] at HST
            obtain ⟨mr, hmr⟩ : ∃ x : Int, x = (r.1.1 : Nat) := ⟨_, rfl⟩
            obtain ⟨nr, hnr⟩ : ∃ n, n = r.1.2.length := ⟨_, rfl⟩
            have HNR := Lib.hid hnr
            rw [← hmr, ← hnr] at HST HFS
            rw [show (⟨#[126, 115, 111, 99, 107, 101, 116]⟩ : ByteArray) = ⟨#[126]⟩ ++ ⟨#[115, 111, 99, 107, 101, 116]⟩ from by kernel_rfl] at HST
            clear hstep hrk hfp hsp e1 e2 hr hf hmr hnr
            go_wp2_with (first
              | (go_at_call 19
                 (with_reducible refine (HFP1.out _ qp np cp (HON.out _ _ HG.out (thn16 BX.out (Below.refl _ _))) NP.out (LsAt.of_own OP.out NP.out)).mono ?_)
                 rintro e f4 ⟨rfl, b⟩
                 have D4 := Lib.hid (thn16 (Below.refl _ _) b)
                 clear b e0 e1 e2 e3 e4 e5 l0
                 have e0 := (D4.out.cell (p := ⟨w.heap.size, 0, none⟩) HLT.out.1).trans E0.out
                 have e1 := (D4.out.cell (p := ⟨w.heap.size, 1, none⟩) HLT.out.1).trans E1.out
                 have e2 := (D4.out.cell (p := ⟨ga, 0, none⟩) HLT.out.2.1).trans E2.out
                 have e3 := (D4.out.cell (p := ⟨ga, 1, none⟩) HLT.out.2.1).trans E3.out
                 have e4 := (D4.out.cell (p := ⟨gb, 0, none⟩) HLT.out.2.2).trans E4.out
                 have e5 := (D4.out.cell (p := ⟨gb, 1, none⟩) HLT.out.2.2).trans E5.out
                 have l0 : w.heap.size < f4.heap.size := Nat.lt_of_lt_of_le HLT.out.1 D4.out.size)
              | (go_at_call 19
                 (with_reducible refine (HFQ1.out _ qt nt ct (HON.out _ _ HG.out (thn16 BX.out D4.out)) NQ.out (LsAt.of_own (owns_on16 OQ.out D4.out) NQ.out)).mono ?_)
                 rintro e f5 ⟨rfl, b⟩
                 have D5 := Lib.hid (thn16 D4.out b)
                 clear b e0 e1 e2 e3 e4 e5 l0
                 have e0 := (D5.out.cell (p := ⟨w.heap.size, 0, none⟩) HLT.out.1).trans E0.out
                 have e1 := (D5.out.cell (p := ⟨w.heap.size, 1, none⟩) HLT.out.1).trans E1.out
                 have e2 := (D5.out.cell (p := ⟨ga, 0, none⟩) HLT.out.2.1).trans E2.out
                 have e3 := (D5.out.cell (p := ⟨ga, 1, none⟩) HLT.out.2.1).trans E3.out
                 have e4 := (D5.out.cell (p := ⟨gb, 0, none⟩) HLT.out.2.2).trans E4.out
                 have e5 := (D5.out.cell (p := ⟨gb, 1, none⟩) HLT.out.2.2).trans E5.out
                 have l0 : w.heap.size < f5.heap.size := Nat.lt_of_lt_of_le HLT.out.1 D5.out.size)
              | (go_at_call 19
                 (with_reducible refine (HFL.out _ (HON.out _ _ HG.out (thn16 BX.out D5.out)) (HRD.out.on (thn16 BX.out D5.out))).mono ?_)
                 rintro e f6 ⟨rfl, b⟩
                 have D6 := Lib.hid (thn16 D5.out b)
                 clear b e0 e1 e2 e3 e4 e5 l0
                 have e0 := (D6.out.cell (p := ⟨w.heap.size, 0, none⟩) HLT.out.1).trans E0.out
                 have e1 := (D6.out.cell (p := ⟨w.heap.size, 1, none⟩) HLT.out.1).trans E1.out
                 have e2 := (D6.out.cell (p := ⟨ga, 0, none⟩) HLT.out.2.1).trans E2.out
                 have e3 := (D6.out.cell (p := ⟨ga, 1, none⟩) HLT.out.2.1).trans E3.out
                 have e4 := (D6.out.cell (p := ⟨gb, 0, none⟩) HLT.out.2.2).trans E4.out
                 have e5 := (D6.out.cell (p := ⟨gb, 1, none⟩) HLT.out.2.2).trans E5.out
                 have l0 : w.heap.size < f6.heap.size := Nat.lt_of_lt_of_le HLT.out.1 D6.out.size)
              | (go_at_call 19
                 (with_reducible refine (HFP2.out _ qp np cp (HON.out _ _ HG.out (thn16 BX.out D6.out)) NP.out (LsAt.of_own (owns_on16 OP.out D6.out) NP.out)).mono ?_)
                 rintro e f7 ⟨rfl, b⟩
                 have D7 := Lib.hid (thn16 D6.out b)
                 clear b e0 e1 e2 e3 e4 e5 l0
                 have e0 := (D7.out.cell (p := ⟨w.heap.size, 0, none⟩) HLT.out.1).trans E0.out
                 have e1 := (D7.out.cell (p := ⟨w.heap.size, 1, none⟩) HLT.out.1).trans E1.out
                 have e2 := (D7.out.cell (p := ⟨ga, 0, none⟩) HLT.out.2.1).trans E2.out
                 have e3 := (D7.out.cell (p := ⟨ga, 1, none⟩) HLT.out.2.1).trans E3.out
                 have e4 := (D7.out.cell (p := ⟨gb, 0, none⟩) HLT.out.2.2).trans E4.out
                 have e5 := (D7.out.cell (p := ⟨gb, 1, none⟩) HLT.out.2.2).trans E5.out
                 have l0 : w.heap.size < f7.heap.size := Nat.lt_of_lt_of_le HLT.out.1 D7.out.size)
              | (go_at_call 19
                 (with_reducible refine (HFQ2.out _ qt nt ct (HON.out _ _ HG.out (thn16 BX.out D7.out)) NQ.out (LsAt.of_own (owns_on16 OQ.out D7.out) NQ.out)).mono ?_)
                 rintro e f8 ⟨rfl, b⟩
                 have D8 := Lib.hid (thn16 D7.out b)
                 clear b e0 e1 e2 e3 e4 e5 l0
                 have e0 := (D8.out.cell (p := ⟨w.heap.size, 0, none⟩) HLT.out.1).trans E0.out
                 have e1 := (D8.out.cell (p := ⟨w.heap.size, 1, none⟩) HLT.out.1).trans E1.out
                 have e2 := (D8.out.cell (p := ⟨ga, 0, none⟩) HLT.out.2.1).trans E2.out
                 have e3 := (D8.out.cell (p := ⟨ga, 1, none⟩) HLT.out.2.1).trans E3.out
                 have e4 := (D8.out.cell (p := ⟨gb, 0, none⟩) HLT.out.2.2).trans E4.out
                 have e5 := (D8.out.cell (p := ⟨gb, 1, none⟩) HLT.out.2.2).trans E5.out
                 have l0 : w.heap.size < f8.heap.size := Nat.lt_of_lt_of_le HLT.out.1 D8.out.size)
              | (go_at_call 11
                 (with_reducible refine (HST.out _ (HON.out _ _ HG.out (thn16 BX.out (thn16 D8.out (below16 f8 (.cells #[.string ⟨#[114, 101, 97, 100]⟩, .string ⟨#[107, 105, 108, 108]⟩, .string ⟨#[115, 111, 99, 107, 101, 116]⟩] 9))))) (HRD.out.on (thn16 BX.out (thn16 D8.out (below16 f8 (.cells #[.string ⟨#[114, 101, 97, 100]⟩, .string ⟨#[107, 105, 108, 108]⟩, .string ⟨#[115, 111, 99, 107, 101, 116]⟩] 9)))))).mono ?_)
                 rintro e f10 ⟨q10, c10, vN10, rfl, o10, ⟨qN, cN, rfl, _⟩, b⟩
                 have O10 := Lib.hid o10
                 clear o10
                 have D10 := Lib.hid (thn16 (thn16 D8.out (below16 f8 (.cells #[.string ⟨#[114, 101, 97, 100]⟩, .string ⟨#[107, 105, 108, 108]⟩, .string ⟨#[115, 111, 99, 107, 101, 116]⟩] 9))) b)
                 clear b e0 e1 e2 e3 e4 e5 l0
                 have e0 := (D10.out.cell (p := ⟨w.heap.size, 0, none⟩) HLT.out.1).trans E0.out
                 have e1 := (D10.out.cell (p := ⟨w.heap.size, 1, none⟩) HLT.out.1).trans E1.out
                 have e2 := (D10.out.cell (p := ⟨ga, 0, none⟩) HLT.out.2.1).trans E2.out
                 have e3 := (D10.out.cell (p := ⟨ga, 1, none⟩) HLT.out.2.1).trans E3.out
                 have e4 := (D10.out.cell (p := ⟨gb, 0, none⟩) HLT.out.2.2).trans E4.out
                 have e5 := (D10.out.cell (p := ⟨gb, 1, none⟩) HLT.out.2.2).trans E5.out
                 have l0 : w.heap.size < f10.heap.size := Nat.lt_of_lt_of_le HLT.out.1 D10.out.size
                 have DA := Lib.hid (thn16 D10.out (below16 f10 (.cells #[.int .u8 mr, .slice q10 nr c10] 24))))
              | (go_at_call 19
                 (with_reducible refine (HFS.out _ q10 c10 (HON.out _ _ HG.out (thn16 BX.out DA.out)) (LsAt.of_own (owns_on16 O10.out (below16 f10 (.cells #[.int .u8 mr, .slice q10 nr c10] 24))) HNR.out)).mono ?_)
                 rintro e f11 ⟨rfl, b⟩
                 have D11 := Lib.hid (thn16 DA.out b)
                 clear b e0 e1 e2 e3 e4 e5 l0
                 have e0 := (D11.out.cell (p := ⟨w.heap.size, 0, none⟩) HLT.out.1).trans E0.out
                 have e1 := (D11.out.cell (p := ⟨w.heap.size, 1, none⟩) HLT.out.1).trans E1.out
                 have e2 := (D11.out.cell (p := ⟨ga, 0, none⟩) HLT.out.2.1).trans E2.out
                 have e3 := (D11.out.cell (p := ⟨ga, 1, none⟩) HLT.out.2.1).trans E3.out
                 have e4 := (D11.out.cell (p := ⟨gb, 0, none⟩) HLT.out.2.2).trans E4.out
                 have e5 := (D11.out.cell (p := ⟨gb, 1, none⟩) HLT.out.2.2).trans E5.out
                 have l0 : w.heap.size < f11.heap.size := Nat.lt_of_lt_of_le HLT.out.1 D11.out.size)
              | (go_at_call 16
                 (with_reducible refine (HAW.out _ (HON.out _ _ HG.out (thn16 BX.out D11.out))).mono ?_)
                 rintro e v9 ⟨rfl, b9⟩
                 have B9 := Lib.hid (thn16 (thn16 BX.out D11.out) b9)
                 clear b9))
            go_ret
            exact ⟨by first | rfl | simp, B9.out⟩
        | false =>
          rcases hrem with hj | hj | hj
          · have hstep := stepA_ok (sfx := true) (v := ⟨#[114, 101, 97, 100]⟩) (s := (m0, z0)) HOK.out
            have hrk := step_ok grpX_known true ⟨#[114, 101, 97, 100]⟩ (s := (m0, z0)) HOK.out
            have hfp := find_plain plain_read (X := grpX) true false (s := (m0, z0)) (Or.inr HM0.out)
            have hsp := congrArg Prod.snd (step_plain plain_read (X := grpX) true false (m0, z0))
            have e1 : (if (false : Bool) = true then bs (126 :: [114, 101, 97, 100]) else bs [114, 101, 97, 100]) = ⟨#[114, 101, 97, 100]⟩ := by kernel_rfl
            have e2 : bs [114, 101, 97, 100] = ⟨#[114, 101, 97, 100]⟩ := by kernel_rfl
            rw [e1] at hfp hsp
            rw [e2] at hfp
            simp only at hsp
            have HST := Lib.hid (fun (W : World) (g : G W) (h : LsAt W a0 z0) => step_n HCC.out m0 a0 len0 cap0 z0 ⟨#[114, 101, 97, 100]⟩ true W g HX0B.out W0S.out HL1.out HACT.out (by decide) h _ rfl _ rfl)
            obtain ⟨r, hr⟩ : ∃ r, r = stepA true ⟨#[114, 101, 97, 100]⟩ (m0, z0) := ⟨_, rfl⟩
            rw [← hstep] at hrk hfp hsp
            rw [← hr] at HST hrk hfp hsp
            have hf : findC r.1.2 ⟨#[114, 101, 97, 100]⟩ = none := by
              refine Eq.trans hfp ?_
              simp [HM0.out]
            have HFS := Lib.hid (fun (W : World) (q : Option Addr) (c : Nat) (g : G W) (h : LsAt W q r.1.2) => HCC.out.find r.1.1 q r.1.2.length c r.1.2 ⟨#[114, 101, 97, 100]⟩ W g (by have := hrk.mode; omega) rfl (by have := okl_le hrk; omega) (okl_lt hrk) h)
            rw [hf] at HFS
            rw [hsp] at HST
            simp only [Option.getD_some, Option.getD_none, Option.isSome_some, Option.isSome_none, List.map_nil] at HFS HST
            rw [show (((0 : Nat) : Nat) : Int) = 0 from rfl] at HFS
            unfold lsV at HST HFS
            rw [← HMI.out] at HST
            obtain ⟨mr, hmr⟩ : ∃ x : Int, x = (r.1.1 : Nat) := ⟨_, rfl⟩
            obtain ⟨nr, hnr⟩ : ∃ n, n = r.1.2.length := ⟨_, rfl⟩
            have HNR := Lib.hid hnr
            rw [← hmr, ← hnr] at HST HFS
            clear hstep hrk hfp hsp e1 e2 hr hf hmr hnr
            go_wp2_with (first
              | (go_at_call 19
                 (with_reducible refine (HFP1.out _ qp np cp (HON.out _ _ HG.out (thn16 BX.out (Below.refl _ _))) NP.out (LsAt.of_own OP.out NP.out)).mono ?_)
                 rintro e f4 ⟨rfl, b⟩
                 have D4 := Lib.hid (thn16 (Below.refl _ _) b)
                 clear b e0 e1 e2 e3 e4 e5 l0
                 have e0 := (D4.out.cell (p := ⟨w.heap.size, 0, none⟩) HLT.out.1).trans E0.out
                 have e1 := (D4.out.cell (p := ⟨w.heap.size, 1, none⟩) HLT.out.1).trans E1.out
                 have e2 := (D4.out.cell (p := ⟨ga, 0, none⟩) HLT.out.2.1).trans E2.out
                 have e3 := (D4.out.cell (p := ⟨ga, 1, none⟩) HLT.out.2.1).trans E3.out
                 have e4 := (D4.out.cell (p := ⟨gb, 0, none⟩) HLT.out.2.2).trans E4.out
                 have e5 := (D4.out.cell (p := ⟨gb, 1, none⟩) HLT.out.2.2).trans E5.out
                 have l0 : w.heap.size < f4.heap.size := Nat.lt_of_lt_of_le HLT.out.1 D4.out.size)
              | (go_at_call 19
                 (with_reducible refine (HFQ1.out _ qt nt ct (HON.out _ _ HG.out (thn16 BX.out D4.out)) NQ.out (LsAt.of_own (owns_on16 OQ.out D4.out) NQ.out)).mono ?_)
                 rintro e f5 ⟨rfl, b⟩
                 have D5 := Lib.hid (thn16 D4.out b)
                 clear b e0 e1 e2 e3 e4 e5 l0
                 have e0 := (D5.out.cell (p := ⟨w.heap.size, 0, none⟩) HLT.out.1).trans E0.out
                 have e1 := (D5.out.cell (p := ⟨w.heap.size, 1, none⟩) HLT.out.1).trans E1.out
                 have e2 := (D5.out.cell (p := ⟨ga, 0, none⟩) HLT.out.2.1).trans E2.out
                 have e3 := (D5.out.cell (p := ⟨ga, 1, none⟩) HLT.out.2.1).trans E3.out
                 have e4 := (D5.out.cell (p := ⟨gb, 0, none⟩) HLT.out.2.2).trans E4.out
                 have e5 := (D5.out.cell (p := ⟨gb, 1, none⟩) HLT.out.2.2).trans E5.out
                 have l0 : w.heap.size < f5.heap.size := Nat.lt_of_lt_of_le HLT.out.1 D5.out.size)
              | (go_at_call 19
                 (with_reducible refine (HFL.out _ (HON.out _ _ HG.out (thn16 BX.out D5.out)) (HRD.out.on (thn16 BX.out D5.out))).mono ?_)
                 rintro e f6 ⟨rfl, b⟩
                 have D6 := Lib.hid (thn16 D5.out b)
                 clear b e0 e1 e2 e3 e4 e5 l0
                 have e0 := (D6.out.cell (p := ⟨w.heap.size, 0, none⟩) HLT.out.1).trans E0.out
                 have e1 := (D6.out.cell (p := ⟨w.heap.size, 1, none⟩) HLT.out.1).trans E1.out
                 have e2 := (D6.out.cell (p := ⟨ga, 0, none⟩) HLT.out.2.1).trans E2.out
                 have e3 := (D6.out.cell (p := ⟨ga, 1, none⟩) HLT.out.2.1).trans E3.out
                 have e4 := (D6.out.cell (p := ⟨gb, 0, none⟩) HLT.out.2.2).trans E4.out
                 have e5 := (D6.out.cell (p := ⟨gb, 1, none⟩) HLT.out.2.2).trans E5.out
                 have l0 : w.heap.size < f6.heap.size := Nat.lt_of_lt_of_le HLT.out.1 D6.out.size)
              | (go_at_call 19
                 (with_reducible refine (HFP2.out _ qp np cp (HON.out _ _ HG.out (thn16 BX.out D6.out)) NP.out (LsAt.of_own (owns_on16 OP.out D6.out) NP.out)).mono ?_)
                 rintro e f7 ⟨rfl, b⟩
                 have D7 := Lib.hid (thn16 D6.out b)
                 clear b e0 e1 e2 e3 e4 e5 l0
                 have e0 := (D7.out.cell (p := ⟨w.heap.size, 0, none⟩) HLT.out.1).trans E0.out
                 have e1 := (D7.out.cell (p := ⟨w.heap.size, 1, none⟩) HLT.out.1).trans E1.out
                 have e2 := (D7.out.cell (p := ⟨ga, 0, none⟩) HLT.out.2.1).trans E2.out
                 have e3 := (D7.out.cell (p := ⟨ga, 1, none⟩) HLT.out.2.1).trans E3.out
                 have e4 := (D7.out.cell (p := ⟨gb, 0, none⟩) HLT.out.2.2).trans E4.out
                 have e5 := (D7.out.cell (p := ⟨gb, 1, none⟩) HLT.out.2.2).trans E5.out
                 have l0 : w.heap.size < f7.heap.size := Nat.lt_of_lt_of_le HLT.out.1 D7.out.size)
              | (go_at_call 19
                 (with_reducible refine (HFQ2.out _ qt nt ct (HON.out _ _ HG.out (thn16 BX.out D7.out)) NQ.out (LsAt.of_own (owns_on16 OQ.out D7.out) NQ.out)).mono ?_)
                 rintro e f8 ⟨rfl, b⟩
                 have D8 := Lib.hid (thn16 D7.out b)
                 clear b e0 e1 e2 e3 e4 e5 l0
                 have e0 := (D8.out.cell (p := ⟨w.heap.size, 0, none⟩) HLT.out.1).trans E0.out
                 have e1 := (D8.out.cell (p := ⟨w.heap.size, 1, none⟩) HLT.out.1).trans E1.out
                 have e2 := (D8.out.cell (p := ⟨ga, 0, none⟩) HLT.out.2.1).trans E2.out
                 have e3 := (D8.out.cell (p := ⟨ga, 1, none⟩) HLT.out.2.1).trans E3.out
                 have e4 := (D8.out.cell (p := ⟨gb, 0, none⟩) HLT.out.2.2).trans E4.out
                 have e5 := (D8.out.cell (p := ⟨gb, 1, none⟩) HLT.out.2.2).trans E5.out
                 have l0 : w.heap.size < f8.heap.size := Nat.lt_of_lt_of_le HLT.out.1 D8.out.size)
              | (go_at_call 11
                 (with_reducible refine (HST.out _ (HON.out _ _ HG.out (thn16 BX.out (thn16 D8.out (below16 f8 (.cells #[.string ⟨#[114, 101, 97, 100]⟩, .string ⟨#[107, 105, 108, 108]⟩, .string ⟨#[115, 111, 99, 107, 101, 116]⟩] 9))))) (HRD.out.on (thn16 BX.out (thn16 D8.out (below16 f8 (.cells #[.string ⟨#[114, 101, 97, 100]⟩, .string ⟨#[107, 105, 108, 108]⟩, .string ⟨#[115, 111, 99, 107, 101, 116]⟩] 9)))))).mono ?_)
                 rintro e f10 ⟨q10, c10, vN10, rfl, o10, ⟨qN, cN, rfl, _⟩, b⟩
                 have O10 := Lib.hid o10
                 clear o10
                 have D10 := Lib.hid (thn16 (thn16 D8.out (below16 f8 (.cells #[.string ⟨#[114, 101, 97, 100]⟩, .string ⟨#[107, 105, 108, 108]⟩, .string ⟨#[115, 111, 99, 107, 101, 116]⟩] 9))) b)
                 clear b e0 e1 e2 e3 e4 e5 l0
                 have e0 := (D10.out.cell (p := ⟨w.heap.size, 0, none⟩) HLT.out.1).trans E0.out
                 have e1 := (D10.out.cell (p := ⟨w.heap.size, 1, none⟩) HLT.out.1).trans E1.out
                 have e2 := (D10.out.cell (p := ⟨ga, 0, none⟩) HLT.out.2.1).trans E2.out
                 have e3 := (D10.out.cell (p := ⟨ga, 1, none⟩) HLT.out.2.1).trans E3.out
                 have e4 := (D10.out.cell (p := ⟨gb, 0, none⟩) HLT.out.2.2).trans E4.out
                 have e5 := (D10.out.cell (p := ⟨gb, 1, none⟩) HLT.out.2.2).trans E5.out
                 have l0 : w.heap.size < f10.heap.size := Nat.lt_of_lt_of_le HLT.out.1 D10.out.size
                 have DA := Lib.hid (thn16 D10.out (below16 f10 (.cells #[.int .u8 mr, .slice q10 nr c10] 24))))
              | (go_at_call 19
                 (with_reducible refine (HFS.out _ q10 c10 (HON.out _ _ HG.out (thn16 BX.out DA.out)) (LsAt.of_own (owns_on16 O10.out (below16 f10 (.cells #[.int .u8 mr, .slice q10 nr c10] 24))) HNR.out)).mono ?_)
                 rintro e f11 ⟨rfl, b⟩
                 have D11 := Lib.hid (thn16 DA.out b)
                 clear b e0 e1 e2 e3 e4 e5 l0
                 have e0 := (D11.out.cell (p := ⟨w.heap.size, 0, none⟩) HLT.out.1).trans E0.out
                 have e1 := (D11.out.cell (p := ⟨w.heap.size, 1, none⟩) HLT.out.1).trans E1.out
                 have e2 := (D11.out.cell (p := ⟨ga, 0, none⟩) HLT.out.2.1).trans E2.out
                 have e3 := (D11.out.cell (p := ⟨ga, 1, none⟩) HLT.out.2.1).trans E3.out
                 have e4 := (D11.out.cell (p := ⟨gb, 0, none⟩) HLT.out.2.2).trans E4.out
                 have e5 := (D11.out.cell (p := ⟨gb, 1, none⟩) HLT.out.2.2).trans E5.out
                 have l0 : w.heap.size < f11.heap.size := Nat.lt_of_lt_of_le HLT.out.1 D11.out.size)
              | (go_at_call 16
                 (with_reducible refine (HAW.out _ (HON.out _ _ HG.out (thn16 BX.out D11.out))).mono ?_)
                 rintro e v9 ⟨rfl, b9⟩
                 have B9 := Lib.hid (thn16 (thn16 BX.out D11.out) b9)
                 clear b9))
            go_ret
            exact ⟨by first | rfl | simp, B9.out⟩
          · have hstep := stepA_ok (sfx := true) (v := ⟨#[107, 105, 108, 108]⟩) (s := (m0, z0)) HOK.out
            have hrk := step_ok grpX_known true ⟨#[107, 105, 108, 108]⟩ (s := (m0, z0)) HOK.out
            have hfp := find_plain plain_kill (X := grpX) true false (s := (m0, z0)) (Or.inr HM0.out)
            have hsp := congrArg Prod.snd (step_plain plain_kill (X := grpX) true false (m0, z0))
            have e1 : (if (false : Bool) = true then bs (126 :: [107, 105, 108, 108]) else bs [107, 105, 108, 108]) = ⟨#[107, 105, 108, 108]⟩ := by kernel_rfl
            have e2 : bs [107, 105, 108, 108] = ⟨#[107, 105, 108, 108]⟩ := by kernel_rfl
            rw [e1] at hfp hsp
            rw [e2] at hfp
            simp only at hsp
            have HST := Lib.hid (fun (W : World) (g : G W) (h : LsAt W a0 z0) => step_n HCC.out m0 a0 len0 cap0 z0 ⟨#[107, 105, 108, 108]⟩ true W g HX0B.out W0S.out HL1.out HACT.out (by decide) h _ rfl _ rfl)
            obtain ⟨r, hr⟩ : ∃ r, r = stepA true ⟨#[107, 105, 108, 108]⟩ (m0, z0) := ⟨_, rfl⟩
            rw [← hstep] at hrk hfp hsp
            rw [← hr] at HST hrk hfp hsp
            have hf : findC r.1.2 ⟨#[107, 105, 108, 108]⟩ = none := by
              refine Eq.trans hfp ?_
              simp [HM0.out]
            have HFS := Lib.hid (fun (W : World) (q : Option Addr) (c : Nat) (g : G W) (h : LsAt W q r.1.2) => HCC.out.find r.1.1 q r.1.2.length c r.1.2 ⟨#[107, 105, 108, 108]⟩ W g (by have := hrk.mode; omega) rfl (by have := okl_le hrk; omega) (okl_lt hrk) h)
            rw [hf] at HFS
            rw [hsp] at HST
            simp only [Option.getD_some, Option.getD_none, Option.isSome_some, Option.isSome_none, List.map_nil] at HFS HST
            rw [show (((0 : Nat) : Nat) : Int) = 0 from rfl] at HFS
            unfold lsV at HST HFS
            rw [← HMI.out] at HST
            obtain ⟨mr, hmr⟩ : ∃ x : Int, x = (r.1.1 : Nat) := ⟨_, rfl⟩
            obtain ⟨nr, hnr⟩ : ∃ n, n = r.1.2.length := ⟨_, rfl⟩
            have HNR := Lib.hid hnr
            rw [← hmr, ← hnr] at HST HFS
            clear hstep hrk hfp hsp e1 e2 hr hf hmr hnr
            go_wp2_with (first
              | (go_at_call 19
                 (with_reducible refine (HFP1.out _ qp np cp (HON.out _ _ HG.out (thn16 BX.out (Below.refl _ _))) NP.out (LsAt.of_own OP.out NP.out)).mono ?_)
                 rintro e f4 ⟨rfl, b⟩
                 have D4 := Lib.hid (thn16 (Below.refl _ _) b)
                 clear b e0 e1 e2 e3 e4 e5 l0
                 have e0 := (D4.out.cell (p := ⟨w.heap.size, 0, none⟩) HLT.out.1).trans E0.out
                 have e1 := (D4.out.cell (p := ⟨w.heap.size, 1, none⟩) HLT.out.1).trans E1.out
                 have e2 := (D4.out.cell (p := ⟨ga, 0, none⟩) HLT.out.2.1).trans E2.out
                 have e3 := (D4.out.cell (p := ⟨ga, 1, none⟩) HLT.out.2.1).trans E3.out
                 have e4 := (D4.out.cell (p := ⟨gb, 0, none⟩) HLT.out.2.2).trans E4.out
                 have e5 := (D4.out.cell (p := ⟨gb, 1, none⟩) HLT.out.2.2).trans E5.out
                 have l0 : w.heap.size < f4.heap.size := Nat.lt_of_lt_of_le HLT.out.1 D4.out.size)
              | (go_at_call 19
                 (with_reducible refine (HFQ1.out _ qt nt ct (HON.out _ _ HG.out (thn16 BX.out D4.out)) NQ.out (LsAt.of_own (owns_on16 OQ.out D4.out) NQ.out)).mono ?_)
                 rintro e f5 ⟨rfl, b⟩
                 have D5 := Lib.hid (thn16 D4.out b)
                 clear b e0 e1 e2 e3 e4 e5 l0
                 have e0 := (D5.out.cell (p := ⟨w.heap.size, 0, none⟩) HLT.out.1).trans E0.out
                 have e1 := (D5.out.cell (p := ⟨w.heap.size, 1, none⟩) HLT.out.1).trans E1.out
                 have e2 := (D5.out.cell (p := ⟨ga, 0, none⟩) HLT.out.2.1).trans E2.out
                 have e3 := (D5.out.cell (p := ⟨ga, 1, none⟩) HLT.out.2.1).trans E3.out
                 have e4 := (D5.out.cell (p := ⟨gb, 0, none⟩) HLT.out.2.2).trans E4.out
                 have e5 := (D5.out.cell (p := ⟨gb, 1, none⟩) HLT.out.2.2).trans E5.out
                 have l0 : w.heap.size < f5.heap.size := Nat.lt_of_lt_of_le HLT.out.1 D5.out.size)
              | (go_at_call 19
                 (with_reducible refine (HFL.out _ (HON.out _ _ HG.out (thn16 BX.out D5.out)) (HRD.out.on (thn16 BX.out D5.out))).mono ?_)
                 rintro e f6 ⟨rfl, b⟩
                 have D6 := Lib.hid (thn16 D5.out b)
                 clear b e0 e1 e2 e3 e4 e5 l0
                 have e0 := (D6.out.cell (p := ⟨w.heap.size, 0, none⟩) HLT.out.1).trans E0.out
                 have e1 := (D6.out.cell (p := ⟨w.heap.size, 1, none⟩) HLT.out.1).trans E1.out
                 have e2 := (D6.out.cell (p := ⟨ga, 0, none⟩) HLT.out.2.1).trans E2.out
                 have e3 := (D6.out.cell (p := ⟨ga, 1, none⟩) HLT.out.2.1).trans E3.out
                 have e4 := (D6.out.cell (p := ⟨gb, 0, none⟩) HLT.out.2.2).trans E4.out
                 have e5 := (D6.out.cell (p := ⟨gb, 1, none⟩) HLT.out.2.2).trans E5.out
                 have l0 : w.heap.size < f6.heap.size := Nat.lt_of_lt_of_le HLT.out.1 D6.out.size)
              | (go_at_call 19
                 (with_reducible refine (HFP2.out _ qp np cp (HON.out _ _ HG.out (thn16 BX.out D6.out)) NP.out (LsAt.of_own (owns_on16 OP.out D6.out) NP.out)).mono ?_)
                 rintro e f7 ⟨rfl, b⟩
                 have D7 := Lib.hid (thn16 D6.out b)
                 clear b e0 e1 e2 e3 e4 e5 l0
                 have e0 := (D7.out.cell (p := ⟨w.heap.size, 0, none⟩) HLT.out.1).trans E0.out
                 have e1 := (D7.out.cell (p := ⟨w.heap.size, 1, none⟩) HLT.out.1).trans E1.out
                 have e2 := (D7.out.cell (p := ⟨ga, 0, none⟩) HLT.out.2.1).trans E2.out
                 have e3 := (D7.out.cell (p := ⟨ga, 1, none⟩) HLT.out.2.1).trans E3.out
                 have e4 := (D7.out.cell (p := ⟨gb, 0, none⟩) HLT.out.2.2).trans E4.out
                 have e5 := (D7.out.cell (p := ⟨gb, 1, none⟩) HLT.out.2.2).trans E5.out
                 have l0 : w.heap.size < f7.heap.size := Nat.lt_of_lt_of_le HLT.out.1 D7.out.size)
              | (go_at_call 19
                 (with_reducible refine (HFQ2.out _ qt nt ct (HON.out _ _ HG.out (thn16 BX.out D7.out)) NQ.out (LsAt.of_own (owns_on16 OQ.out D7.out) NQ.out)).mono ?_)
                 rintro e f8 ⟨rfl, b⟩
                 have D8 := Lib.hid (thn16 D7.out b)
                 clear b e0 e1 e2 e3 e4 e5 l0
                 have e0 := (D8.out.cell (p := ⟨w.heap.size, 0, none⟩) HLT.out.1).trans E0.out
                 have e1 := (D8.out.cell (p := ⟨w.heap.size, 1, none⟩) HLT.out.1).trans E1.out
                 have e2 := (D8.out.cell (p := ⟨ga, 0, none⟩) HLT.out.2.1).trans E2.out
                 have e3 := (D8.out.cell (p := ⟨ga, 1, none⟩) HLT.out.2.1).trans E3.out
                 have e4 := (D8.out.cell (p := ⟨gb, 0, none⟩) HLT.out.2.2).trans E4.out
                 have e5 := (D8.out.cell (p := ⟨gb, 1, none⟩) HLT.out.2.2).trans E5.out
                 have l0 : w.heap.size < f8.heap.size := Nat.lt_of_lt_of_le HLT.out.1 D8.out.size)
              | (go_at_call 11
                 (with_reducible refine (HST.out _ (HON.out _ _ HG.out (thn16 BX.out (thn16 D8.out (below16 f8 (.cells #[.string ⟨#[114, 101, 97, 100]⟩, .string ⟨#[107, 105, 108, 108]⟩, .string ⟨#[115, 111, 99, 107, 101, 116]⟩] 9))))) (HRD.out.on (thn16 BX.out (thn16 D8.out (below16 f8 (.cells #[.string ⟨#[114, 101, 97, 100]⟩, .string ⟨#[107, 105, 108, 108]⟩, .string ⟨#[115, 111, 99, 107, 101, 116]⟩] 9)))))).mono ?_)
                 rintro e f10 ⟨q10, c10, vN10, rfl, o10, ⟨qN, cN, rfl, _⟩, b⟩
                 have O10 := Lib.hid o10
                 clear o10
                 have D10 := Lib.hid (thn16 (thn16 D8.out (below16 f8 (.cells #[.string ⟨#[114, 101, 97, 100]⟩, .string ⟨#[107, 105, 108, 108]⟩, .string ⟨#[115, 111, 99, 107, 101, 116]⟩] 9))) b)
                 clear b e0 e1 e2 e3 e4 e5 l0
                 have e0 := (D10.out.cell (p := ⟨w.heap.size, 0, none⟩) HLT.out.1).trans E0.out
                 have e1 := (D10.out.cell (p := ⟨w.heap.size, 1, none⟩) HLT.out.1).trans E1.out
                 have e2 := (D10.out.cell (p := ⟨ga, 0, none⟩) HLT.out.2.1).trans E2.out
                 have e3 := (D10.out.cell (p := ⟨ga, 1, none⟩) HLT.out.2.1).trans E3.out
                 have e4 := (D10.out.cell (p := ⟨gb, 0, none⟩) HLT.out.2.2).trans E4.out
                 have e5 := (D10.out.cell (p := ⟨gb, 1, none⟩) HLT.out.2.2).trans E5.out
                 have l0 : w.heap.size < f10.heap.size := Nat.lt_of_lt_of_le HLT.out.1 D10.out.size
                 have DA := Lib.hid (thn16 D10.out (below16 f10 (.cells #[.int .u8 mr, .slice q10 nr c10] 24))))
              | (go_at_call 19
                 (with_reducible refine (HFS.out _ q10 c10 (HON.out _ _ HG.out (thn16 BX.out DA.out)) (LsAt.of_own (owns_on16 O10.out (below16 f10 (.cells #[.int .u8 mr, .slice q10 nr c10] 24))) HNR.out)).mono ?_)
                 rintro e f11 ⟨rfl, b⟩
                 have D11 := Lib.hid (thn16 DA.out b)
                 clear b e0 e1 e2 e3 e4 e5 l0
                 have e0 := (D11.out.cell (p := ⟨w.heap.size, 0, none⟩) HLT.out.1).trans E0.out
                 have e1 := (D11.out.cell (p := ⟨w.heap.size, 1, none⟩) HLT.out.1).trans E1.out
                 have e2 := (D11.out.cell (p := ⟨ga, 0, none⟩) HLT.out.2.1).trans E2.out
                 have e3 := (D11.out.cell (p := ⟨ga, 1, none⟩) HLT.out.2.1).trans E3.out
                 have e4 := (D11.out.cell (p := ⟨gb, 0, none⟩) HLT.out.2.2).trans E4.out
                 have e5 := (D11.out.cell (p := ⟨gb, 1, none⟩) HLT.out.2.2).trans E5.out
                 have l0 : w.heap.size < f11.heap.size := Nat.lt_of_lt_of_le HLT.out.1 D11.out.size)
              | (go_at_call 16
                 (with_reducible refine (HAW.out _ (HON.out _ _ HG.out (thn16 BX.out D11.out))).mono ?_)
                 rintro e v9 ⟨rfl, b9⟩
                 have B9 := Lib.hid (thn16 (thn16 BX.out D11.out) b9)
                 clear b9))
            go_ret
            exact ⟨by first | rfl | simp, B9.out⟩
          · have hstep := stepA_ok (sfx := true) (v := ⟨#[115, 111, 99, 107, 101, 116]⟩) (s := (m0, z0)) HOK.out
            have hrk := step_ok grpX_known true ⟨#[115, 111, 99, 107, 101, 116]⟩ (s := (m0, z0)) HOK.out
            have hfp := find_plain plain_socket (X := grpX) true false (s := (m0, z0)) (Or.inr HM0.out)
            have hsp := congrArg Prod.snd (step_plain plain_socket (X := grpX) true false (m0, z0))
            have e1 : (if (false : Bool) = true then bs (126 :: [115, 111, 99, 107, 101, 116]) else bs [115, 111, 99, 107, 101, 116]) = ⟨#[115, 111, 99, 107, 101, 116]⟩ := by kernel_rfl
            have e2 : bs [115, 111, 99, 107, 101, 116] = ⟨#[115, 111, 99, 107, 101, 116]⟩ := by kernel_rfl
            rw [e1] at hfp hsp
            rw [e2] at hfp
            simp only at hsp
            have HST := Lib.hid (fun (W : World) (g : G W) (h : LsAt W a0 z0) => step_n HCC.out m0 a0 len0 cap0 z0 ⟨#[115, 111, 99, 107, 101, 116]⟩ true W g HX0B.out W0S.out HL1.out HACT.out (by decide) h _ rfl _ rfl)
            obtain ⟨r, hr⟩ : ∃ r, r = stepA true ⟨#[115, 111, 99, 107, 101, 116]⟩ (m0, z0) := ⟨_, rfl⟩
            rw [← hstep] at hrk hfp hsp
            rw [← hr] at HST hrk hfp hsp
            have hf : findC r.1.2 ⟨#[115, 111, 99, 107, 101, 116]⟩ = none := by
              refine Eq.trans hfp ?_
              simp [HM0.out]
            have HFS := Lib.hid (fun (W : World) (q : Option Addr) (c : Nat) (g : G W) (h : LsAt W q r.1.2) => HCC.out.find r.1.1 q r.1.2.length c r.1.2 ⟨#[115, 111, 99, 107, 101, 116]⟩ W g (by have := hrk.mode; omega) rfl (by have := okl_le hrk; omega) (okl_lt hrk) h)
            rw [hf] at HFS
            rw [hsp] at HST
            simp only [Option.getD_some, Option.getD_none, Option.isSome_some, Option.isSome_none, List.map_nil] at HFS HST
            rw [show (((0 : Nat) : Nat) : Int) = 0 from rfl] at HFS
            unfold lsV at HST HFS
            rw [← HMI.out] at HST
            obtain ⟨mr, hmr⟩ : ∃ x : Int, x = (r.1.1 : Nat) := ⟨_, rfl⟩
            obtain ⟨nr, hnr⟩ : ∃ n, n = r.1.2.length := ⟨_, rfl⟩
            have HNR := Lib.hid hnr
            rw [← hmr, ← hnr] at HST HFS
            clear hstep hrk hfp hsp e1 e2 hr hf hmr hnr
            go_wp2_with (first
              | (go_at_call 19
                 (with_reducible refine (HFP1.out _ qp np cp (HON.out _ _ HG.out (thn16 BX.out (Below.refl _ _))) NP.out (LsAt.of_own OP.out NP.out)).mono ?_)
                 rintro e f4 ⟨rfl, b⟩
                 have D4 := Lib.hid (thn16 (Below.refl _ _) b)
                 clear b e0 e1 e2 e3 e4 e5 l0
                 have e0 := (D4.out.cell (p := ⟨w.heap.size, 0, none⟩) HLT.out.1).trans E0.out
                 have e1 := (D4.out.cell (p := ⟨w.heap.size, 1, none⟩) HLT.out.1).trans E1.out
                 have e2 := (D4.out.cell (p := ⟨ga, 0, none⟩) HLT.out.2.1).trans E2.out
                 have e3 := (D4.out.cell (p := ⟨ga, 1, none⟩) HLT.out.2.1).trans E3.out
                 have e4 := (D4.out.cell (p := ⟨gb, 0, none⟩) HLT.out.2.2).trans E4.out
                 have e5 := (D4.out.cell (p := ⟨gb, 1, none⟩) HLT.out.2.2).trans E5.out
                 have l0 : w.heap.size < f4.heap.size := Nat.lt_of_lt_of_le HLT.out.1 D4.out.size)
              | (go_at_call 19
                 (with_reducible refine (HFQ1.out _ qt nt ct (HON.out _ _ HG.out (thn16 BX.out D4.out)) NQ.out (LsAt.of_own (owns_on16 OQ.out D4.out) NQ.out)).mono ?_)
                 rintro e f5 ⟨rfl, b⟩
                 have D5 := Lib.hid (thn16 D4.out b)
                 clear b e0 e1 e2 e3 e4 e5 l0
                 have e0 := (D5.out.cell (p := ⟨w.heap.size, 0, none⟩) HLT.out.1).trans E0.out
                 have e1 := (D5.out.cell (p := ⟨w.heap.size, 1, none⟩) HLT.out.1).trans E1.out
                 have e2 := (D5.out.cell (p := ⟨ga, 0, none⟩) HLT.out.2.1).trans E2.out
                 have e3 := (D5.out.cell (p := ⟨ga, 1, none⟩) HLT.out.2.1).trans E3.out
                 have e4 := (D5.out.cell (p := ⟨gb, 0, none⟩) HLT.out.2.2).trans E4.out
                 have e5 := (D5.out.cell (p := ⟨gb, 1, none⟩) HLT.out.2.2).trans E5.out
                 have l0 : w.heap.size < f5.heap.size := Nat.lt_of_lt_of_le HLT.out.1 D5.out.size)
              | (go_at_call 19
                 (with_reducible refine (HFL.out _ (HON.out _ _ HG.out (thn16 BX.out D5.out)) (HRD.out.on (thn16 BX.out D5.out))).mono ?_)
                 rintro e f6 ⟨rfl, b⟩
                 have D6 := Lib.hid (thn16 D5.out b)
                 clear b e0 e1 e2 e3 e4 e5 l0
                 have e0 := (D6.out.cell (p := ⟨w.heap.size, 0, none⟩) HLT.out.1).trans E0.out
                 have e1 := (D6.out.cell (p := ⟨w.heap.size, 1, none⟩) HLT.out.1).trans E1.out
                 have e2 := (D6.out.cell (p := ⟨ga, 0, none⟩) HLT.out.2.1).trans E2.out
                 have e3 := (D6.out.cell (p := ⟨ga, 1, none⟩) HLT.out.2.1).trans E3.out
                 have e4 := (D6.out.cell (p := ⟨gb, 0, none⟩) HLT.out.2.2).trans E4.out
                 have e5 := (D6.out.cell (p := ⟨gb, 1, none⟩) HLT.out.2.2).trans E5.out
                 have l0 : w.heap.size < f6.heap.size := Nat.lt_of_lt_of_le HLT.out.1 D6.out.size)
              | (go_at_call 19
                 (with_reducible refine (HFP2.out _ qp np cp (HON.out _ _ HG.out (thn16 BX.out D6.out)) NP.out (LsAt.of_own (owns_on16 OP.out D6.out) NP.out)).mono ?_)
                 rintro e f7 ⟨rfl, b⟩
                 have D7 := Lib.hid (thn16 D6.out b)
                 clear b e0 e1 e2 e3 e4 e5 l0
                 have e0 := (D7.out.cell (p := ⟨w.heap.size, 0, none⟩) HLT.out.1).trans E0.out
                 have e1 := (D7.out.cell (p := ⟨w.heap.size, 1, none⟩) HLT.out.1).trans E1.out
                 have e2 := (D7.out.cell (p := ⟨ga, 0, none⟩) HLT.out.2.1).trans E2.out
                 have e3 := (D7.out.cell (p := ⟨ga, 1, none⟩) HLT.out.2.1).trans E3.out
                 have e4 := (D7.out.cell (p := ⟨gb, 0, none⟩) HLT.out.2.2).trans E4.out
                 have e5 := (D7.out.cell (p := ⟨gb, 1, none⟩) HLT.out.2.2).trans E5.out
                 have l0 : w.heap.size < f7.heap.size := Nat.lt_of_lt_of_le HLT.out.1 D7.out.size)
              | (go_at_call 19
                 (with_reducible refine (HFQ2.out _ qt nt ct (HON.out _ _ HG.out (thn16 BX.out D7.out)) NQ.out (LsAt.of_own (owns_on16 OQ.out D7.out) NQ.out)).mono ?_)
                 rintro e f8 ⟨rfl, b⟩
                 have D8 := Lib.hid (thn16 D7.out b)
                 clear b e0 e1 e2 e3 e4 e5 l0
                 have e0 := (D8.out.cell (p := ⟨w.heap.size, 0, none⟩) HLT.out.1).trans E0.out
                 have e1 := (D8.out.cell (p := ⟨w.heap.size, 1, none⟩) HLT.out.1).trans E1.out
                 have e2 := (D8.out.cell (p := ⟨ga, 0, none⟩) HLT.out.2.1).trans E2.out
                 have e3 := (D8.out.cell (p := ⟨ga, 1, none⟩) HLT.out.2.1).trans E3.out
                 have e4 := (D8.out.cell (p := ⟨gb, 0, none⟩) HLT.out.2.2).trans E4.out
                 have e5 := (D8.out.cell (p := ⟨gb, 1, none⟩) HLT.out.2.2).trans E5.out
                 have l0 : w.heap.size < f8.heap.size := Nat.lt_of_lt_of_le HLT.out.1 D8.out.size)
              | (go_at_call 11
                 (with_reducible refine (HST.out _ (HON.out _ _ HG.out (thn16 BX.out (thn16 D8.out (below16 f8 (.cells #[.string ⟨#[114, 101, 97, 100]⟩, .string ⟨#[107, 105, 108, 108]⟩, .string ⟨#[115, 111, 99, 107, 101, 116]⟩] 9))))) (HRD.out.on (thn16 BX.out (thn16 D8.out (below16 f8 (.cells #[.string ⟨#[114, 101, 97, 100]⟩, .string ⟨#[107, 105, 108, 108]⟩, .string ⟨#[115, 111, 99, 107, 101, 116]⟩] 9)))))).mono ?_)
                 rintro e f10 ⟨q10, c10, vN10, rfl, o10, ⟨qN, cN, rfl, _⟩, b⟩
                 have O10 := Lib.hid o10
                 clear o10
                 have D10 := Lib.hid (thn16 (thn16 D8.out (below16 f8 (.cells #[.string ⟨#[114, 101, 97, 100]⟩, .string ⟨#[107, 105, 108, 108]⟩, .string ⟨#[115, 111, 99, 107, 101, 116]⟩] 9))) b)
                 clear b e0 e1 e2 e3 e4 e5 l0
                 have e0 := (D10.out.cell (p := ⟨w.heap.size, 0, none⟩) HLT.out.1).trans E0.out
                 have e1 := (D10.out.cell (p := ⟨w.heap.size, 1, none⟩) HLT.out.1).trans E1.out
                 have e2 := (D10.out.cell (p := ⟨ga, 0, none⟩) HLT.out.2.1).trans E2.out
                 have e3 := (D10.out.cell (p := ⟨ga, 1, none⟩) HLT.out.2.1).trans E3.out
                 have e4 := (D10.out.cell (p := ⟨gb, 0, none⟩) HLT.out.2.2).trans E4.out
                 have e5 := (D10.out.cell (p := ⟨gb, 1, none⟩) HLT.out.2.2).trans E5.out
                 have l0 : w.heap.size < f10.heap.size := Nat.lt_of_lt_of_le HLT.out.1 D10.out.size
                 have DA := Lib.hid (thn16 D10.out (below16 f10 (.cells #[.int .u8 mr, .slice q10 nr c10] 24))))
              | (go_at_call 19
                 (with_reducible refine (HFS.out _ q10 c10 (HON.out _ _ HG.out (thn16 BX.out DA.out)) (LsAt.of_own (owns_on16 O10.out (below16 f10 (.cells #[.int .u8 mr, .slice q10 nr c10] 24))) HNR.out)).mono ?_)
                 rintro e f11 ⟨rfl, b⟩
                 have D11 := Lib.hid (thn16 DA.out b)
                 clear b e0 e1 e2 e3 e4 e5 l0
                 have e0 := (D11.out.cell (p := ⟨w.heap.size, 0, none⟩) HLT.out.1).trans E0.out
                 have e1 := (D11.out.cell (p := ⟨w.heap.size, 1, none⟩) HLT.out.1).trans E1.out
                 have e2 := (D11.out.cell (p := ⟨ga, 0, none⟩) HLT.out.2.1).trans E2.out
                 have e3 := (D11.out.cell (p := ⟨ga, 1, none⟩) HLT.out.2.1).trans E3.out
                 have e4 := (D11.out.cell (p := ⟨gb, 0, none⟩) HLT.out.2.2).trans E4.out
                 have e5 := (D11.out.cell (p := ⟨gb, 1, none⟩) HLT.out.2.2).trans E5.out
                 have l0 : w.heap.size < f11.heap.size := Nat.lt_of_lt_of_le HLT.out.1 D11.out.size)
              | (go_at_call 16
                 (with_reducible refine (HAW.out _ (HON.out _ _ HG.out (thn16 BX.out D11.out))).mono ?_)
                 rintro e v9 ⟨rfl, b9⟩
                 have B9 := Lib.hid (thn16 (thn16 BX.out D11.out) b9)
                 clear b9))
            go_ret
            exact ⟨by first | rfl | simp, B9.out⟩

set_option maxRecDepth 100000 in
theorem lifted (HC : FoldC GN) (os : Os) (started : os.Started) (H : Type) (enc : TypeId × Value → H) :
    ReturnsInHanded {} Tryz.checked os 8 .any (fun w args => (Rows.foldOneSpec.pre enc Tryz.prog Tryz.f8 [] false w args ∧ laidMetH Tryz.prog listed16 w) ∧ sizedMet enc Tryz.prog Tryz.f8 (OpenSpec.ofChange Rows.foldOneSpec) false w args)
      (Rows.foldOneSpec.post enc Tryz.prog Tryz.f8 false true false false) := by
  refine returnsInHanded_of_change_and (C := Tryz.checked) (X := fun w _ => laidMetH Tryz.prog listed16 w) (fun _ _ _ hh h => h.of_heap hh) ownKnob_none started (by kernel_rfl) Tryz.func8
    (ChangeSpec.witness_shaped (enc := enc) (C := Tryz.checked) (os := os) (X := fun w _ => laidMetH Tryz.prog listed16 w) false (World.doorLaid Tryz.prog 4000 os) #[.agg #[.int .u8 0, .slice none 0 0], .string ⟨#[]⟩, .string ⟨#[]⟩, .int .u32 0, .bool false] 8 rfl (World.shaped_of_RefB (by kernel_rfl) (by kernel_rfl)) (by kernel_rfl) (by kernel_rfl) (by kernel_rfl) (door_met16 os _)) ?_
  intro W base args ds gs before hval0 hW _ _ hL _
  have hG : GN W := of_laid16 hL
  have hval : ∀ (j : Nat) t v, Tryz.f8.params[j]? = some t → args[j]? = some v → Value.okWide Tryz.prog W .any base t v := hval0
  have hW' := hW
  obtain ⟨p, q, hA0, hV, rfl, hfz, hnd⟩ := hW
  have hA : DataW.TrodAll enc Tryz.prog W 0 (fun _ => true) true Tryz.f8.params.toList args.toList ds p := hA0
  rw [Tryz.params8] at hA hval
  obtain ⟨v0, vs0, d0, ds0, p0, q0, hargs, rfl, rfl, h0, r0⟩ := trodAll_cons hA
  obtain ⟨v1, vs1, d1, ds1, p1, q1, rfl, rfl, rfl, h1, r1⟩ := trodAll_cons r0
  obtain ⟨v2, vs2, d2, ds2, p2, q2, rfl, rfl, rfl, h2, r2⟩ := trodAll_cons r1
  obtain ⟨v3, vs3, d3, ds3, p3, q3, rfl, rfl, rfl, h3, r3⟩ := trodAll_cons r2
  obtain ⟨v4, vs4, d4, ds4, p4, q4, rfl, rfl, rfl, h4, r4⟩ := trodAll_cons r3
  obtain ⟨rfl, rfl, rfl⟩ := trodAll_nil r4
  obtain rfl : args = #[v0, v1, v2, v3, v4] := by cases args; simp_all
  obtain ⟨rfl, rfl⟩ := trodVars_none hV
  have k0 := h0
  have lt0 : ∀ x ∈ p0, x.block < W.heap.size := by obtain ⟨m, hm⟩ := k0; exact DataW.trod_lt m _ _ _ hm
  obtain ⟨m0, a0, len0, cap0, z0, x0, w0, rfl⟩ := list_open (hval 0 24 v0 rfl rfl) h0 lt0
  obtain ⟨a1, rfl, rfl, rfl, w1⟩ := open_string Tryz.underlying9 (hval 1 9 v1 rfl rfl) h1
  obtain ⟨a2, rfl, rfl, rfl, w2⟩ := open_string Tryz.underlying9 (hval 2 9 v2 rfl rfl) h2
  obtain ⟨a3, rfl, rfl, rfl, w3⟩ := open_int Tryz.underlying38 (hval 3 38 v3 rfl rfl) h3
  obtain ⟨a4, rfl, rfl, rfl⟩ := open_bool Tryz.underlying4 (hval 4 4 v4 rfl rfl) h4
  have w4 := trivial
  clear hA0 hval0
  refine (walk HC m0 a0 len0 cap0 z0 a1 a2 a3 a4 W hG x0 w0 w1 w2 w3 w4).mono fun e W' ⟨he, bel⟩ => ?_
  subst he
  exact ⟨_, rfl, _, _, _, [], _, [], hW', trodAll_mk1 (shut_bool Tryz.underlying4 _), (trodAll_cons_mk (Below.trod laidOut (by kernel_rfl) (of_decide_eq_true (by kernel_rfl)) k0 bel lt0) (trodAll_cons_mk (shut_string Tryz.underlying9 w1) (trodAll_cons_mk (shut_string Tryz.underlying9 w2) (trodAll_cons_mk (shut_int Tryz.underlying38 w3) (trodAll_cons_mk (shut_bool Tryz.underlying4 _) trodAll_mk0))))), rfl, bel.frame _, fun h => by cases h⟩

theorem over (HC : FoldC GN) : Rows.foldOneRow.holds Tryz.pinned (OpenSpec.ofChange Rows.foldOneSpec) :=
  OpenClaim.holds_of_wide 8 Tryz.f8 rfl rfl rfl rfl rfl rfl rfl ⟨rfl, rfl, rfl, rfl, rfl⟩ rfl rfl rfl rfl rfl (by kernel_rfl) Tryz.func8 (by kernel_rfl)
    (of_decide_eq_true (by kernel_rfl)) (by unfold Func.isWrapper; first | (rw [if_pos (by decide +kernel)]; kernel_rfl) | (rw [if_neg (by decide +kernel)]; exact ⟨rfl, rfl⟩))
    (fun os started H enc _ => lifted HC os started H enc)

/-- The row's statement. -/
theorem row_holds : Rows.FoldOneSaid := over foldC
/-- The statement: the row, its table tied to the program's text. -/
theorem proved : Rows.FoldOneCardSaid :=
  Claim7.holds_tied_plain_at .later [] [.data, .data, .data, .sentinel, .sentinel, .data] true Rows.foldOneCard.stood.harness Rows.foldOneCard.stood.looks
    row_holds (fun _ h => by cases h) (by kernel_rfl) (fun _ h => by cases h) foldOne_row_tie rfl ⟨rfl, rfl⟩ (by kernel_rfl) rfl
    (fun f fn hf hfn => by
      obtain rfl : f = 8 := Option.some.inj ((show Tryz.prog.funcNamed "vestibule/vestibulelaw16.FoldOne" = some 8 by kernel_rfl).symm.trans hf) |>.symm
      obtain rfl : fn = Tryz.f8 := (Option.some.inj (Tryz.func8.symm.trans hfn)).symm
      exact ⟨by kernel_rfl, fun j t ht => by
        have hm : t ∈ Tryz.f8.params.toList := by simpa using Array.mem_of_getElem? ht
        have hall : (Tryz.f8.params.toList.all fun u => !Tryz.prog.wantsStandIn u) = true := by kernel_rfl
        exact (show Tryz.prog.wantsStandIn t = false by simpa using List.all_eq_true.1 hall t hm)⟩)
    (by kernel_rfl)
#print axioms proved
end Go.Proofs.YtickkaeaaemakaaGreatDoor.foldOne
