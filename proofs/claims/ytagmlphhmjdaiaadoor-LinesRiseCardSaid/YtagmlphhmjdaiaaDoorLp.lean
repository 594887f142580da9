/- The statement LinesRise holds, over what the calls have to return: the numbers of logical lines rise, and are numbers of lines; their texts have more than white space, none at either end, no byte 10. -/
import Derived.Test.YtagmlphhmjdaiaaDoorRows
import Derived.Test.YtagmlphhmjdaiaaDoorCards
import Derived.Test.YtagmlphhmjdaiaaDoorTie
import Derived.SevenTiedAt
import Derived.Test.YtagmlphhmjdaiaaDoorFr
import Derived.Test.YtagmlphhmjdaiaaDoorZn
import Derived.Test.YtagmlphhmjdaiaaDoorZm
import Derived.Test.YtagmlphhmjdaiaaDoorLj
import Derived.Test.YtagmlphhmjdaiaaDoorLl
import Derived.Test.YtagmlphhmjdaiaaDoorLn
import Derived.Test.YtagmlphhmjdaiaaDoorLo
namespace Go.Proofs.YtagmlphhmjdaiaaDoor.linesRise
set_option linter.unusedSimpArgs false
open Go.ChangeShapes Go.WideShapes Go.ChangeAt Go.RowKit
open Go.ChangeMaps (open_string shut_string)
set_option linter.unusedVariables false
attribute [local go_sem ↓] Go.wp_at_zero Go.wp_at_succ
theorem keep2 {v w w' : World} {p q : Addr} {u y : Value} (hb : Below w.heap.size w w') (h : w.cell? p = some u ∧ w.cell? q = some y ∧ Below v.heap.size v w) : w'.cell? p = some u ∧ w'.cell? q = some y ∧ Below v.heap.size v w' :=
  ⟨(hb.cell (World.block_lt_of_cell? w p h.1)).trans h.1, (hb.cell (World.block_lt_of_cell? w q h.2.1)).trans h.2.1, thn h.2.2 hb⟩
set_option maxRecDepth 100000 in
set_option maxHeartbeats 16000000 in
theorem walk {G : World → Prop} (HC : LinesC G) (a0 : Option Addr) (len0 cap0 : Nat) (z0 : List Int) (w : World) (hG : G w) (w0 : IsBytes w a0 len0 cap0 z0) :
    Calls Tryd.prog 5 #[.slice a0 len0 cap0] w fun e w' => e = .returned (.bool true) ∧ Below w.heap.size w w' := by
  have HAW := Lib.hid (fun (W : World) (g : G W) => awake12_any HC W g)
  have HON := Lib.hid (fun (w w' : World) => HC.on (w := w) (w' := w'))
  have HG := Lib.hid hG
  by_cases hlong : (5000 : Int) < len0
  · clear HC hG w0
    go_enter Tryd.func5, Tryd.ntmps5
    go_wp2_with (go_at_call 12; ((with_reducible refine (HAW.out _ HG.out).mono ?_); rintro e v1 ⟨rfl, b1⟩))
    go_ret
    exact ⟨rfl, b1⟩
  have hs : (len0 : Int) ≤ 5000 := by omega
  obtain ⟨l, rfl⟩ := byt_list w0.byt
  obtain ⟨hl0, hr0⟩ := rdb_of w0
  have HSP := Lib.hid (HC.split a0 len0 cap0 l w hG hl0 (by omega) w0.fits w0.most w0.nil hr0)
  have HCT := Lib.hid (fun (W : World) (g : G W) (h5 : RdB W W.heap.size a0 l) => HC.count a0 len0 cap0 l W g hl0 (by omega) w0.fits w0.most w0.nil h5)
  have HTR := Lib.hid (fun (s : ByteArray) (h : s.size ≤ maxLen) (W : World) (g : G W) => HC.trim s W g h)
  have HR0 := Lib.hid hr0
  have hne3 : splE l = 0 ∨ (splE l = 4 ∧ 1000 < (linL l).length ∧ splL l = []) := by
    by_cases h : 1000 < (linL l).length
    · exact .inr ⟨by unfold splE; rw [if_neg (by omega), if_pos h], h, by unfold splL; rw [if_neg (by omega), if_pos h]⟩
    · exact .inl (by unfold splE; rw [if_neg (by omega), if_neg h])
  obtain ⟨N, hN⟩ : ∃ e, e = (linL l).length := ⟨_, rfl⟩
  have HOK := Lib.hid (fun k p (h : (splL l)[k]? = some p) => (by rw [hN]; exact spl_ok (List.mem_of_getElem? h) : LogOk N 65537000 0 p))
  have HLT := Lib.hid (fun k p (h : (splL l)[k]? = some p) => last_lt h)
  rw [← hN] at HCT hne3
  rcases hne3 with he | ⟨he, hN2, hO⟩
  · rw [he] at HSP
    have hO1 := splL_len l
    obtain ⟨O, hO⟩ : ∃ e, e = splL l := ⟨_, rfl⟩
    rw [← hO] at HSP hO1 HOK HLT
    obtain ⟨no, hno⟩ : ∃ e, e = O.length := ⟨_, rfl⟩
    have HNO := Lib.hid hno
    rw [← hno] at hO1
    clear HC hG w0 hlong hl0 hr0 he hN hO hno
    go_enter Tryd.func5, Tryd.ntmps5
    go_wp2_with (first
      | (go_at_call 8; ((with_reducible refine (HSP.out).mono ?_); rintro e v3 ⟨u3, rfl, s3, b3⟩); have G3 := HON.out _ _ HG.out b3; obtain ⟨q3, c3, rfl, hc3⟩ := s3; rw [← HNO.out])
      | (go_at_call 10; ((with_reducible refine (HCT.out _ G3 (HR0.out.on b3)).mono ?_); rintro e v5 ⟨rfl, b5⟩); have B5 := Lib.hid (thn b3 b5); have G5 := Lib.hid (HON.out _ _ G3 b5); have HV3 := Lib.hid hc3; have b35 := Lib.hid b5; clear hc3 G3 b3 b5))
    go_loopw [6, 7] (fun v6 v7 wr => ∃ k : Nat, k ≤ no ∧ v7 = .int .i64 k ∧ v6 = .int .i64 (lastN O k : Nat) ∧ Hid (Below v5.heap.size v5 wr)) (fun _ v7 _ => no - (intOf v7).toNat)
    case atStart => exact ⟨0, by omega, rfl, rfl, Lib.hid (Below.refl _ _)⟩
    case round =>
      obtain ⟨k, hk, rfl, rfl, PC⟩ := hrel
      obtain ⟨U, rfl⟩ : ∃ wo : World, wo = wr := ⟨_, rfl⟩
      by_cases hlt : k < no
      · have hx : O[k]? = some (O[k]'(by rw [← HNO.out]; exact hlt)) := List.getElem?_eq_getElem _
        obtain ⟨p, hp⟩ : ∃ p, p = O[k]'(by rw [← HNO.out]; exact hlt) := ⟨_, rfl⟩
        rw [← hp] at hx
        have ok := HOK.out k p hx
        have hl := HLT.out k p hx
        have HLS := Lib.hid (last_succ hx)
        obtain ⟨g1, o1, rfl, d1, d2⟩ := HV3.out k p hx
        have BU := thn b35.out PC.out
        have c1 := (BU.cell (World.block_lt_of_cell? _ _ d1)).trans d1
        have c2 := (BU.cell (World.block_lt_of_cell? _ _ d2)).trans d2
        obtain ⟨kn, tx⟩ := p
        obtain ⟨ok1, ok2, ok3, ok4, ok5, ok6⟩ := ok
        simp only at c1 c2 ok1 ok2 ok3 ok4 ok5 ok6 hl HLS
        have hsz : (bs tx).size ≤ maxLen := by rw [bs_size]; unfold maxLen; omega
        have HTX := Lib.hid (HTR.out (bs tx) hsz)
        rw [bs_list, ok4] at HTX
        obtain ⟨z, hz⟩ : ∃ x, x = bs tx := ⟨_, rfl⟩
        have hzs : z.size = tx.length := by rw [hz, bs_size]
        have HZG := Lib.hid (fun (j : Nat) (h : j < z.size) => (by subst hz; rw [bs_get]; exact ok5 _ (List.getElem_mem _) : z[j]'h ≠ 10))
        have e1 : z.toList ≠ [] := by rw [hz, bs_toList]; exact ok3
        have e2 : z.toList.isEmpty = false := by rw [hz, bs_toList]; cases tx with | nil => exact absurd rfl ok3 | cons a b => rfl
        have e3 : (z.toList == []) = false := beq_eq_false_iff_ne.2 e1
        rw [← hz] at c2 HTX
        have hzb : z.size ≤ 65537000 := by rw [hzs]; exact ok6
        obtain ⟨la, hla⟩ : ∃ x, x = lastN O k := ⟨_, rfl⟩
        rw [← hla] at hl ⊢
        have t1 : decide ((kn : Int) ≤ (la : Int)) = false := decide_eq_false (by omega)
        have t2 : decide ((N : Int) < (kn : Int)) = false := decide_eq_false (by omega)
        have t3 : decide (kn ≤ la) = false := decide_eq_false (by omega)
        have t4 : decide (N < kn) = false := decide_eq_false (by omega)
        have t5 : (z.toList != z.toList) = false := by simp
        have t6 : ¬ (kn : Int) ≤ (la : Int) := by omega
        have t7 : ¬ (N : Int) < (kn : Int) := by omega
        have t8 : ¬ kn ≤ la := by omega
        have t9 : ¬ N < kn := by omega
        have k1 : (k : Int) < no := by omega
        have k0 : (0 : Int) ≤ k := by omega
        have hw1 : IntKind.i64.wrap ((k : Int) + 1) = k + 1 := by rw [IntKind.wrap_i64]; omega
        have HZS := Lib.hid hzs
        have GU := Lib.hid (HON.out _ _ G5.out PC.out)
        clear hx hp d1 d2 BU ok1 ok2 ok3 ok4 ok5 ok6 hsz hz hla hl hzs
        go_wp2_with fail
        refine wp_region_held_drew (S := (fun w' => w'.cell? ⟨g1, o1 + k * 2, none⟩ = some (.int .i64 kn) ∧ w'.cell? ⟨g1, o1 + k * 2 + 1, none⟩ = some (.string z) ∧ Below U.heap.size U w')) (by kernel_rfl) ?_ (fun hHeld => ?_)
        · exact ⟨c1, c2, (Below.refl _ _).drew⟩
        refine take_op2 (i := 0) (v := ?_) rfl (by kernel_rfl) (by kernel_rfl) (by kernel_rfl) (fun _ _ _ h => h) (Or.inl ⟨wanted_plain rfl, ?_⟩) (by assumption) ?_
        rotate_left
        · (intro w hSw; (try dsimp only at hSw); go_simp; try with_reducible rfl)
        intro act_ hact_; simp only [Act.put, List.setIfInBounds_toArray, List.set_cons_zero, List.set_cons_succ] at hact_; subst hact_
        refine take_op2 (i := 1) (v := ?_) rfl (by kernel_rfl) (by kernel_rfl) (by kernel_rfl) (fun _ _ _ h => h) (Or.inl ⟨wanted_plain rfl, ?_⟩) (by assumption) ?_
        rotate_left
        · (intro w hSw; (try dsimp only at hSw); go_simp; try with_reducible rfl)
        intro act_ hact_; simp only [Act.put, List.setIfInBounds_toArray, List.set_cons_zero, List.set_cons_succ] at hact_; subst hact_
        refine take_op2 (i := 2) (v := ?_) rfl (by kernel_rfl) (by kernel_rfl) (by kernel_rfl) (fun _ _ _ h => h) (Or.inl ⟨wanted_plain rfl, ?_⟩) (by assumption) ?_
        rotate_left
        · (intro w hSw; (try dsimp only at hSw); go_simp; try with_reducible rfl)
        intro act_ hact_; simp only [Act.put, List.setIfInBounds_toArray, List.set_cons_zero, List.set_cons_succ] at hact_; subst hact_
        refine take_op2 (i := 3) (v := ?_) rfl (by kernel_rfl) (by kernel_rfl) (by kernel_rfl) (fun _ _ _ h => h) (Or.inl ⟨wanted_plain rfl, ?_⟩) (by assumption) ?_
        rotate_left
        · (intro w hSw; (try dsimp only at hSw); go_simp; try with_reducible rfl)
        intro act_ hact_; simp only [Act.put, List.setIfInBounds_toArray, List.set_cons_zero, List.set_cons_succ] at hact_; subst hact_
        refine take_op2 (i := 4) (v := ?_) rfl (by kernel_rfl) (by kernel_rfl) (by kernel_rfl) (fun _ _ _ h => h) (Or.inl ⟨wanted_plain rfl, ?_⟩) (by assumption) ?_
        rotate_left
        · (intro w hSw; (try dsimp only at hSw); go_simp; try with_reducible rfl)
        intro act_ hact_; simp only [Act.put, List.setIfInBounds_toArray, List.set_cons_zero, List.set_cons_succ] at hact_; subst hact_
        refine take_op2 (i := 5) (v := ?_) rfl (by kernel_rfl) (by kernel_rfl) (by kernel_rfl) (fun _ _ _ h => h) (Or.inl ⟨wanted_plain rfl, ?_⟩) (by assumption) ?_
        rotate_left
        · (intro w hSw; (try dsimp only at hSw); go_simp; try with_reducible rfl)
        intro act_ hact_; simp only [Act.put, List.setIfInBounds_toArray, List.set_cons_zero, List.set_cons_succ] at hact_; subst hact_
        refine take_op2 (i := 6) (v := ?_) rfl (by kernel_rfl) (by kernel_rfl) (by kernel_rfl) (fun _ _ _ h => h) (Or.inl ⟨wanted_plain rfl, ?_⟩) (by assumption) ?_
        rotate_left
        · (intro w hSw; (try dsimp only at hSw); go_simp; try with_reducible rfl)
        intro act_ hact_; simp only [Act.put, List.setIfInBounds_toArray, List.set_cons_zero, List.set_cons_succ] at hact_; subst hact_
        refine take_op2 (i := 7) (v := ?_) rfl (by kernel_rfl) (by kernel_rfl) (by kernel_rfl) (fun _ _ _ h => h) (Or.inl ⟨wanted_plain rfl, ?_⟩) (by assumption) ?_
        rotate_left
        · (intro w hSw; (try dsimp only at hSw); go_simp; try with_reducible rfl)
        intro act_ hact_; simp only [Act.put, List.setIfInBounds_toArray, List.set_cons_zero, List.set_cons_succ] at hact_; subst hact_
        refine take_op2 (i := 8) (v := ?_) rfl (by kernel_rfl) (by kernel_rfl) (by kernel_rfl) (fun _ _ _ h => h) (Or.inl ⟨by rfl, ?_⟩) (by assumption) ?_
        rotate_left
        · (intro w hSw; (try dsimp only at hSw); go_simp; try with_reducible rfl)
        intro act_ hact_; simp only [Act.put, List.setIfInBounds_toArray, List.set_cons_zero, List.set_cons_succ] at hact_; subst hact_
        refine take_op2 (i := 9) (v := ?_) rfl (by kernel_rfl) (by kernel_rfl) (by kernel_rfl) (fun _ _ _ h => h) (Or.inl ⟨by rfl, ?_⟩) (by assumption) ?_
        rotate_left
        · (intro w hSw; (try dsimp only at hSw); go_simp; try with_reducible rfl)
        intro act_ hact_; simp only [Act.put, List.setIfInBounds_toArray, List.set_cons_zero, List.set_cons_succ] at hact_; subst hact_
        refine take_op2 (i := 10) (v := ?_) rfl (by kernel_rfl) (by kernel_rfl) (by kernel_rfl) (fun _ _ _ h => h) (Or.inl ⟨by rfl, ?_⟩) (by assumption) ?_
        rotate_left
        · (intro w hSw; (try dsimp only at hSw); go_simp; try with_reducible rfl)
        intro act_ hact_; simp only [Act.put, List.setIfInBounds_toArray, List.set_cons_zero, List.set_cons_succ] at hact_; subst hact_
        refine take_op2 (i := 11) (v := ?_) rfl (by kernel_rfl) (by kernel_rfl) (by kernel_rfl) (fun _ _ _ h => h) (Or.inl ⟨by rfl, ?_⟩) (by assumption) ?_
        rotate_left
        · (intro w hSw; (try dsimp only at hSw); go_simp; try with_reducible rfl)
        intro act_ hact_; simp only [Act.put, List.setIfInBounds_toArray, List.set_cons_zero, List.set_cons_succ] at hact_; subst hact_
        refine take_op2 (i := 12) (v := ?_) rfl (by kernel_rfl) (by kernel_rfl) (by kernel_rfl) (fun _ _ _ h => h) (Or.inl ⟨by rfl, ?_⟩) (by assumption) ?_
        rotate_left
        · (intro w hSw; (try dsimp only at hSw); go_simp; try with_reducible rfl)
        intro act_ hact_; simp only [Act.put, List.setIfInBounds_toArray, List.set_cons_zero, List.set_cons_succ] at hact_; subst hact_
        refine take_op2 (i := 13) (v := ?_) rfl (by kernel_rfl) (by kernel_rfl) (by kernel_rfl) (fun _ _ _ h => h) (Or.inl ⟨by rfl, ?_⟩) (by assumption) ?_
        rotate_left
        · (intro w hSw; (try dsimp only at hSw); go_simp; try with_reducible rfl)
        intro act_ hact_; simp only [Act.put, List.setIfInBounds_toArray, List.set_cons_zero, List.set_cons_succ] at hact_; subst hact_
        refine take_op2 (i := 14) (v := ?_) rfl (by kernel_rfl) (by kernel_rfl) (by kernel_rfl) (fun _ _ _ h => h) (Or.inl ⟨by rfl, ?_⟩) (by assumption) ?_
        rotate_left
        · (intro w hSw; (try dsimp only at hSw); go_simp; try with_reducible rfl)
        intro act_ hact_; simp only [Act.put, List.setIfInBounds_toArray, List.set_cons_zero, List.set_cons_succ] at hact_; subst hact_
        refine take_op2 (i := 15) (v := ?_) rfl (by kernel_rfl) (by kernel_rfl) (by kernel_rfl) (fun _ _ _ h => h) (Or.inl ⟨wanted_plain rfl, ?_⟩) (by assumption) ?_
        rotate_left
        · (intro w hSw; (try dsimp only at hSw); go_simp; try with_reducible rfl)
        intro act_ hact_; simp only [Act.put, List.setIfInBounds_toArray, List.set_cons_zero, List.set_cons_succ] at hact_; subst hact_
        refine take_op2 (i := 16) (v := ?_) rfl (by kernel_rfl) (by kernel_rfl) (by kernel_rfl) (fun _ _ _ h => h) (Or.inl ⟨wanted_plain rfl, ?_⟩) (by assumption) ?_
        rotate_left
        · (intro w hSw; (try dsimp only at hSw); go_simp; try with_reducible rfl)
        intro act_ hact_; simp only [Act.put, List.setIfInBounds_toArray, List.set_cons_zero, List.set_cons_succ] at hact_; subst hact_
        refine take_op2 (i := 17) (v := ?_) rfl (by kernel_rfl) (by kernel_rfl) (by kernel_rfl) (fun _ _ _ h => h) (Or.inl ⟨by rfl, ?_⟩) (by assumption) ?_
        rotate_left
        · (intro w hSw; (try dsimp only at hSw); go_simp; try with_reducible rfl)
        intro act_ hact_; simp only [Act.put, List.setIfInBounds_toArray, List.set_cons_zero, List.set_cons_succ] at hact_; subst hact_
        refine take_op2 (i := 18) (v := ?_) rfl (by kernel_rfl) (by kernel_rfl) (by kernel_rfl) (fun _ _ _ h => h) (Or.inl ⟨by rfl, ?_⟩) (by assumption) ?_
        rotate_left
        · (intro w hSw; (try dsimp only at hSw); go_simp; try with_reducible rfl)
        intro act_ hact_; simp only [Act.put, List.setIfInBounds_toArray, List.set_cons_zero, List.set_cons_succ] at hact_; subst hact_
        refine take_op2 (i := 19) (v := ?_) rfl (by kernel_rfl) (by kernel_rfl) (by kernel_rfl) (fun _ _ _ h => h) (Or.inl ⟨by rfl, ?_⟩) (by assumption) ?_
        rotate_left
        · (intro w hSw; (try dsimp only at hSw); go_simp; try with_reducible rfl)
        intro act_ hact_; simp only [Act.put, List.setIfInBounds_toArray, List.set_cons_zero, List.set_cons_succ] at hact_; subst hact_
        refine take_op2 (i := 20) (v := ?_) rfl (by kernel_rfl) (by kernel_rfl) (by kernel_rfl) (fun _ _ _ h => h) (Or.inl ⟨by rfl, ?_⟩) (by assumption) ?_
        rotate_left
        · (intro w hSw; (try dsimp only at hSw); go_simp; try with_reducible rfl)
        intro act_ hact_; simp only [Act.put, List.setIfInBounds_toArray, List.set_cons_zero, List.set_cons_succ] at hact_; subst hact_
        refine take_op2 (i := 21) (v := ?_) rfl (by kernel_rfl) (by kernel_rfl) (by kernel_rfl) (fun _ _ _ h => h) (Or.inl ⟨by rfl, ?_⟩) (by assumption) ?_
        rotate_left
        · (intro w hSw; (try dsimp only at hSw); go_simp; try with_reducible rfl)
        intro act_ hact_; simp only [Act.put, List.setIfInBounds_toArray, List.set_cons_zero, List.set_cons_succ] at hact_; subst hact_
        refine take_op2 (i := 22) (v := ?_) rfl (by kernel_rfl) (by kernel_rfl) (by kernel_rfl) (fun _ _ _ h => h) (Or.inl ⟨by rfl, ?_⟩) (by assumption) ?_
        rotate_left
        · (intro w hSw; (try dsimp only at hSw); go_simp; try with_reducible rfl)
        intro act_ hact_; simp only [Act.put, List.setIfInBounds_toArray, List.set_cons_zero, List.set_cons_succ] at hact_; subst hact_
        refine take_op2 (i := 23) (v := ?_) rfl (by kernel_rfl) (by kernel_rfl) (by kernel_rfl) (fun _ _ _ h => h) (Or.inl ⟨wanted_plain rfl, ?_⟩) (by assumption) ?_
        rotate_left
        · (intro w hSw; (try dsimp only at hSw); go_simp; try with_reducible rfl)
        intro act_ hact_; simp only [Act.put, List.setIfInBounds_toArray, List.set_cons_zero, List.set_cons_succ] at hact_; subst hact_
        refine take_op2 (i := 24) (v := ?_) rfl (by kernel_rfl) (by kernel_rfl) (by kernel_rfl) (fun _ _ _ h => h) (Or.inl ⟨wanted_plain rfl, ?_⟩) (by assumption) ?_
        rotate_left
        · (intro w hSw; (try dsimp only at hSw); go_simp; try with_reducible rfl)
        intro act_ hact_; simp only [Act.put, List.setIfInBounds_toArray, List.set_cons_zero, List.set_cons_succ] at hact_; subst hact_
        refine take_op2 (i := 25) (v := ?_) rfl (by kernel_rfl) (by kernel_rfl) (by kernel_rfl) (fun _ _ _ h => h) (Or.inl ⟨by rfl, ?_⟩) (by assumption) ?_
        rotate_left
        · (intro w hSw; (try dsimp only at hSw); go_simp; try with_reducible rfl)
        intro act_ hact_; simp only [Act.put, List.setIfInBounds_toArray, List.set_cons_zero, List.set_cons_succ] at hact_; subst hact_
        refine take_op2 (i := 26) (v := ?_) rfl (by kernel_rfl) (by kernel_rfl) (by kernel_rfl) (fun _ _ _ h => h) (Or.inl ⟨by rfl, ?_⟩) (by assumption) ?_
        rotate_left
        · (intro w hSw; (try dsimp only at hSw); go_simp; try with_reducible rfl)
        intro act_ hact_; simp only [Act.put, List.setIfInBounds_toArray, List.set_cons_zero, List.set_cons_succ] at hact_; subst hact_
        refine take_op2 (i := 27) (v := ?_) rfl (by kernel_rfl) (by kernel_rfl) (by kernel_rfl) (fun _ _ _ h => h) (Or.inl ⟨by rfl, ?_⟩) (by assumption) ?_
        rotate_left
        · (intro w hSw; (try dsimp only at hSw); go_simp; try with_reducible rfl)
        intro act_ hact_; simp only [Act.put, List.setIfInBounds_toArray, List.set_cons_zero, List.set_cons_succ] at hact_; subst hact_
        refine take_op2 (i := 28) (v := ?_) rfl (by kernel_rfl) (by kernel_rfl) (by kernel_rfl) (fun _ _ _ h => h) (Or.inl ⟨by rfl, ?_⟩) (by assumption) ?_
        rotate_left
        · (intro w hSw; (try dsimp only at hSw); go_simp; try with_reducible rfl)
        intro act_ hact_; simp only [Act.put, List.setIfInBounds_toArray, List.set_cons_zero, List.set_cons_succ] at hact_; subst hact_
        refine take_op2 (i := 29) (v := ?_) rfl (by kernel_rfl) (by kernel_rfl) (by kernel_rfl) (fun _ _ _ h => h) (Or.inl ⟨by rfl, ?_⟩) (by assumption) ?_
        rotate_left
        · (intro w hSw; (try dsimp only at hSw); go_simp; try with_reducible rfl)
        intro act_ hact_; simp only [Act.put, List.setIfInBounds_toArray, List.set_cons_zero, List.set_cons_succ] at hact_; subst hact_
        refine take_op2 (i := 31) (v := ?_) rfl (by kernel_rfl) (by kernel_rfl) (by kernel_rfl) (fun _ _ _ h => h) (Or.inl ⟨by rfl, ?_⟩) (by assumption) ?_
        rotate_left
        · (intro w hSw; (try dsimp only at hSw); go_simp; try with_reducible rfl)
        intro act_ hact_; simp only [Act.put, List.setIfInBounds_toArray, List.set_cons_zero, List.set_cons_succ] at hact_; subst hact_
        refine take_op2 (i := 32) (v := ?_) rfl (by kernel_rfl) (by kernel_rfl) (by kernel_rfl) (fun _ _ _ h => h) (Or.inl ⟨by rfl, ?_⟩) (by assumption) ?_
        rotate_left
        · (intro w hSw; (try dsimp only at hSw); go_simp; try with_reducible rfl)
        intro act_ hact_; simp only [Act.put, List.setIfInBounds_toArray, List.set_cons_zero, List.set_cons_succ] at hact_; subst hact_
        refine take_op2 (i := 33) (v := ?_) rfl (by kernel_rfl) (by kernel_rfl) (by kernel_rfl) (fun _ _ _ h => h) (Or.inl ⟨by rfl, ?_⟩) (by assumption) ?_
        rotate_left
        · (intro w hSw; (try dsimp only at hSw); go_simp; try with_reducible rfl)
        intro act_ hact_; simp only [Act.put, List.setIfInBounds_toArray, List.set_cons_zero, List.set_cons_succ] at hact_; subst hact_
        refine take_op2 (i := 34) (v := ?_) rfl (by kernel_rfl) (by kernel_rfl) (by kernel_rfl) (fun _ _ _ h => h) (Or.inl ⟨by rfl, ?_⟩) (by assumption) ?_
        rotate_left
        · (intro w hSw; (try dsimp only at hSw); go_simp; try with_reducible rfl)
        intro act_ hact_; simp only [Act.put, List.setIfInBounds_toArray, List.set_cons_zero, List.set_cons_succ] at hact_; subst hact_
        refine take_op2 (i := 35) (v := ?_) rfl (by kernel_rfl) (by kernel_rfl) (by kernel_rfl) (fun _ _ _ h => h) (Or.inl ⟨by rfl, ?_⟩) (by assumption) ?_
        rotate_left
        · (intro w hSw; (try dsimp only at hSw); go_simp; try with_reducible rfl)
        intro act_ hact_; simp only [Act.put, List.setIfInBounds_toArray, List.set_cons_zero, List.set_cons_succ] at hact_; subst hact_
        refine wpAnyH_ready (rs := [30]) (by kernel_rfl) (List.cons_ne_nil _ _) ?_
        refine AllReadyH.cons rfl (fun K hK => ?_) AllReadyH.nil
        go_simp
        go_wp2_with (go_at_call 13; ((with_reducible refine (HTX.out _ (HON.out _ _ GU.out hHeld.2.2)).mono ?_); rintro e y5 ⟨rfl, b5⟩))
        refine hK.out _ _ ?_ (fun hHeld => ?_)
        · exact keep2 b5 hHeld
        clear hK K
        refine take_op2 (i := 36) (v := ?_) rfl (by kernel_rfl) (by kernel_rfl) (by kernel_rfl) (fun _ _ _ h => h) (Or.inl ⟨by rfl, ?_⟩) (by assumption) ?_
        rotate_left
        · (intro w hSw; (try dsimp only at hSw); go_simp; try with_reducible rfl)
        intro act_ hact_; simp only [Act.put, List.setIfInBounds_toArray, List.set_cons_zero, List.set_cons_succ] at hact_; subst hact_
        refine take_op2 (i := 37) (v := ?_) rfl (by kernel_rfl) (by kernel_rfl) (by kernel_rfl) (fun _ _ _ h => h) (Or.inl ⟨wanted_plain rfl, ?_⟩) (by assumption) ?_
        rotate_left
        · (intro w hSw; (try dsimp only at hSw); go_simp; try with_reducible rfl)
        intro act_ hact_; simp only [Act.put, List.setIfInBounds_toArray, List.set_cons_zero, List.set_cons_succ] at hact_; subst hact_
        refine wpAnyH_done (by kernel_rfl) ?_ _
        have hq := hHeld
        clear hHeld
        obtain ⟨c1', c2', bU⟩ := hq
        have BX := Lib.hid (thn PC.out bU)
        go_wp2_with fail
        go_loop [8] (fun v8 => ∃ j : Nat, j ≤ z.size ∧ v8 = .int .i64 j) (fun v8 => z.size - (intOf v8).toNat)
        case atStart => exact ⟨0, by omega, rfl⟩
        case round =>
          obtain ⟨j, hj, rfl⟩ := hrel
          by_cases hjl : j < z.size
          · have h10 := HZG.out j hjl
            obtain ⟨x, hx⟩ : ∃ x, x = (((z[j]'hjl).toNat : Nat) : Int) := ⟨_, rfl⟩
            have hx10 : (x == 10) = false := beq_eq_false_iff_ne.2 (fun h => h10 (UInt8.toNat_inj.1 (by have : (((z[j]'hjl).toNat : Nat) : Int) = ((10 : UInt8).toNat : Int) := hx.symm.trans h; omega)))
            have hidx : (((z[j]'hjl).toNat : Nat) : Int) = x := hx.symm
            have j1 : (j : Int) < z.size := by omega
            have j0 : (0 : Int) ≤ j := by omega
            have hw2 : IntKind.i64.wrap ((j : Int) + 1) = j + 1 := by rw [IntKind.wrap_i64]; omega
            clear h10 hx
            go_wp2_with fail
            go_round
            case rel => exact ⟨j + 1, by omega, by go_num⟩
            case measure => simp [intOf]; omega
          · obtain rfl : j = z.size := by omega
            have jj : ¬ (z.size : Int) < z.size := by omega
            go_wp2_with fail
            go_roundw
            case rel => exact ⟨k + 1, by omega, by go_num, by rw [HLS.out], BX⟩
            case measure => simp [intOf]; omega
      · obtain rfl : no = k := by omega
        have k1 : ¬ (no : Int) < no := by omega
        have G7 := HON.out _ _ G5.out PC.out
        have B7 := thn B5.out PC.out
        go_wp2_with (first
          | (go_at_call 12; ((with_reducible refine (HAW.out _ G7).mono ?_); rintro e v9 ⟨rfl, b9⟩)))
        go_ret
        exact ⟨by first | rfl | simp, thn B7 b9⟩
  · rw [he, hO] at HSP
    have t1 : (1000 : Int) < N := by omega
    have t2 : decide ((1000 : Int) < N) = true := decide_eq_true t1
    have t3 : decide (1000 < N) = true := decide_eq_true hN2
    clear HC hG w0 hlong hl0 hr0 he hN hO HOK HLT
    go_enter Tryd.func5, Tryd.ntmps5
    go_wp2_with (first
      | (go_at_call 8; ((with_reducible refine (HSP.out).mono ?_); rintro e v3 ⟨u3, rfl, s3, b3⟩); have G3 := HON.out _ _ HG.out b3; obtain ⟨q3, c3, rfl, hc3⟩ := s3; clear hc3)
      | (go_at_call 10; ((with_reducible refine (HCT.out _ G3 (HR0.out.on b3)).mono ?_); rintro e v5 ⟨rfl, b5⟩); have B5 := thn b3 b5; have G5 := HON.out _ _ G3 b5)
      | (go_at_call 12; ((with_reducible refine (HAW.out _ G5).mono ?_); rintro e v9 ⟨rfl, b9⟩)))
    go_ret
    exact ⟨by first | rfl | simp, thn B5 b9⟩

set_option maxRecDepth 100000 in
theorem lifted (HC : LinesC G12) (os : Os) (started : os.Started) (H : Type) (enc : TypeId × Value → H) :
    ReturnsInHanded {} Tryd.checked os 5 .any (fun w args => (Rows.linesRiseSpec.pre enc Tryd.prog Tryd.f5 [] false w args ∧ laidMetH Tryd.prog listed12 w) ∧ sizedMet enc Tryd.prog Tryd.f5 (OpenSpec.ofChange Rows.linesRiseSpec) false w args)
      (Rows.linesRiseSpec.post enc Tryd.prog Tryd.f5 false true false false) := by
  refine returnsInHanded_of_change_and (C := Tryd.checked) (X := fun w _ => laidMetH Tryd.prog listed12 w) (fun _ _ _ hh h => h.of_heap hh) ownKnob_none started (by kernel_rfl) Tryd.func5
    (ChangeSpec.witness_shaped (enc := enc) (C := Tryd.checked) (os := os) (X := fun w _ => laidMetH Tryd.prog listed12 w) false (World.laidAll Tryd.prog os listed12) #[.slice none 0 0] 8 (World.laidAll_os _ _ _) (World.shaped_of_ZipB (by kernel_rfl) (by kernel_rfl)) (by kernel_rfl) (by kernel_rfl) (by kernel_rfl) (by rw [MakeChecks.laidMetH_plain _ _ _ (by kernel_rfl)]; exact laidMet_laidAll _ (by kernel_rfl) (by kernel_rfl))) ?_
  intro W base args ds gs before hval0 hW _ _ hL _
  have hG : G12 W := of_laid12 hL
  have hval : ∀ (j : Nat) t v, Tryd.f5.params[j]? = some t → args[j]? = some v → Value.okWide Tryd.prog W .any base t v := hval0
  have hW' := hW
  obtain ⟨p, q, hA0, hV, rfl, hfz, hnd⟩ := hW
  have hA : DataW.TrodAll enc Tryd.prog W 0 (fun _ => true) true Tryd.f5.params.toList args.toList ds p := hA0
  rw [Tryd.params5] at hA hval
  obtain ⟨v0, vs0, d0, ds0, p0, q0, hargs, rfl, rfl, h0, r0⟩ := trodAll_cons hA
  obtain ⟨rfl, rfl, rfl⟩ := trodAll_nil r0
  obtain rfl : args = #[v0] := by cases args; simp_all
  obtain ⟨rfl, rfl⟩ := trodVars_none hV
  obtain ⟨a0, len0, cap0, rfl⟩ := okWide_slice Tryd.underlying22 (hval 0 22 v0 rfl rfl)
  have k0 := h0
  have lt0 : ∀ x ∈ p0, x.block < W.heap.size := by obtain ⟨m, hm⟩ := k0; exact DataW.trod_lt m _ _ _ hm
  obtain ⟨z0, w0⟩ := bytes_open h0 lt0
  clear hA0 hval0
  refine (walk HC a0 len0 cap0 z0 W hG w0).mono fun e W' ⟨he, bel⟩ => ?_
  subst he
  exact ⟨_, rfl, _, _, _, [], _, [], hW', trodAll_mk1 (shut_bool Tryd.underlying4 _), (trodAll_cons_mk (Below.trod laidOut (by kernel_rfl) (of_decide_eq_true (by kernel_rfl)) k0 bel lt0) trodAll_mk0), rfl, bel.frame _, fun h => by cases h⟩

theorem over (HC : LinesC G12) : Rows.linesRiseRow.holds Tryd.pinned (OpenSpec.ofChange Rows.linesRiseSpec) :=
  OpenClaim.holds_of_wide 5 Tryd.f5 rfl rfl rfl rfl rfl rfl rfl ⟨rfl, rfl, rfl, rfl, rfl⟩ rfl rfl rfl rfl rfl (by kernel_rfl) Tryd.func5 (by kernel_rfl)
    (of_decide_eq_true (by kernel_rfl)) (by unfold Func.isWrapper; first | (rw [if_pos (by decide +kernel)]; kernel_rfl) | (rw [if_neg (by decide +kernel)]; exact ⟨rfl, rfl⟩))
    (fun os started H enc _ => lifted HC os started H enc)

/-- The row's statement. -/
theorem row_holds : Rows.LinesRiseSaid := over linesC
/-- The statement: the row, its table tied to the program's text. -/
theorem proved : Rows.LinesRiseCardSaid :=
  Claim7.holds_tied_plain_at .later [] [.data, .pinned] true Rows.linesRiseCard.stood.harness Rows.linesRiseCard.stood.looks
    row_holds (fun _ h => by cases h) (by kernel_rfl) (fun _ h => by cases h) linesRise_row_tie rfl ⟨rfl, rfl⟩ (by kernel_rfl) rfl
    (fun f fn hf hfn => by
      obtain rfl : f = 5 := Option.some.inj ((show Tryd.prog.funcNamed "vestibule/vestibulelaw12.LinesRise" = some 5 by kernel_rfl).symm.trans hf) |>.symm
      obtain rfl : fn = Tryd.f5 := (Option.some.inj (Tryd.func5.symm.trans hfn)).symm
      exact ⟨by kernel_rfl, fun j t ht => by
        have hm : t ∈ Tryd.f5.params.toList := by simpa using Array.mem_of_getElem? ht
        have hall : (Tryd.f5.params.toList.all fun u => !Tryd.prog.wantsStandIn u) = true := by kernel_rfl
        exact (show Tryd.prog.wantsStandIn t = false by simpa using List.all_eq_true.1 hall t hm)⟩)
    (by kernel_rfl)
#print axioms proved
end Go.Proofs.YtagmlphhmjdaiaaDoor.linesRise
