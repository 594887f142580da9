/- The statement FoldFolds holds, over what the calls have to return: what values make of the list of none, one after another, and what is noted. -/
import Derived.Test.YtickkaeaaemakaaGreatDoorRows
import Derived.Test.YtickkaeaaemakaaGreatDoorCards
import Derived.Test.YtickkaeaaemakaaGreatDoorTie
import Derived.SevenTiedAt
import Derived.Test.YtickkaeaaemakaaGreatDoorWd
import Derived.Test.YtickkaeaaemakaaGreatDoorTz
import Derived.Test.YtickkaeaaemakaaGreatDoorTu
import Derived.Test.YtickkaeaaemakaaGreatDoorLr
import Derived.BigQuiet
import Derived.Deep.QuietTactic
namespace Go.Proofs.YtickkaeaaemakaaGreatDoor.foldFolds
open Go.ChangeShapes Go.WideShapes Go.ChangeAt Go.RowKit
open Go.ChangeMaps (open_string shut_string)
set_option linter.unusedVariables false
attribute [local go_sem ↓] Go.wp_at_zero Go.wp_at_succ
set_option maxRecDepth 100000 in
set_option maxHeartbeats 16000000 in
theorem walk {G : World → Prop} (HC : FoldC G) (a0 : Option Addr) (len0 cap0 : Nat) (z0 : List ByteArray) (a1 : Bool) (w : World) (hG : G w) (w0 : IsStrs w a0 len0 cap0 z0) (w1 : True) :
    Calls Tryz.prog 4 #[.slice a0 len0 cap0, .bool a1] w fun e w' => e = .returned (.bool true) ∧ Below w.heap.size w w' := by
  have HON := Lib.hid (fun (w w' : World) => HC.on (w := w) (w' := w'))
  have HG := Lib.hid hG
  have HAW := Lib.hid (fun (W : World) (g : G W) => awake16_any HC W g)
  by_cases hlong : (20 : Int) < len0
  · clear HC hG w0 w1
    go_enter Tryz.func4, Tryz.ntmps4
    go_wp2_with fail
    go_ret
    exact ⟨rfl, Below.refl _ _⟩
  have hs : (len0 : Int) ≤ 20 := by omega
  have HZL := Lib.hid w0.size
  have HRD := Lib.hid w0.rd
  have HNIL := Lib.hid w0.nil
  have HCC := Lib.hid HC
  clear HC hG w0 w1
  go_enter Tryz.func4, Tryz.ntmps4
  go_wp2_with fail
  go_loop [5] (fun v5 => ∃ k : Nat, k ≤ len0 ∧ v5 = .int .i64 k ∧ Hid (∀ i x, z0[i]? = some x → i < k → x.size ≤ 300)) (fun v5 => len0 - (intOf v5).toNat)
  case atStart => exact ⟨0, by omega, rfl, Lib.hid (fun i x _ h => absurd h (by omega))⟩
  case round =>
    obtain ⟨k, hk, rfl, HL⟩ := hrel
    by_cases hlt : k < len0
    · have hx : z0[k]? = some (z0[k]'(by rw [HZL.out]; exact hlt)) := List.getElem?_eq_getElem _
      obtain ⟨S, hS⟩ : ∃ s, s = z0[k]'(by rw [HZL.out]; exact hlt) := ⟨_, rfl⟩
      rw [← hS] at hx
      obtain ⟨b, o, rfl, hb, hcs⟩ := HRD.out (by omega)
      have d0 := hcs k S hx
      have HX := Lib.hid hx
      clear hx hS hcs
      by_cases h3 : (300 : Int) < S.size
      · go_wp2_with fail
        go_ret
        exact ⟨rfl, Below.refl _ _⟩
      · go_wp2_with fail
        go_round
        case rel => exact ⟨k + 1, by omega, by go_num, Lib.hid (fun i x h hi => by
          by_cases e : i = k
          · subst e
            have := HX.out
            rw [h] at this
            injection this with this
            subst this
            omega
          · exact HL.out i x h (by omega))⟩
        case measure => simp [intOf]; omega
    · obtain rfl : len0 = k := by omega
      have kk : ¬ (len0 : Int) < len0 := by omega
      have HALL := Lib.hid (show ∀ x ∈ z0, x.size ≤ 300 from fun x hx => by
        obtain ⟨i, hi, rfl⟩ := List.mem_iff_getElem.1 hx
        exact HL.out i _ (List.getElem?_eq_getElem hi) (by rw [← HZL.out]; exact hi))
      have SA := Lib.hid (show StrsAt w (.slice a0 len0 cap0) z0 from ⟨a0, cap0, by rw [HZL.out], fun k s hk => by
        obtain ⟨b, o, rfl, _, hcs⟩ := HRD.out (by have := (List.getElem?_eq_some_iff.1 hk).1; have := HZL.out; omega)
        exact ⟨b, o, rfl, hcs k s hk⟩⟩)
      have hz1 : z0.length ≤ 20 := by have := HZL.out; omega
      have hx2 : ∀ x ∈ z0, x.size ≤ 1000 := fun x hx => Nat.le_trans (HALL.out x hx) (by omega)
      have HFO := Lib.hid (fun (W : World) (g : G W) (h : StrsAt W (.slice a0 len0 cap0) z0) => HCC.out.fold _ z0 a1 W g h (by omega) hx2)
      have HRF := Lib.hid (fun (W : World) (h : StrsAt W (.slice a0 len0 cap0) z0) => refFold16 _ z0 a1 W h (by omega) hx2)
      obtain ⟨r, hr⟩ : ∃ r, r = foldK a1 z0 z0.length := ⟨_, rfl⟩
      have hb1 : r.1.2.length ≤ 40 := by rw [hr]; exact okl_le (foldK_ok a1 z0 z0.length)
      have hb2 : r.2.length ≤ 20000 := by
        rw [hr]
        exact Nat.le_trans (foldK_nts a1 z0 hx2 _) (by omega)
      rw [← hr] at HFO HRF
      have HSA := Lib.hid (fun (W : World) (q q' : Option Addr) (n n' c c' : Nat) (hn : n = r.1.2.length) (hn' : n' = r.1.2.length) (h : LsAt W q r.1.2) (h' : LsAt W q' r.1.2) => same2 r.1.1 q q' n n' c c' r.1.2 W hn hn' (by omega) h h')
      have HSN := Lib.hid (fun (W : World) (u v : Value) (hu : RowsAt 4 encN W u (r.2.map nteS)) (hv : RowsAt 4 encN W v (r.2.map nteS)) => sameN_yes u v (r.2.map nteS) W hu hv (by rw [List.length_map]; omega))
      unfold FoldL lsV at HRF
      unfold lsV at HFO HSA
      obtain ⟨mr, hmr⟩ : ∃ x : Int, x = (r.1.1 : Nat) := ⟨_, rfl⟩
      rw [← hmr] at HFO HRF HSA
      clear hz1 hx2 hr hb1 hb2 HALL HL HRD HNIL HZL HCC hmr
      go_wp2_with (first
        | (go_at_call 17
           (with_reducible refine (HFO.out _ HG.out SA.out).mono ?_)
           rintro e v1 ⟨q1, n1, c1, vN1, rfl, hn1, l1, r1, b1⟩
           have N1 := Lib.hid hn1
           have B1 := Lib.hid b1
           have L1 := Lib.hid l1
           have R1 := Lib.hid r1
           have S1 := Lib.hid (SA.out.on (thn16 b1 (below16 v1 (.cells #[.int .u8 mr, .slice q1 n1 c1] 24))))
           have Y1 := Lib.hid (heap_alloc_new v1 (.cells #[.int .u8 mr, .slice q1 n1 c1] 24))
           clear b1 l1 r1 hn1)
        | (go_at_call 18
           (with_reducible refine (HRF.out _ S1.out).mono ?_)
           rintro e v2 ⟨q2, n2, c2, vN2, rfl, hn2, cur2, r2, b2⟩
           have N2 := Lib.hid hn2
           have B12 := Lib.hid (thn16 (below16 v1 (.cells #[.int .u8 mr, .slice q1 n1 c1] 24)) b2)
           have B2 := Lib.hid (thn16 B1.out B12.out)
           have Y2 := Lib.hid (blk_on Y1.out b2)
           have L2 := Lib.hid (LsAt.on L1.out B12.out)
           have R2 := Lib.hid (RowsAt.on R1.out B12.out)
           have W2 := Lib.hid (FoldL.ls cur2 hn2)
           have T2 := Lib.hid (nts_rows r2)
           have g0 := (cell_of_row v2 v1.heap.size 0 _ _ (0, 0) Y2.out).trans (show _ = some (Value.int .u8 mr) from rfl)
           have g1 := (cell_of_row v2 v1.heap.size 1 _ _ (0, 0) Y2.out).trans (show _ = some (Value.slice q1 n1 c1) from rfl)
           have hg2 : v1.heap.size < v2.heap.size := blk_lt Y2.out
           clear b2 cur2 r2 hn2)
        | (go_at_call 13
           (with_reducible refine (HSA.out _ q1 q2 n1 n2 c1 c2 N1.out N2.out (L2.out.on (below16 v2 (.cells #[.int .u8 mr, .slice q2 n2 c2] 24))) (W2.out.on (below16 v2 (.cells #[.int .u8 mr, .slice q2 n2 c2] 24)))).mono ?_)
           rintro e v3 ⟨rfl, b3⟩
           have B23 := Lib.hid (thn16 (below16 v2 (.cells #[.int .u8 mr, .slice q2 n2 c2] 24)) b3)
           have B3 := Lib.hid (thn16 B2.out B23.out)
           clear b3 g0 g1 hg2)
        | (go_at_call 14
           (with_reducible refine (HSN.out _ _ _ (R2.out.on B23.out) (T2.out.on B23.out)).mono ?_)
           rintro e v4 ⟨rfl, b4⟩
           have B4 := Lib.hid (thn16 B3.out b4)
           clear b4)
        | (go_at_call 16
           (with_reducible refine (HAW.out _ (HON.out _ _ HG.out B4.out)).mono ?_)
           rintro e v9 ⟨rfl, b9⟩
           have B9 := Lib.hid (thn16 B4.out b9)
           clear b9))
      go_ret
      exact ⟨by first | rfl | simp, B9.out⟩

set_option maxRecDepth 100000 in
theorem lifted (HC : FoldC GN) (os : Os) (started : os.Started) (H : Type) (enc : TypeId × Value → H) :
    ReturnsInHanded {} Tryz.checked os 4 .any (fun w args => (Rows.foldFoldsSpec.pre enc Tryz.prog Tryz.f4 [] false w args ∧ laidMetH Tryz.prog listed16 w) ∧ sizedMet enc Tryz.prog Tryz.f4 (OpenSpec.ofChange Rows.foldFoldsSpec) false w args)
      (Rows.foldFoldsSpec.post enc Tryz.prog Tryz.f4 false true false false) := by
  refine returnsInHanded_of_change_and (C := Tryz.checked) (X := fun w _ => laidMetH Tryz.prog listed16 w) (fun _ _ _ hh h => h.of_heap hh) ownKnob_none started (by kernel_rfl) Tryz.func4
    (ChangeSpec.witness_shaped (enc := enc) (C := Tryz.checked) (os := os) (X := fun w _ => laidMetH Tryz.prog listed16 w) false (World.doorLaid Tryz.prog 4000 os) #[.slice none 0 0, .bool false] 8 rfl (World.shaped_of_RefB (by kernel_rfl) (by kernel_rfl)) (by kernel_rfl) (by kernel_rfl) (by kernel_rfl) (door_met16 os _)) ?_
  intro W base args ds gs before hval0 hW _ _ hL _
  have hG : GN W := of_laid16 hL
  have hval : ∀ (j : Nat) t v, Tryz.f4.params[j]? = some t → args[j]? = some v → Value.okWide Tryz.prog W .any base t v := hval0
  have hW' := hW
  obtain ⟨p, q, hA0, hV, rfl, hfz, hnd⟩ := hW
  have hA : DataW.TrodAll enc Tryz.prog W 0 (fun _ => true) true Tryz.f4.params.toList args.toList ds p := hA0
  rw [Tryz.params4] at hA hval
  obtain ⟨v0, vs0, d0, ds0, p0, q0, hargs, rfl, rfl, h0, r0⟩ := trodAll_cons hA
  obtain ⟨v1, vs1, d1, ds1, p1, q1, rfl, rfl, rfl, h1, r1⟩ := trodAll_cons r0
  obtain ⟨rfl, rfl, rfl⟩ := trodAll_nil r1
  obtain rfl : args = #[v0, v1] := by cases args; simp_all
  obtain ⟨rfl, rfl⟩ := trodVars_none hV
  obtain ⟨a0, len0, cap0, rfl⟩ := okWide_slice Tryz.underlying35 (hval 0 35 v0 rfl rfl)
  have k0 := h0
  have lt0 : ∀ x ∈ p0, x.block < W.heap.size := by obtain ⟨m, hm⟩ := k0; exact DataW.trod_lt m _ _ _ hm
  obtain ⟨z0, w0⟩ := strs_open h0 lt0
  obtain ⟨a1, rfl, rfl, rfl⟩ := open_bool Tryz.underlying4 (hval 1 4 v1 rfl rfl) h1
  have w1 := trivial
  clear hA0 hval0
  refine (walk HC a0 len0 cap0 z0 a1 W hG w0 w1).mono fun e W' ⟨he, bel⟩ => ?_
  subst he
  exact ⟨_, rfl, _, _, _, [], _, [], hW', trodAll_mk1 (shut_bool Tryz.underlying4 _), (trodAll_cons_mk (Below.trod laidOut (by kernel_rfl) (of_decide_eq_true (by kernel_rfl)) k0 bel lt0) (trodAll_cons_mk (shut_bool Tryz.underlying4 _) trodAll_mk0)), rfl, bel.frame _, fun h => by cases h⟩

theorem over (HC : FoldC GN) : Rows.foldFoldsRow.holds Tryz.pinned (OpenSpec.ofChange Rows.foldFoldsSpec) :=
  OpenClaim.holds_of_wide 4 Tryz.f4 rfl rfl rfl rfl rfl rfl rfl ⟨rfl, rfl, rfl, rfl, rfl⟩ rfl rfl rfl rfl rfl (by kernel_rfl) Tryz.func4 (by kernel_rfl)
    (of_decide_eq_true (by kernel_rfl)) (by unfold Func.isWrapper; first | (rw [if_pos (by decide +kernel)]; kernel_rfl) | (rw [if_neg (by decide +kernel)]; exact ⟨rfl, rfl⟩))
    (fun os started H enc _ => lifted HC os started H enc)

/-- The row's statement. -/
theorem row_holds : Rows.FoldFoldsSaid := over foldC
/-- The statement: the row, its table tied to the program's text. -/
theorem proved : Rows.FoldFoldsCardSaid :=
  Claim7.holds_tied_plain_at .later [] [.data, .data, .data, .sentinel, .sentinel, .data] true Rows.foldFoldsCard.stood.harness Rows.foldFoldsCard.stood.looks
    row_holds (fun _ h => by cases h) (by kernel_rfl) (fun _ h => by cases h) foldFolds_row_tie rfl ⟨rfl, rfl⟩ (by kernel_rfl) rfl
    (fun f fn hf hfn => by
      obtain rfl : f = 4 := Option.some.inj ((show Tryz.prog.funcNamed "vestibule/vestibulelaw16.FoldFolds" = some 4 by kernel_rfl).symm.trans hf) |>.symm
      obtain rfl : fn = Tryz.f4 := (Option.some.inj (Tryz.func4.symm.trans hfn)).symm
      exact ⟨by kernel_rfl, fun j t ht => by
        have hm : t ∈ Tryz.f4.params.toList := by simpa using Array.mem_of_getElem? ht
        have hall : (Tryz.f4.params.toList.all fun u => !Tryz.prog.wantsStandIn u) = true := by kernel_rfl
        exact (show Tryz.prog.wantsStandIn t = false by simpa using List.all_eq_true.1 hall t hm)⟩)
    (by kernel_rfl)
#print axioms proved
end Go.Proofs.YtickkaeaaemakaaGreatDoor.foldFolds
