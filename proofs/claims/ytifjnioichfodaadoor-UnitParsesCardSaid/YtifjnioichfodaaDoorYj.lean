/- The statement UnitParses holds, over what the calls have to return: what a file comes to; its bytes stay as they were. -/
import Derived.Test.YtifjnioichfodaaDoorRows
import Derived.Test.YtifjnioichfodaaDoorCards
import Derived.Test.YtifjnioichfodaaDoorTie
import Derived.SevenTiedAt
import Derived.Test.YtifjnioichfodaaDoorFr
import Derived.Test.YtifjnioichfodaaDoorZn
import Derived.Test.YtifjnioichfodaaDoorXf
import Derived.Test.YtifjnioichfodaaDoorYw
import Derived.Test.YtifjnioichfodaaDoorYh
import Derived.Test.YtifjnioichfodaaDoorLl
namespace Go.Proofs.YtifjnioichfodaaDoor.unitParses
open Go.ChangeShapes Go.WideShapes Go.ChangeAt Go.RowKit
open Go.ChangeMaps (open_string shut_string)
set_option linter.unusedVariables false
attribute [local go_sem ↓] Go.wp_at_zero Go.wp_at_succ
set_option linter.unusedSimpArgs false
theorem great_c (f0 : ByteArray) (d0 : Int) (p0 : Option Addr) (len0 cap0 : Nat) (W : World) : Calls Tryd.prog 7 #[.agg #[.string f0, .int .i64 d0, .slice p0 len0 cap0]] W fun e w' => e = .returned (.bool (decide (70000 < len0) || decide (200 < f0.size))) ∧ Below W.heap.size W w' := by
  by_cases h1 : 70000 < len0
  · rw [decide_eq_true h1, Bool.true_or]
    have i1 : (len0 : Int) > 70000 := by omega
    have i2 : (70000 : Int) < len0 := by omega
    clear h1
    go_enter Tryd.func7, Tryd.ntmps7
    go_wp2_with fail
    go_ret
    exact ⟨rfl, (Below.refl _ _).alloc (Nat.le_refl _) _⟩
  · rw [decide_eq_false h1, Bool.false_or]
    have i1 : ¬ (len0 : Int) > 70000 := by omega
    have i2 : (len0 : Int) ≤ 70000 := by omega
    clear h1
    by_cases h2 : 200 < f0.size
    · rw [decide_eq_true h2]
      have i3 : (200 : Int) < f0.size := by omega
      have i4 : (f0.size : Int) > 200 := by omega
      clear h2
      go_enter Tryd.func7, Tryd.ntmps7
      go_wp2_with fail
      go_ret
      exact ⟨by first | rfl | simp, (Below.refl _ _).alloc (Nat.le_refl _) _⟩
    · rw [decide_eq_false h2]
      have i3 : ¬ (200 : Int) < f0.size := by omega
      have i4 : ¬ (f0.size : Int) > 200 := by omega
      clear h2
      go_enter Tryd.func7, Tryd.ntmps7
      go_wp2_with fail
      go_ret
      exact ⟨by first | rfl | simp, (Below.refl _ _).alloc (Nat.le_refl _) _⟩
theorem rdb_set {w : World} {B b : Nat} {p : Option Addr} {l : List UInt8} {v : Value} (h : RdB w B p l) (hb : ∀ g o, p = some ⟨g, o, none⟩ → g ≠ b) : RdB (w.setCell ⟨b, 2, none⟩ v) B p l := fun h0 => by
  obtain ⟨g, o, rfl, hg, hc⟩ := h h0
  refine ⟨g, o, rfl, hg, fun i hi => ?_⟩
  rw [World.cell?_setCell_other (a := ⟨b, 2, none⟩) (b := ⟨g, o + i, none⟩) w (h := fun e => hb g o rfl (congrArg Addr.block e).symm)]
  exact hc i hi
set_option maxRecDepth 100000 in
set_option maxHeartbeats 16000000 in
theorem walk {G : World → Prop} (HC : UnitC G) (f0 : ByteArray) (d0 : Int) (p0 : Option Addr) (len0 cap0 : Nat) (z0 : List Int) (w : World) (hG : G w) (wf : f0.size ≤ maxLen) (w0 : IsBytes w p0 len0 cap0 z0) :
    Calls Tryd.prog 3 #[.agg #[.string f0, .int .i64 d0, .slice p0 len0 cap0]] w fun e w' => e = .returned (.bool true) ∧ Below w.heap.size w w' := by
  have HGT := Lib.hid (fun (W : World) => great_c f0 d0 p0 len0 cap0 W)
  by_cases hlong : 70000 < len0 ∨ 200 < f0.size
  · rw [show (decide (70000 < len0) || decide (200 < f0.size)) = true from by rcases hlong with h | h <;> simp [h]] at HGT
    clear HC hG w0 wf hlong
    go_enter Tryd.func3, Tryd.ntmps3
    go_wp2_with (go_at_call 7; ((with_reducible refine (HGT.out _).mono ?_); rintro e v1 ⟨rfl, b1⟩))
    go_ret
    exact ⟨rfl, thn13 ((Below.refl _ _).alloc (Nat.le_refl _) _) b1⟩
  have hs1 : len0 ≤ 70000 := by omega
  rw [show (decide (70000 < len0) || decide (200 < f0.size)) = false from by rw [decide_eq_false (by omega), decide_eq_false (by omega)]; rfl] at HGT
  obtain ⟨l0, rfl⟩ := byt_list w0.byt
  obtain ⟨hl0, hr0⟩ := rdb_of w0
  have HFIT := Lib.hid w0.fits
  have HMOST := Lib.hid w0.most
  have HNIL := Lib.hid w0.nil
  have HL0 := Lib.hid hl0
  have HR0 := Lib.hid hr0
  have HON := Lib.hid (fun (w w' : World) => HC.on (w := w) (w' := w'))
  have HG := Lib.hid hG
  have HS1 := Lib.hid hs1
  have HP := Lib.hid (fun (W : World) (a0 : Option Addr) (cap : Nat) (g : G W) (h2 : len0 ≤ cap) (h3 : cap ≤ maxLen) (h4 : a0 = none → cap = 0) (h5 : RdB W W.heap.size a0 l0) => HC.parse f0 d0 a0 len0 cap l0 W g wf hl0 (by omega) h2 h3 h4 h5)
  have RP := Lib.hid (fun (W : World) (a0 : Option Addr) (cap : Nat) (h2 : len0 ≤ cap) (h3 : cap ≤ maxLen) (h5 : RdB W W.heap.size a0 l0) => refParse13 f0 d0 a0 len0 cap l0 W hl0 (by omega) h2 h3 h5)
  have LA := Lib.hid (filA_len f0 l0)
  have LN := Lib.hid (filN_len f0 l0)
  obtain ⟨OA, hOA⟩ : ∃ O, O = filA f0 l0 := ⟨_, rfl⟩
  obtain ⟨ON, hON⟩ : ∃ O, O = filN f0 l0 := ⟨_, rfl⟩
  rw [← hOA] at HP RP LA
  rw [← hON] at HP RP LN
  have HW := Lib.hid (fun (W : World) (g : G W) => awake13_any HC W g)
  have HSA := Lib.hid (fun (u v : Value) (W : World) (hu : RowsAt 5 encA W u OA) (hv : RowsAt 5 encA W v OA) => sameA_yes u v OA W hu hv (Nat.le_trans LA.out (by decide)))
  have HSN := Lib.hid (fun (u v : Value) (W : World) (hu : RowsAt 4 encN W u ON) (hv : RowsAt 4 encN W v ON) => sameN_yes u v ON W hu hv (Nat.le_trans LN.out (by decide)))
  have t3 : ((bs l0).toList == (bs l0).toList) = true := by simp
  have BU := Lib.hid ((Below.refl w.heap.size w).alloc (Nat.le_refl _) (.cells #[.string f0, .int .i64 d0, .slice p0 len0 cap0] 24))
  clear HC hG w0 wf hlong hOA hON hl0 hr0 hs1 LA LN
  go_enter Tryd.func3, Tryd.ntmps3
  go_wp2_with (first
    | (go_at_call 7; ((with_reducible refine (HGT.out _).mono ?_); rintro e W1 ⟨rfl, b1⟩); have hb0 := (b1.block w.heap.size (by rw [World.size_alloc]; exact Nat.lt_succ_self _)).trans (heap_alloc_new w _); have x0 := (cell_of_row W1 w.heap.size 0 _ _ (0, 0) hb0).trans (show _ = some (Value.string f0) from rfl); have x1 := (cell_of_row W1 w.heap.size 1 _ _ (0, 0) hb0).trans (show _ = some (Value.int .i64 d0) from rfl); have x2 := (cell_of_row W1 w.heap.size 2 _ _ (0, 0) hb0).trans (show _ = some (Value.slice p0 len0 cap0) from rfl); have hlt1 : w.heap.size < W1.heap.size := Nat.lt_of_lt_of_le (by rw [World.size_alloc]; exact Nat.lt_succ_self _) b1.size; have B1 := Lib.hid (thn13 BU.out b1); clear b1 hb0)
    | (at_builtin
       have O1 := World.ownsRow_lit (base := W1.heap.size + 1) (e := 5) (size := 1) (W1.alloc (.cells #[.string f0, .int .i64 d0, .slice p0 len0 cap0] 24)) #[] 0 (by rw [World.size_alloc]; exact Nat.le_refl _) (Nat.zero_le _) rfl
       have e1 : (W1.alloc (.cells #[.string f0, .int .i64 d0, .slice p0 len0 cap0] 24)).heap.size = W1.heap.size + 1 := World.size_alloc _ _
       rw [e1] at O1
       have B2 := (B1.out.alloc B1.out.size (.cells #[.string f0, .int .i64 d0, .slice p0 len0 cap0] 24)).alloc (by rw [e1]; exact Nat.le_succ_of_le B1.out.size) (.cells #[] 5)
       refine wpList_app_b rfl (.tmp 11) (.tmp 13) rfl (W1.heap.size + 1) _ 0 [] rfl O1 p0 len0 cap0 l0 rfl HL0.out (HR0.out.on B2) HNIL.out HFIT.out (by have := HS1.out; omega) (by rw [World.size_alloc, e1]; exact Nat.le_succ _) ?_
       intro vA wA oA hA
       rw [Nat.zero_add, List.nil_append] at oA
       obtain ⟨q2, c2, rfl⟩ := own_form12 oA
       obtain ⟨s1, s2, s3, s4, s5⟩ := rdb_own oA
       have hk : ∀ b, b < W1.heap.size + 1 → wA.heap[b]? = (W1.alloc (.cells #[.string f0, .int .i64 d0, .slice p0 len0 cap0] 24)).heap[b]? := fun b hb => (hA.block b (by rw [World.size_alloc, e1]; omega) (fun h => by have h2 : b = W1.heap.size + 1 := Option.some.inj (show some b = some (W1.heap.size + 1) from h); omega)).trans (Below.heap_alloc _ _ b (by rw [e1]; exact hb))
       have r1 := (hk W1.heap.size (by omega)).trans (heap_alloc_new W1 (.cells #[.string f0, .int .i64 d0, .slice p0 len0 cap0] 24))
       have hc : ∀ i, wA.cell? ⟨w.heap.size, i, none⟩ = W1.cell? ⟨w.heap.size, i, none⟩ := fun i => World.cell?_of_block (a := ⟨w.heap.size, i, none⟩) ((hk w.heap.size (by omega)).trans (Below.heap_alloc W1 _ _ hlt1))
       have z0 := (cell_of_row wA W1.heap.size 0 _ _ (0, 0) r1).trans (show _ = some (Value.string f0) from rfl)
       have z1 := (cell_of_row wA W1.heap.size 1 _ _ (0, 0) r1).trans (show _ = some (Value.int .i64 d0) from rfl)
       have z2 := (cell_of_row wA W1.heap.size 2 _ _ (0, 0) r1).trans (show _ = some (Value.slice p0 len0 cap0) from rfl)
       have fz : wA.frozen? ⟨W1.heap.size, 2, none⟩ = false := frozen_of_row wA W1.heap.size 2 _ _ r1
       have BA := B2.grown hA (by rw [World.size_alloc, e1]; have := B1.out.size; omega) (fun g hg => by have := (O1.lt g hg).1; have := B1.out.size; omega)
       obtain ⟨XS, hXS⟩ : ∃ X, X = wA.setCell ⟨W1.heap.size, 2, none⟩ (.slice q2 len0 c2) := ⟨_, rfl⟩
       have hsz : XS.heap.size = wA.heap.size := by rw [hXS]; simp
       have BX := BA.setCell (p := ⟨W1.heap.size, 2, none⟩) (show w.heap.size ≤ W1.heap.size by omega) (.slice q2 len0 c2)
       have R2 : RdB XS XS.heap.size q2 l0 := by
         rw [hsz, hXS]
         exact rdb_set s2 fun g o e => by subst e; have := (oA.lt g rfl).1; omega
       have m2 : XS.cell? ⟨W1.heap.size, 2, none⟩ = some (.slice q2 len0 c2) := by rw [hXS]; exact World.cell?_setCell_same _ _ _ z2
       have hd : ∀ i, XS.cell? ⟨w.heap.size, i, none⟩ = W1.cell? ⟨w.heap.size, i, none⟩ := fun i => by
         rw [hXS, World.cell?_setCell_other (a := ⟨W1.heap.size, 2, none⟩) (b := ⟨w.heap.size, i, none⟩) wA (h := fun e => by have := congrArg Addr.block e; simp at this; omega)]
         exact hc i
       have X0 := Lib.hid ((hd 0).trans x0)
       have X1 := Lib.hid ((hd 1).trans x1)
       have X2 := Lib.hid ((hd 2).trans x2)
       have M2 := Lib.hid m2
       rw [← hXS] at BX
       have BXX := Lib.hid BX
       have GX := Lib.hid (HON.out _ _ HG.out BX)
       have RR := Lib.hid R2
       rw [hXS] at RR GX
       have S3 := Lib.hid s3
       have S4 := Lib.hid s4
       have S5 := Lib.hid s5
       have EX := Lib.hid hXS
       clear O1 e1 B2 oA hA s1 s2 s3 s4 s5 hk r1 hc BA hsz BX R2 m2 hd hXS)
    | (go_at_call 8; ((with_reducible refine (HP.out _ _ _ GX.out S3.out S4.out S5.out RR.out).mono ?_); rintro e v3 ⟨va, vn, rfl, sa, sn, b3⟩); rw [← EX.out] at b3; have B3 := Lib.hid (thn13 BXX.out b3); have G3 := Lib.hid (HON.out _ _ HG.out B3.out); have y0 := (b3.cell (World.block_lt_of_cell? _ _ X0.out)).trans X0.out; have y1 := (b3.cell (World.block_lt_of_cell? _ _ X1.out)).trans X1.out; have y2 := (b3.cell (World.block_lt_of_cell? _ _ X2.out)).trans X2.out; have m3 := (b3.cell (World.block_lt_of_cell? _ _ M2.out)).trans M2.out; have RC := RR.out; rw [← EX.out] at RC; have R3 := Lib.hid (RC.on b3); have A3 := Lib.hid sa; have N3 := Lib.hid sn; clear RC sa sn b3)
    | (go_at_call 9; ((with_reducible refine (RP.out _ _ _ HFIT.out HMOST.out (HR0.out.on B3.out)).mono ?_); rintro e v4 ⟨ua, un, rfl, sa, sn, b4⟩); have B4 := Lib.hid (thn13 B3.out b4); have G4 := Lib.hid (HON.out _ _ HG.out B4.out); have yy2 := (b4.cell (World.block_lt_of_cell? _ _ y2)).trans y2; have m4 := (b4.cell (World.block_lt_of_cell? _ _ m3)).trans m3; have R4 := Lib.hid (R3.out.on b4); have A4 := Lib.hid (A3.out.on b4); have N4 := Lib.hid (N3.out.on b4); have UA := Lib.hid sa; have UN := Lib.hid sn; clear sa sn b4)
    | (go_at_call 10; ((with_reducible refine (HSA.out _ _ _ A4.out UA.out).mono ?_); rintro e v5 ⟨rfl, b5⟩); have B5 := Lib.hid (thn13 B4.out b5); have yz2 := (b5.cell (World.block_lt_of_cell? _ _ yy2)).trans yy2; have m5 := (b5.cell (World.block_lt_of_cell? _ _ m4)).trans m4; have R5 := Lib.hid (R4.out.on b5); have N5 := Lib.hid (N4.out.on b5); have UN5 := Lib.hid (UN.out.on b5); clear b5)
    | (go_at_call 11; ((with_reducible refine (HSN.out _ _ _ N5.out UN5.out).mono ?_); rintro e v6 ⟨rfl, b6⟩); have B6 := Lib.hid (thn13 B5.out b6); have G6 := Lib.hid (HON.out _ _ HG.out B6.out); have yw2 := (b6.cell (World.block_lt_of_cell? _ _ yz2)).trans yz2; have m6 := (b6.cell (World.block_lt_of_cell? _ _ m5)).trans m5; have R6 := Lib.hid (R5.out.on b6); have O6 := Lib.hid (HR0.out.on B6.out); clear b6)
    | ((with_reducible show wpList _ _ _ (⟨some 37, _, _, _, _, _⟩ :: _) _ _)
       refine wpList_str12g (by first | rfl | simp [Region.wanted, yielded]) rfl rfl HL0.out R6.out ?_)
    | ((with_reducible show wpList _ _ _ (⟨some 40, _, _, _, _, _⟩ :: _) _ _)
       refine wpList_str12g (by first | rfl | simp [Region.wanted, yielded]) rfl rfl HL0.out O6.out ?_)
    | (go_at_call 12; ((with_reducible refine (HW.out _ G6.out).mono ?_); rintro e v7 ⟨rfl, b7⟩); have B7 := Lib.hid (thn13 B6.out b7); clear b7))
  go_ret
  exact ⟨by first | rfl | simp, B7.out⟩

set_option maxRecDepth 100000 in
theorem lifted (HC : UnitC G12) (os : Os) (started : os.Started) (H : Type) (enc : TypeId × Value → H) :
    ReturnsInHanded {} Tryd.checked os 3 .any (fun w args => (Rows.unitParsesSpec.pre enc Tryd.prog Tryd.f3 [] false w args ∧ laidMetH Tryd.prog listed12 w) ∧ sizedMet enc Tryd.prog Tryd.f3 (OpenSpec.ofChange Rows.unitParsesSpec) false w args)
      (Rows.unitParsesSpec.post enc Tryd.prog Tryd.f3 false true false false) := by
  refine returnsInHanded_of_change_and (C := Tryd.checked) (X := fun w _ => laidMetH Tryd.prog listed12 w) (fun _ _ _ hh h => h.of_heap hh) ownKnob_none started (by kernel_rfl) Tryd.func3
    (ChangeSpec.witness_shaped (enc := enc) (C := Tryd.checked) (os := os) (X := fun w _ => laidMetH Tryd.prog listed12 w) false (World.laidAll Tryd.prog os listed12) #[.agg #[.string ⟨#[]⟩, .int .i64 0, .slice none 0 0]] 8 (World.laidAll_os _ _ _) (World.shaped_of_ZipB (by kernel_rfl) (by kernel_rfl)) (by kernel_rfl) (by kernel_rfl) (by kernel_rfl) (by rw [MakeChecks.laidMetH_plain _ _ _ (by kernel_rfl)]; exact laidMet_laidAll _ (by kernel_rfl) (by kernel_rfl))) ?_
  intro W base args ds gs before hval0 hW _ _ hL _
  have hG : G12 W := of_laid12 hL
  have hval : ∀ (j : Nat) t v, Tryd.f3.params[j]? = some t → args[j]? = some v → Value.okWide Tryd.prog W .any base t v := hval0
  have hW' := hW
  obtain ⟨p, q, hA0, hV, rfl, hfz, hnd⟩ := hW
  have hA : DataW.TrodAll enc Tryd.prog W 0 (fun _ => true) true Tryd.f3.params.toList args.toList ds p := hA0
  rw [Tryd.params3] at hA hval
  obtain ⟨v0, vs0, d0, ds0, p0, q0, hargs, rfl, rfl, h0, r0⟩ := trodAll_cons hA
  obtain ⟨rfl, rfl, rfl⟩ := trodAll_nil r0
  obtain rfl : args = #[v0] := by cases args; simp_all
  obtain ⟨rfl, rfl⟩ := trodVars_none hV
  have k0 := h0
  have lt0 : ∀ x ∈ p0, x.block < W.heap.size := by obtain ⟨m, hm⟩ := k0; exact DataW.trod_lt m _ _ _ hm
  obtain ⟨fn0, fd0, fa0, len0, cap0, z0, x0, w0, rfl⟩ := file_open (hval 0 24 v0 rfl rfl) h0 lt0
  clear hA0 hval0
  refine (walk HC fn0 fd0 fa0 len0 cap0 z0 W hG x0 w0).mono fun e W' ⟨he, bel⟩ => ?_
  subst he
  exact ⟨_, rfl, _, _, _, [], _, [], hW', trodAll_mk1 (shut_bool Tryd.underlying4 _), (trodAll_cons_mk (Below.trod laidOut (by kernel_rfl) (of_decide_eq_true (by kernel_rfl)) k0 bel lt0) trodAll_mk0), rfl, bel.frame _, fun h => by cases h⟩

theorem over (HC : UnitC G12) : Rows.unitParsesRow.holds Tryd.pinned (OpenSpec.ofChange Rows.unitParsesSpec) :=
  OpenClaim.holds_of_wide 3 Tryd.f3 rfl rfl rfl rfl rfl rfl rfl ⟨rfl, rfl, rfl, rfl, rfl⟩ rfl rfl rfl rfl rfl (by kernel_rfl) Tryd.func3 (by kernel_rfl)
    (of_decide_eq_true (by kernel_rfl)) (by unfold Func.isWrapper; first | (rw [if_pos (by decide +kernel)]; kernel_rfl) | (rw [if_neg (by decide +kernel)]; exact ⟨rfl, rfl⟩))
    (fun os started H enc _ => lifted HC os started H enc)

/-- The row's statement. -/
theorem row_holds : Rows.UnitParsesSaid := over unitC
/-- The statement: the row, its table tied to the program's text. -/
theorem proved : Rows.UnitParsesCardSaid :=
  Claim7.holds_tied_plain_at .later [] [.data, .pinned] true Rows.unitParsesCard.stood.harness Rows.unitParsesCard.stood.looks
    row_holds (fun _ h => by cases h) (by kernel_rfl) (fun _ h => by cases h) unitParses_row_tie rfl ⟨rfl, rfl⟩ (by kernel_rfl) rfl
    (fun f fn hf hfn => by
      obtain rfl : f = 3 := Option.some.inj ((show Tryd.prog.funcNamed "vestibule/vestibulelaw13.UnitParses" = some 3 by kernel_rfl).symm.trans hf) |>.symm
      obtain rfl : fn = Tryd.f3 := (Option.some.inj (Tryd.func3.symm.trans hfn)).symm
      exact ⟨by kernel_rfl, fun j t ht => by
        have hm : t ∈ Tryd.f3.params.toList := by simpa using Array.mem_of_getElem? ht
        have hall : (Tryd.f3.params.toList.all fun u => !Tryd.prog.wantsStandIn u) = true := by kernel_rfl
        exact (show Tryd.prog.wantsStandIn t = false by simpa using List.all_eq_true.1 hall t hm)⟩)
    (by kernel_rfl)
#print axioms proved
end Go.Proofs.YtifjnioichfodaaDoor.unitParses
