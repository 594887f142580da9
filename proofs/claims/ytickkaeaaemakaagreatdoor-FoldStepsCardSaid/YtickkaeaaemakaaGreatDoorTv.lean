/- The statement FoldSteps holds, over what the calls have to return: what a value makes of a list, and what is noted; the list stays as it was. -/
import Derived.Test.YtickkaeaaemakaaGreatDoorRows
import Derived.Test.YtickkaeaaemakaaGreatDoorCards
import Derived.Test.YtickkaeaaemakaaGreatDoorTie
import Derived.SevenTiedAt
import Derived.Test.YtickkaeaaemakaaGreatDoorWd
import Derived.Test.YtickkaeaaemakaaGreatDoorTz
import Derived.Test.YtickkaeaaemakaaGreatDoorTu
import Derived.Test.YtickkaeaaemakaaGreatDoorLr
import Derived.BigQuiet
import Derived.Deep.QuietTactic
namespace Go.Proofs.YtickkaeaaemakaaGreatDoor.foldSteps
open Go.ChangeShapes Go.WideShapes Go.ChangeAt Go.RowKit
open Go.ChangeMaps (open_string shut_string)
set_option linter.unusedVariables false
attribute [local go_sem ↓] Go.wp_at_zero Go.wp_at_succ
set_option maxRecDepth 100000 in
set_option maxHeartbeats 16000000 in
theorem walk {G : World → Prop} (HC : FoldC G) (m0 : Nat) (a0 : Option Addr) (len0 cap0 : Nat) (z0 : List Cl) (a1 : ByteArray) (a2 : Bool) (w : World) (hG : G w) (x0 : m0 < 256) (w0 : IsCalls w a0 len0 cap0 z0) (w1 : a1.size ≤ maxLen) (w2 : True) :
    Calls Tryz.prog 3 #[lsV m0 a0 len0 cap0, .string a1, .bool a2] w fun e w' => e = .returned (.bool true) ∧ Below w.heap.size w w' := by
  have HON := Lib.hid (fun (w w' : World) => HC.on (w := w) (w' := w'))
  have HG := Lib.hid hG
  have HLEN := Lib.hid w0.size
  have HACT := Lib.hid (fun e he => (w0.rng e he).2)
  have HRD := Lib.hid w0.rd
  have HAW := Lib.hid (fun (W : World) (g : G W) => awake16_any HC W g)
  have HGR := Lib.hid (fun (W : World) => great16 m0 a0 len0 cap0 W)
  unfold lsV at HGR ⊢
  obtain ⟨mi, hmi⟩ : ∃ x : Int, x = (m0 : Nat) := ⟨_, rfl⟩
  have HMI := Lib.hid hmi
  rw [← hmi] at HGR ⊢
  have HBX := Lib.hid (heap_alloc_new w (.cells #[.int .u8 mi, .slice a0 len0 cap0] 24))
  have B0 := Lib.hid (below16 w (.cells #[.int .u8 mi, .slice a0 len0 cap0] 24))
  by_cases hgr : 100 < len0
  · rw [decide_eq_true hgr] at HGR
    clear hgr hmi w0 w1 w2 hG HC
    go_enter Tryz.func3, Tryz.ntmps3
    go_wp2_with (go_at_call 9; ((with_reducible refine (HGR.out _).mono ?_); rintro e v1 ⟨rfl, b1⟩))
    go_ret
    exact ⟨rfl, thn16 B0.out b1⟩
  rw [decide_eq_false hgr] at HGR
  by_cases hlong : (1000 : Int) < a1.size
  · clear hgr hmi w0 w1 w2 hG HC
    go_enter Tryz.func3, Tryz.ntmps3
    go_wp2_with (go_at_call 9; ((with_reducible refine (HGR.out _).mono ?_); rintro e v1 ⟨rfl, b1⟩))
    go_ret
    exact ⟨rfl, thn16 B0.out b1⟩
  have hv : a1.size ≤ 1000 := by omega
  have HCO := Lib.hid (fun (W : World) (b : Below w.heap.size w W) => copied16 m0 a0 len0 cap0 z0 W w0.size.symm (by omega) (w0.rd.on b))
  have HST := Lib.hid (fun (W : World) (g : G W) (q : Option Addr) (n c : Nat) (hn : n = z0.length) (h : LsAt W q z0) => HC.step m0 q n c z0 a1 a2 W g x0 hn (by rw [hn, w0.size]; omega) (fun e he => (w0.rng e he).2) hv h)
  have HRS := Lib.hid (fun (W : World) (b : Below w.heap.size w W) => refStep16 m0 a0 len0 cap0 z0 a1 a2 W hv w0.size (by omega) (fun e he => (w0.rng e he).2) (w0.rd.on b))
  obtain ⟨r, hr⟩ : ∃ r, r = stepA a2 a1 (m0, z0) := ⟨_, rfl⟩
  rw [← hr] at HST HRS
  have hbound : r.1.2.length ≤ 100 ∧ r.2.length ≤ 1000 := by
    rw [hr]
    exact step_bound a2 a1 m0 z0 hv (by rw [w0.size]; omega)
  have HSA := Lib.hid (fun (W : World) (q q' : Option Addr) (n n' c c' : Nat) (hn : n = r.1.2.length) (hn' : n' = r.1.2.length) (h : LsAt W q r.1.2) (h' : LsAt W q' r.1.2) => same2 r.1.1 q q' n n' c c' r.1.2 W hn hn' (by omega) h h')
  have HSB := Lib.hid (fun (W : World) (q q' : Option Addr) (n n' c c' : Nat) (hn : n = z0.length) (hn' : n' = z0.length) (h : LsAt W q z0) (h' : LsAt W q' z0) => same2 m0 q q' n n' c c' z0 W hn hn' (by rw [w0.size]; omega) h h')
  have HSN := Lib.hid (fun (W : World) (u v : Value) (hu : RowsAt 4 encN W u (r.2.map nteS)) (hv : RowsAt 4 encN W v (r.2.map nteS)) => sameN_yes u v (r.2.map nteS) W hu hv (by rw [List.length_map]; omega))
  have HSPL := Lib.hid (fun (W : World) (q : Option Addr) (n c B : Nat) (hn : n = r.1.2.length) (hB : B ≤ W.heap.size) (h : W.ownsRow B 51 2 (.slice q n c) n (rowC encC r.1.2)) => spoil16 r.1.1 q n c B _ W (by omega) hB h)
  have w0s := Lib.hid (w0.size.symm)
  unfold StepL at HRS
  unfold NewL2 at HCO
  unfold lsV at HCO HST HRS HSA HSB HSPL
  obtain ⟨mr, hmr⟩ : ∃ x : Int, x = (r.1.1 : Nat) := ⟨_, rfl⟩
  rw [← hmi] at HCO HST HRS HSB
  rw [← hmr] at HST HRS HSA HSPL
  clear hgr hmi hmr w0 w1 w2 hG HC hr hbound x0 hv
  go_enter Tryz.func3, Tryz.ntmps3
  go_wp2_with (first
    | (go_at_call 9
       (with_reducible refine (HGR.out _).mono ?_)
       rintro e v1 ⟨rfl, b1⟩
       have B1 := Lib.hid (thn16 B0.out b1)
       have X1 := Lib.hid (blk_on HBX.out b1)
       have y0 := (cell_of_row v1 w.heap.size 0 _ _ (0, 0) X1.out).trans (show _ = some (Value.int .u8 mi) from rfl)
       have y1 := (cell_of_row v1 w.heap.size 1 _ _ (0, 0) X1.out).trans (show _ = some (Value.slice a0 len0 cap0) from rfl)
       clear b1)
    | (go_at_call 10
       (with_reducible refine (HCO.out _ B1.out).mono ?_)
       rintro e v2 ⟨q2, n2, c2, rfl, hn2, o2, b2⟩
       have N2 := Lib.hid hn2
       have B2 := Lib.hid (thn16 B1.out b2)
       have O2 := Lib.hid (LsAt.of_own o2 hn2)
       have X2 := Lib.hid (blk_on X1.out b2)
       clear b2 o2 hn2 y0 y1)
    | (go_at_call 11
       (with_reducible refine (HST.out _ (HON.out _ _ HG.out (B2.out.alloc B2.out.size (.cells #[.int .u8 mi, .slice q2 n2 c2] 24))) q2 n2 c2 N2.out (O2.out.on (below16 v2 (.cells #[.int .u8 mi, .slice q2 n2 c2] 24)))).mono ?_)
       rintro e v3 ⟨q3, n3, c3, vN3, rfl, hn3, o3, r3, b3⟩
       have N3 := Lib.hid hn3
       have B23 := Lib.hid (thn16 (below16 v2 (.cells #[.int .u8 mi, .slice q2 n2 c2] 24)) b3)
       have B3 := Lib.hid (thn16 B2.out B23.out)
       have O3 := Lib.hid o3
       have R3 := Lib.hid r3
       have X3 := Lib.hid (blk_on X2.out B23.out)
       have Z3 := Lib.hid (blk_on (heap_alloc_new v2 (.cells #[.int .u8 mi, .slice q2 n2 c2] 24)) b3)
       have y0 := (cell_of_row v3 w.heap.size 0 _ _ (0, 0) X3.out).trans (show _ = some (Value.int .u8 mi) from rfl)
       have y1 := (cell_of_row v3 w.heap.size 1 _ _ (0, 0) X3.out).trans (show _ = some (Value.slice a0 len0 cap0) from rfl)
       have hlw : w.heap.size < v3.heap.size := blk_lt X3.out
       clear b3 o3 r3 hn3)
    | (go_at_call 12
       (with_reducible refine (HRS.out _ (B3.out.alloc B3.out.size (.cells #[.int .u8 mr, .slice q3 n3 c3] 24))).mono ?_)
       rintro e v4 ⟨q4, n4, c4, vN4, rfl, hn4, cur4, r4, b4⟩
       have N4 := Lib.hid hn4
       have B34 := Lib.hid (thn16 (below16 v3 (.cells #[.int .u8 mr, .slice q3 n3 c3] 24)) b4)
       have B4 := Lib.hid (thn16 B3.out B34.out)
       have X4 := Lib.hid (blk_on X3.out B34.out)
       have Z4 := Lib.hid (blk_on Z3.out B34.out)
       have Y4 := Lib.hid (blk_on (heap_alloc_new v3 (.cells #[.int .u8 mr, .slice q3 n3 c3] 24)) b4)
       have O4 := Lib.hid (owns_on16 O3.out B34.out)
       have R4 := Lib.hid (R3.out.on B34.out)
       have W4 := Lib.hid (StepL.ls cur4 hn4 b4)
       have T4 := Lib.hid (nts_rows r4)
       have g0 := (cell_of_row v4 v3.heap.size 0 _ _ (0, 0) Y4.out).trans (show _ = some (Value.int .u8 mr) from rfl)
       have g1 := (cell_of_row v4 v3.heap.size 1 _ _ (0, 0) Y4.out).trans (show _ = some (Value.slice q3 n3 c3) from rfl)
       have hg4 : v3.heap.size < v4.heap.size := blk_lt Y4.out
       clear b4 cur4 r4 hn4 y0 y1 hlw)
    | (go_at_call 13
       (with_reducible refine (HSA.out _ q3 q4 n3 n4 c3 c4 N3.out N4.out (LsAt.of_own (owns_on16 O4.out (below16 v4 (.cells #[.int .u8 mr, .slice q4 n4 c4] 24))) N3.out) (W4.out.on (below16 v4 (.cells #[.int .u8 mr, .slice q4 n4 c4] 24)))).mono ?_)
       rintro e v5 ⟨rfl, b5⟩
       have B45 := Lib.hid (thn16 (below16 v4 (.cells #[.int .u8 mr, .slice q4 n4 c4] 24)) b5)
       have B5 := Lib.hid (thn16 B4.out B45.out)
       clear b5)
    | (go_at_call 14
       (with_reducible refine (HSN.out _ _ _ (R4.out.on B45.out) (T4.out.on B45.out)).mono ?_)
       rintro e v6 ⟨rfl, b6⟩
       have B46 := Lib.hid (thn16 B45.out b6)
       have B6 := Lib.hid (thn16 B4.out B46.out)
       have Y6 := Lib.hid (blk_on Y4.out B46.out)
       have h0 := (cell_of_row v6 v3.heap.size 0 _ _ (0, 0) Y6.out).trans (show _ = some (Value.int .u8 mr) from rfl)
       have h1 := (cell_of_row v6 v3.heap.size 1 _ _ (0, 0) Y6.out).trans (show _ = some (Value.slice q3 n3 c3) from rfl)
       clear b6 g0 g1)
    | (go_at_call 15
       (with_reducible refine (HSPL.out _ q3 n3 c3 _ N3.out (by have h1 := B46.out.size; have h2 := B34.out.size; have h3 := B23.out.size; have h4 := blk_lt Z4.out; rw [World.size_alloc]; omega) (owns_on16 O4.out B46.out)).mono ?_)
       rintro e v7 ⟨rfl, b7⟩
       have hsz : w.heap.size ≤ v2.heap.size := B2.out.size
       have B7 := Lib.hid (B6.out.trans (b7.mono (by rw [World.size_alloc]; omega)))
       have X7 := Lib.hid ((b7.block _ (by rw [World.size_alloc]; omega)).trans (blk_on X4.out B46.out))
       have Z7 := Lib.hid ((b7.block v2.heap.size (by rw [World.size_alloc]; exact Nat.lt_succ_self _)).trans (blk_on Z4.out B46.out))
       have I7 := Lib.hid (O2.out.on (((B23.out.trans (B34.out.mono B23.out.size)).trans (B46.out.mono (Nat.le_trans B23.out.size B34.out.size))).trans (b7.mono (by rw [World.size_alloc]; exact Nat.le_succ _))))
       have k0 := (cell_of_row v7 v2.heap.size 0 _ _ (0, 0) Z7.out).trans (show _ = some (Value.int .u8 mi) from rfl)
       have k1 := (cell_of_row v7 v2.heap.size 1 _ _ (0, 0) Z7.out).trans (show _ = some (Value.slice q2 n2 c2) from rfl)
       have y0 := (cell_of_row v7 w.heap.size 0 _ _ (0, 0) X7.out).trans (show _ = some (Value.int .u8 mi) from rfl)
       have y1 := (cell_of_row v7 w.heap.size 1 _ _ (0, 0) X7.out).trans (show _ = some (Value.slice a0 len0 cap0) from rfl)
       clear b7 h0 h1 hsz hg4)
    | (go_at_call 13
       (with_reducible refine (HSB.out _ q2 a0 n2 len0 c2 cap0 N2.out w0s.out I7.out (HRD.out.on B7.out)).mono ?_)
       rintro e v8 ⟨rfl, b8⟩
       have B8 := Lib.hid (thn16 B7.out b8)
       clear b8 k0 k1 y0 y1)
    | (go_at_call 16
       (with_reducible refine (HAW.out _ (HON.out _ _ HG.out B8.out)).mono ?_)
       rintro e v9 ⟨rfl, b9⟩
       have B9 := Lib.hid (thn16 B8.out b9)
       clear b9))
  go_ret
  exact ⟨by first | rfl | simp, B9.out⟩

set_option maxRecDepth 100000 in
theorem lifted (HC : FoldC GN) (os : Os) (started : os.Started) (H : Type) (enc : TypeId × Value → H) :
    ReturnsInHanded {} Tryz.checked os 3 .any (fun w args => (Rows.foldStepsSpec.pre enc Tryz.prog Tryz.f3 [] false w args ∧ laidMetH Tryz.prog listed16 w) ∧ sizedMet enc Tryz.prog Tryz.f3 (OpenSpec.ofChange Rows.foldStepsSpec) false w args)
      (Rows.foldStepsSpec.post enc Tryz.prog Tryz.f3 false true false false) := by
  refine returnsInHanded_of_change_and (C := Tryz.checked) (X := fun w _ => laidMetH Tryz.prog listed16 w) (fun _ _ _ hh h => h.of_heap hh) ownKnob_none started (by kernel_rfl) Tryz.func3
    (ChangeSpec.witness_shaped (enc := enc) (C := Tryz.checked) (os := os) (X := fun w _ => laidMetH Tryz.prog listed16 w) false (World.doorLaid Tryz.prog 4000 os) #[.agg #[.int .u8 0, .slice none 0 0], .string ⟨#[]⟩, .bool false] 8 rfl (World.shaped_of_RefB (by kernel_rfl) (by kernel_rfl)) (by kernel_rfl) (by kernel_rfl) (by kernel_rfl) (door_met16 os _)) ?_
  intro W base args ds gs before hval0 hW _ _ hL _
  have hG : GN W := of_laid16 hL
  have hval : ∀ (j : Nat) t v, Tryz.f3.params[j]? = some t → args[j]? = some v → Value.okWide Tryz.prog W .any base t v := hval0
  have hW' := hW
  obtain ⟨p, q, hA0, hV, rfl, hfz, hnd⟩ := hW
  have hA : DataW.TrodAll enc Tryz.prog W 0 (fun _ => true) true Tryz.f3.params.toList args.toList ds p := hA0
  rw [Tryz.params3] at hA hval
  obtain ⟨v0, vs0, d0, ds0, p0, q0, hargs, rfl, rfl, h0, r0⟩ := trodAll_cons hA
  obtain ⟨v1, vs1, d1, ds1, p1, q1, rfl, rfl, rfl, h1, r1⟩ := trodAll_cons r0
  obtain ⟨v2, vs2, d2, ds2, p2, q2, rfl, rfl, rfl, h2, r2⟩ := trodAll_cons r1
  obtain ⟨rfl, rfl, rfl⟩ := trodAll_nil r2
  obtain rfl : args = #[v0, v1, v2] := by cases args; simp_all
  obtain ⟨rfl, rfl⟩ := trodVars_none hV
  have k0 := h0
  have lt0 : ∀ x ∈ p0, x.block < W.heap.size := by obtain ⟨m, hm⟩ := k0; exact DataW.trod_lt m _ _ _ hm
  obtain ⟨m0, a0, len0, cap0, z0, x0, w0, rfl⟩ := list_open (hval 0 24 v0 rfl rfl) h0 lt0
  obtain ⟨a1, rfl, rfl, rfl, w1⟩ := open_string Tryz.underlying9 (hval 1 9 v1 rfl rfl) h1
  obtain ⟨a2, rfl, rfl, rfl⟩ := open_bool Tryz.underlying4 (hval 2 4 v2 rfl rfl) h2
  have w2 := trivial
  clear hA0 hval0
  refine (walk HC m0 a0 len0 cap0 z0 a1 a2 W hG x0 w0 w1 w2).mono fun e W' ⟨he, bel⟩ => ?_
  subst he
  exact ⟨_, rfl, _, _, _, [], _, [], hW', trodAll_mk1 (shut_bool Tryz.underlying4 _), (trodAll_cons_mk (Below.trod laidOut (by kernel_rfl) (of_decide_eq_true (by kernel_rfl)) k0 bel lt0) (trodAll_cons_mk (shut_string Tryz.underlying9 w1) (trodAll_cons_mk (shut_bool Tryz.underlying4 _) trodAll_mk0))), rfl, bel.frame _, fun h => by cases h⟩

theorem over (HC : FoldC GN) : Rows.foldStepsRow.holds Tryz.pinned (OpenSpec.ofChange Rows.foldStepsSpec) :=
  OpenClaim.holds_of_wide 3 Tryz.f3 rfl rfl rfl rfl rfl rfl rfl ⟨rfl, rfl, rfl, rfl, rfl⟩ rfl rfl rfl rfl rfl (by kernel_rfl) Tryz.func3 (by kernel_rfl)
    (of_decide_eq_true (by kernel_rfl)) (by unfold Func.isWrapper; first | (rw [if_pos (by decide +kernel)]; kernel_rfl) | (rw [if_neg (by decide +kernel)]; exact ⟨rfl, rfl⟩))
    (fun os started H enc _ => lifted HC os started H enc)

/-- The row's statement. -/
theorem row_holds : Rows.FoldStepsSaid := over foldC
/-- The statement: the row, its table tied to the program's text. -/
theorem proved : Rows.FoldStepsCardSaid :=
  Claim7.holds_tied_plain_at .later [] [.data, .data, .data, .sentinel, .sentinel, .data] true Rows.foldStepsCard.stood.harness Rows.foldStepsCard.stood.looks
    row_holds (fun _ h => by cases h) (by kernel_rfl) (fun _ h => by cases h) foldSteps_row_tie rfl ⟨rfl, rfl⟩ (by kernel_rfl) rfl
    (fun f fn hf hfn => by
      obtain rfl : f = 3 := Option.some.inj ((show Tryz.prog.funcNamed "vestibule/vestibulelaw16.FoldSteps" = some 3 by kernel_rfl).symm.trans hf) |>.symm
      obtain rfl : fn = Tryz.f3 := (Option.some.inj (Tryz.func3.symm.trans hfn)).symm
      exact ⟨by kernel_rfl, fun j t ht => by
        have hm : t ∈ Tryz.f3.params.toList := by simpa using Array.mem_of_getElem? ht
        have hall : (Tryz.f3.params.toList.all fun u => !Tryz.prog.wantsStandIn u) = true := by kernel_rfl
        exact (show Tryz.prog.wantsStandIn t = false by simpa using List.all_eq_true.1 hall t hm)⟩)
    (by kernel_rfl)
#print axioms proved
end Go.Proofs.YtickkaeaaemakaaGreatDoor.foldSteps
