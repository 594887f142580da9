/- The statement LinesSplits holds, over what the calls have to return: the logical lines of bytes, and how many lines they have, are as the document says; the bytes stay as they were. -/
import Derived.Test.YtagmlphhmjdaiaaDoorRows
import Derived.Test.YtagmlphhmjdaiaaDoorCards
import Derived.Test.YtagmlphhmjdaiaaDoorTie
import Derived.SevenTiedAt
import Derived.Test.YtagmlphhmjdaiaaDoorFr
import Derived.Test.YtagmlphhmjdaiaaDoorZn
import Derived.Test.YtagmlphhmjdaiaaDoorZm
import Derived.Test.YtagmlphhmjdaiaaDoorLj
import Derived.Test.YtagmlphhmjdaiaaDoorLl
namespace Go.Proofs.YtagmlphhmjdaiaaDoor.linesSplits
set_option linter.unusedSimpArgs false
open Go.ChangeShapes Go.WideShapes Go.ChangeAt Go.RowKit
open Go.ChangeMaps (open_string shut_string)
set_option linter.unusedVariables false
attribute [local go_sem ↓] Go.wp_at_zero Go.wp_at_succ
theorem news_1 (w : World) (c : UInt8) (x : Int) (hx : x = c.toNat) (t : TypeId) : RdB (w.alloc (.cells #[.int .u8 x] t)) (w.alloc (.cells #[.int .u8 x] t)).heap.size (some ⟨w.heap.size, 0, none⟩) [c] := fun _ => by
  refine ⟨w.heap.size, 0, rfl, by simp, fun i hi => ?_⟩
  match i, hi with
  | 0, _ =>
    rw [Nat.zero_add, cell_of_row _ _ _ _ _ (0, 0) (heap_alloc_new w _), hx]; rfl
set_option maxRecDepth 100000 in
set_option maxHeartbeats 16000000 in
theorem walk {G : World → Prop} (HC : LinesC G) (a0 : Option Addr) (len0 cap0 : Nat) (z0 : List Int) (a1 : Int) (a2 : Int) (w : World) (hG : G w) (w0 : IsBytes w a0 len0 cap0 z0) (w1 : (Lit.int .i64 a1).wf = true) (w2 : (Lit.int .u8 a2).wf = true) :
    Calls Tryd.prog 3 #[.slice a0 len0 cap0, .int .i64 a1, .int .u8 a2] w fun e w' => e = .returned (.bool true) ∧ Below w.heap.size w w' := by
  by_cases hlong : (70000 : Int) < len0
  · clear HC hG w0 w1 w2
    go_enter Tryd.func3, Tryd.ntmps3
    go_wp2_with fail
    go_ret
    exact ⟨rfl, Below.refl _ _⟩
  obtain ⟨x0, x1⟩ := bounds_u8 w2
  obtain ⟨l0, rfl⟩ := byt_list w0.byt
  obtain ⟨hl0, hr0⟩ := rdb_of w0
  have hfit := w0.fits
  have hmost := w0.most
  have hnil := w0.nil
  obtain ⟨M, hM⟩ := Int.eq_ofNat_of_zero_le (show 0 ≤ a1 % 18446744073709551616 % 70000 by omega)
  have hM2 : M < 70000 := by omega
  have ht : Int.tmod (IntKind.u64.wrap a1) 70000 = M := by rw [IntKind.wrap_u64, Int.tmod_eq_emod_of_nonneg (by omega)]; omega
  have ht2 : IntKind.i64.wrap (M : Int) = M := by rw [IntKind.wrap_i64]; omega
  obtain ⟨cc, hcc⟩ : ∃ c : UInt8, c = UInt8.ofNat a2.toNat := ⟨_, rfl⟩
  have hx : a2 = (cc.toNat : Int) := by rw [hcc, UInt8.toNat_ofNat']; omega
  have HX := Lib.hid hx
  have HON := Lib.hid (fun (w w' : World) => HC.on (w := w) (w' := w'))
  have HG := Lib.hid hG
  have HAW := Lib.hid (fun (W : World) (g : G W) => awake12_any HC W g)
  have HCC := Lib.hid HC
  have HL0 := Lib.hid hl0
  have HR0 := Lib.hid hr0
  have HNIL := Lib.hid hnil
  have k7 : (len0 : Int) ≤ 70000 := by omega
  have B0 := Lib.hid ((Below.refl w.heap.size w).alloc (Nat.le_refl _) (.cells #[] 5))
  have O0 := Lib.hid (World.ownsRow_lit (base := w.heap.size) (e := 5) (size := 1) w #[] 0 (Nat.le_refl _) (Nat.zero_le _) rfl)
  clear HC hG w0 w1 w2 hM hcc hx hl0 hr0 hnil x0 x1 hlong
  go_enter Tryd.func3, Tryd.ntmps3
  go_wp2_with (
    (at_builtin
     refine wpList_app_b rfl (.tmp 17) (.tmp 18) rfl w.heap.size _ 0 [] rfl O0.out a0 len0 cap0 l0 rfl HL0.out (HR0.out.on B0.out) HNIL.out hfit (by omega) (by simp) ?_
     intro vA wA oA hA
     rw [Nat.zero_add, List.nil_append] at oA
     have OA := Lib.hid oA
     have BA := Lib.hid (B0.out.grown hA (by simp) (fun g hg => by have := O0.out.lt g hg; exact this.1))
     clear oA hA))
  go_loopw [7, 8] (fun v7 v8 wr => ∃ k : Nat, k ≤ M ∧ v8 = .int .i64 ((M - k : Nat) : Int) ∧ Hid (wr.ownsRow w.heap.size 5 1 v7 (len0 + k) (bL (l0 ++ List.replicate k cc))) ∧ Hid (Below w.heap.size w wr)) (fun _ v8 _ => (intOf v8).toNat)
  case atStart => exact ⟨0, by omega, by first | rfl | simp, Lib.hid (by rw [List.replicate_zero, List.append_nil]; exact OA.out), BA⟩
  case round =>
    obtain ⟨k, hk, rfl, PO, PB⟩ := hrel
    obtain ⟨V, rfl⟩ : ∃ wo : World, wo = wr := ⟨_, rfl⟩
    by_cases hlt : k < M
    · obtain ⟨j, hj⟩ : ∃ j, j = M - k := ⟨_, rfl⟩
      rw [← hj]
      have j1 : (0 : Int) < j := by omega
      have j2 : 0 < j := by omega
      have hwj : IntKind.i64.wrap ((j : Int) - 1) = (j : Int) - 1 := by rw [IntKind.wrap_i64]; omega
      have HS := Lib.hid (show l0 ++ List.replicate k cc ++ [cc] = l0 ++ List.replicate (k + 1) cc from by rw [List.append_assoc, List.replicate_succ'])
      have R1 := Lib.hid (news_1 V cc a2 HX.out 5)
      have HJ := Lib.hid hj
      clear hj
      go_wp2_with (
        (at_builtin
         refine wpList_app_b rfl (.tmp 28) (.tmp 30) rfl w.heap.size _ (len0 + k) (l0 ++ List.replicate k cc) rfl (PO.out.alloc _) (some ⟨V.heap.size, 0, none⟩) 1 1 [cc] rfl rfl R1.out (fun h => by cases h) (Nat.le_refl _) (by omega) (by have := PB.out.size; simp; omega) ?_
         intro vB wB oB hB
         rw [HS.out] at oB
         have OB := Lib.hid oB
         have BB := Lib.hid ((PB.out.alloc PB.out.size _).grown hB (by have := PB.out.size; simp; omega) (fun g hg => (PO.out.lt g hg).1))
         clear oB hB))
      go_roundw
      case rel => exact ⟨k + 1, by omega, by have := HJ.out; first | (congr 1; omega) | (simp; omega), OB, BB⟩
      case measure => simp [intOf]; omega
    · obtain rfl : M = k := by omega
      have e0 : M - M = 0 := by omega
      obtain ⟨L, hL⟩ : ∃ L, L = l0 ++ List.replicate M cc := ⟨_, rfl⟩
      obtain ⟨n, hn⟩ : ∃ n, n = len0 + M := ⟨_, rfl⟩
      rw [← hL, ← hn] at PO
      have hn2 : n ≤ 140000 := by omega
      obtain ⟨q, c, hq⟩ := own_form12 PO.out
      subst hq
      obtain ⟨p1, p2, p3, p4, p5⟩ := rdb_own PO.out
      have P1 := Lib.hid p1
      have P2 := Lib.hid p2
      have P5 := Lib.hid p5
      have B1 := Lib.hid ((Below.refl V.heap.size V).alloc (Nat.le_refl _) (.cells #[] 5))
      have O1 := Lib.hid (World.ownsRow_lit (base := V.heap.size) (e := 5) (size := 1) V #[] 0 (Nat.le_refl _) (Nat.zero_le _) rfl)
      have HSP := Lib.hid (fun (W : World) (a0 : Option Addr) (cap : Nat) (g : G W) (h2 : n ≤ cap) (h3 : cap ≤ maxLen) (h4 : a0 = none → cap = 0) (h5 : RdB W W.heap.size a0 L) => HCC.out.split a0 n cap L W g p1 (by omega) h2 h3 h4 h5)
      have HCT := Lib.hid (fun (W : World) (a0 : Option Addr) (cap : Nat) (g : G W) (h2 : n ≤ cap) (h3 : cap ≤ maxLen) (h4 : a0 = none → cap = 0) (h5 : RdB W W.heap.size a0 L) => HCC.out.count a0 n cap L W g p1 (by omega) h2 h3 h4 h5)
      have RSP := Lib.hid (fun (W : World) (a0 : Option Addr) (cap : Nat) (h2 : n ≤ cap) (h3 : cap ≤ maxLen) (h5 : RdB W W.heap.size a0 L) => refSplit a0 n cap L W p1 (by omega) h2 h3 h5)
      have RLN := Lib.hid (fun (W : World) (a0 : Option Addr) (cap : Nat) (h2 : n ≤ cap) (h3 : cap ≤ maxLen) (h5 : RdB W W.heap.size a0 L) => refLines a0 n cap L W p1 (by omega) h2 h3 h5)
      obtain ⟨er, her⟩ : ∃ e, e = splE L := ⟨_, rfl⟩
      have hO1 := splL_len L
      obtain ⟨O, hO⟩ : ∃ e, e = splL L := ⟨_, rfl⟩
      obtain ⟨N, hN⟩ : ∃ e, e = (linL L).length := ⟨_, rfl⟩
      rw [← her, ← hO] at HSP RSP
      rw [← hN] at HCT RLN
      rw [← hO] at hO1
      obtain ⟨no, hno⟩ : ∃ e, e = O.length := ⟨_, rfl⟩
      have HNO := Lib.hid hno
      have HFN := Lib.hid (fun (v : Value) (W : World) (h : LnsAt W v O) => (by obtain ⟨q, c, e, hc⟩ := h; rw [← hno] at e; exact ⟨q, c, e, hc⟩ : ∃ q c, v = .slice q no c ∧ ∀ k p, O[k]? = some p → ∃ g o, q = some ⟨g, o, none⟩ ∧ W.cell? ⟨g, o + k * 2, none⟩ = some (.int .i64 ((p.1 : Nat) : Int)) ∧ W.cell? ⟨g, o + k * 2 + 1, none⟩ = some (.string (bs p.2))))
      rw [← hno] at hO1
      have t1 : (er != er) = false := by simp
      have t2 : ((no : Int) != (no : Int)) = false := by simp
      have t3 : ((bs L).toList != (bs L).toList) = false := by simp
      have t4 : ((N : Int) != (N : Int)) = false := by simp
      have GV := HON.out _ _ HG.out PB.out
      clear hL hn her hO hN hno p1 p2 p5 HL0 HR0 HNIL hfit hmost k7 HX
      go_wp2_with (first
        | (at_builtin
           refine wpList_app_b rfl (.tmp 32) (.tmp 33) rfl V.heap.size _ 0 [] rfl O1.out q n c L rfl P1.out (P2.out.on B1.out) P5.out p3 (by omega) (by simp) ?_
           intro vA wA oA hA
           rw [Nat.zero_add, List.nil_append] at oA
           obtain ⟨q2, c2, hq2⟩ := own_form12 oA
           subst hq2
           obtain ⟨s1, s2, s3, s4, s5⟩ := rdb_own oA
           have S2 := Lib.hid s2
           have b2 := B1.out.grown hA (by simp) (fun g hg => (O1.out.lt g hg).1)
           have BA := thn PB.out b2
           have GA := HON.out _ _ GV b2
           have T2 := Lib.hid (P2.out.on b2)
           clear oA hA s1 s2 s5)
        | (go_at_call 8; ((with_reducible refine (HSP.out _ _ _ GA p3 p4 P5.out T2.out).mono ?_); rintro e v3 ⟨u3, rfl, s3', b3⟩); have B3 := thn BA b3; have G3 := HON.out _ _ GA b3; obtain ⟨q3, c3, rfl, hc3⟩ := HFN.out _ _ s3'; have HV3 := Lib.hid hc3; clear s3' hc3)
        | (go_at_call 9; ((with_reducible refine (RSP.out _ _ _ s3 s4 (S2.out.on b3)).mono ?_); rintro e v4 ⟨u4, rfl, s4', b4⟩); have B4 := thn B3 b4; have G4 := HON.out _ _ G3 b4; obtain ⟨q4, c4, rfl, hc4⟩ := HFN.out _ _ s4'; have HV4 := Lib.hid hc4; have W2 := Lib.hid ((T2.out.on b3).on b4); have W3 := Lib.hid ((S2.out.on b3).on b4); clear s4' hc4)
        | ((with_reducible show wpList _ _ _ (⟨some 57, _, _, _, _, _⟩ :: _) _ _)
           refine wpList_str12g (by first | rfl | simp [Region.wanted, yielded]) rfl rfl P1.out W2.out ?_)
        | ((with_reducible show wpList _ _ _ (⟨some 59, _, _, _, _, _⟩ :: _) _ _)
           refine wpList_str12g (by first | rfl | simp [Region.wanted, yielded]) rfl rfl P1.out W3.out ?_)
        | (go_at_call 10; ((with_reducible refine (HCT.out _ _ _ G4 p3 p4 P5.out W2.out).mono ?_); rintro e v5 ⟨rfl, b5⟩); have B5 := thn B4 b5; have G5 := HON.out _ _ G4 b5)
        | (go_at_call 11; ((with_reducible refine (RLN.out _ _ _ s3 s4 (W3.out.on b5)).mono ?_); rintro e v6 ⟨q6, c6, rfl, o6, b6⟩); have B6 := Lib.hid (thn B5 b6); have G6 := Lib.hid (HON.out _ _ G5 b6); have b456 := Lib.hid (thn (thn b4 b5) b6); have b56 := Lib.hid (thn b5 b6)))
      go_loopw [13] (fun v13 wr => ∃ k : Nat, k ≤ no ∧ v13 = .int .i64 k ∧ Hid (Below v6.heap.size v6 wr)) (fun v13 _ => no - (intOf v13).toNat)
      case atStart => exact ⟨0, by omega, rfl, Lib.hid (Below.refl _ _)⟩
      case round =>
        obtain ⟨k, hk, rfl, PC⟩ := hrel
        obtain ⟨U, rfl⟩ : ∃ wo : World, wo = wr := ⟨_, rfl⟩
        by_cases hlt : k < no
        · have hx : O[k]? = some (O[k]'(by rw [← HNO.out]; exact hlt)) := List.getElem?_eq_getElem _
          obtain ⟨p, hp⟩ : ∃ p, p = O[k]'(by rw [← HNO.out]; exact hlt) := ⟨_, rfl⟩
          rw [← hp] at hx
          obtain ⟨g1, o1, e1, d1, d2⟩ := HV3.out k p hx
          obtain ⟨g2, o2, e2, d3, d4⟩ := HV4.out k p hx
          subst e1 e2
          have BU := thn b456.out PC.out
          have BW := thn b56.out PC.out
          have c1 := (BU.cell (World.block_lt_of_cell? _ _ d1)).trans d1
          have c2 := (BU.cell (World.block_lt_of_cell? _ _ d2)).trans d2
          have c3 := (BW.cell (World.block_lt_of_cell? _ _ d3)).trans d3
          have c4 := (BW.cell (World.block_lt_of_cell? _ _ d4)).trans d4
          obtain ⟨x, hx1⟩ : ∃ x, x = ((p.1 : Nat) : Int) := ⟨_, rfl⟩
          obtain ⟨y, hy1⟩ : ∃ x, x = bs p.2 := ⟨_, rfl⟩
          rw [← hx1] at c1 c3
          rw [← hy1] at c2 c4
          have k1 : (k : Int) < no := by omega
          have k0 : (0 : Int) ≤ k := by omega
          have hw1 : IntKind.i64.wrap ((k : Int) + 1) = k + 1 := by rw [IntKind.wrap_i64]; omega
          have t6 : (x != x) = false := by simp
          have t7 : (y.toList != y.toList) = false := by simp
          clear hx hp d1 d2 d3 d4 hx1 hy1 BU BW
          go_wp2_with fail
          go_quiet (fail)
          go_wp2_with fail
          go_roundw
          case rel => exact ⟨k + 1, by omega, by go_num, Lib.hid (PC.out.trans ⟨rfl, rfl, rfl, Nat.le_refl _, fun _ _ => rfl⟩)⟩
          case measure => simp [intOf]; omega
        · obtain rfl : no = k := by omega
          have k1 : ¬ (no : Int) < no := by omega
          have G7 := HON.out _ _ G6.out PC.out
          have B7 := thn B6.out PC.out
          go_wp2_with (first
            | (go_at_call 12; ((with_reducible refine (HAW.out _ G7).mono ?_); rintro e v9 ⟨rfl, b9⟩)))
          go_ret
          exact ⟨by first | rfl | simp, thn B7 b9⟩

set_option maxRecDepth 100000 in
theorem lifted (HC : LinesC G12) (os : Os) (started : os.Started) (H : Type) (enc : TypeId × Value → H) :
    ReturnsInHanded {} Tryd.checked os 3 .any (fun w args => (Rows.linesSplitsSpec.pre enc Tryd.prog Tryd.f3 [] false w args ∧ laidMetH Tryd.prog listed12 w) ∧ sizedMet enc Tryd.prog Tryd.f3 (OpenSpec.ofChange Rows.linesSplitsSpec) false w args)
      (Rows.linesSplitsSpec.post enc Tryd.prog Tryd.f3 false true false false) := by
  refine returnsInHanded_of_change_and (C := Tryd.checked) (X := fun w _ => laidMetH Tryd.prog listed12 w) (fun _ _ _ hh h => h.of_heap hh) ownKnob_none started (by kernel_rfl) Tryd.func3
    (ChangeSpec.witness_shaped (enc := enc) (C := Tryd.checked) (os := os) (X := fun w _ => laidMetH Tryd.prog listed12 w) false (World.laidAll Tryd.prog os listed12) #[.slice none 0 0, .int .i64 0, .int .u8 0] 8 (World.laidAll_os _ _ _) (World.shaped_of_ZipB (by kernel_rfl) (by kernel_rfl)) (by kernel_rfl) (by kernel_rfl) (by kernel_rfl) (by rw [MakeChecks.laidMetH_plain _ _ _ (by kernel_rfl)]; exact laidMet_laidAll _ (by kernel_rfl) (by kernel_rfl))) ?_
  intro W base args ds gs before hval0 hW _ _ hL _
  have hG : G12 W := of_laid12 hL
  have hval : ∀ (j : Nat) t v, Tryd.f3.params[j]? = some t → args[j]? = some v → Value.okWide Tryd.prog W .any base t v := hval0
  have hW' := hW
  obtain ⟨p, q, hA0, hV, rfl, hfz, hnd⟩ := hW
  have hA : DataW.TrodAll enc Tryd.prog W 0 (fun _ => true) true Tryd.f3.params.toList args.toList ds p := hA0
  rw [Tryd.params3] at hA hval
  obtain ⟨v0, vs0, d0, ds0, p0, q0, hargs, rfl, rfl, h0, r0⟩ := trodAll_cons hA
  obtain ⟨v1, vs1, d1, ds1, p1, q1, rfl, rfl, rfl, h1, r1⟩ := trodAll_cons r0
  obtain ⟨v2, vs2, d2, ds2, p2, q2, rfl, rfl, rfl, h2, r2⟩ := trodAll_cons r1
  obtain ⟨rfl, rfl, rfl⟩ := trodAll_nil r2
  obtain rfl : args = #[v0, v1, v2] := by cases args; simp_all
  obtain ⟨rfl, rfl⟩ := trodVars_none hV
  obtain ⟨a0, len0, cap0, rfl⟩ := okWide_slice Tryd.underlying22 (hval 0 22 v0 rfl rfl)
  have k0 := h0
  have lt0 : ∀ x ∈ p0, x.block < W.heap.size := by obtain ⟨m, hm⟩ := k0; exact DataW.trod_lt m _ _ _ hm
  obtain ⟨z0, w0⟩ := bytes_open h0 lt0
  obtain ⟨a1, rfl, rfl, rfl, w1⟩ := open_int Tryd.underlying3 (hval 1 3 v1 rfl rfl) h1
  obtain ⟨a2, rfl, rfl, rfl, w2⟩ := open_int Tryd.underlying5 (hval 2 5 v2 rfl rfl) h2
  clear hA0 hval0
  refine (walk HC a0 len0 cap0 z0 a1 a2 W hG w0 w1 w2).mono fun e W' ⟨he, bel⟩ => ?_
  subst he
  exact ⟨_, rfl, _, _, _, [], _, [], hW', trodAll_mk1 (shut_bool Tryd.underlying4 _), (trodAll_cons_mk (Below.trod laidOut (by kernel_rfl) (of_decide_eq_true (by kernel_rfl)) k0 bel lt0) (trodAll_cons_mk (shut_int Tryd.underlying3 w1) (trodAll_cons_mk (shut_int Tryd.underlying5 w2) trodAll_mk0))), rfl, bel.frame _, fun h => by cases h⟩

theorem over (HC : LinesC G12) : Rows.linesSplitsRow.holds Tryd.pinned (OpenSpec.ofChange Rows.linesSplitsSpec) :=
  OpenClaim.holds_of_wide 3 Tryd.f3 rfl rfl rfl rfl rfl rfl rfl ⟨rfl, rfl, rfl, rfl, rfl⟩ rfl rfl rfl rfl rfl (by kernel_rfl) Tryd.func3 (by kernel_rfl)
    (of_decide_eq_true (by kernel_rfl)) (by unfold Func.isWrapper; first | (rw [if_pos (by decide +kernel)]; kernel_rfl) | (rw [if_neg (by decide +kernel)]; exact ⟨rfl, rfl⟩))
    (fun os started H enc _ => lifted HC os started H enc)

/-- The row's statement. -/
theorem row_holds : Rows.LinesSplitsSaid := over linesC
/-- The statement: the row, its table tied to the program's text. -/
theorem proved : Rows.LinesSplitsCardSaid :=
  Claim7.holds_tied_plain_at .later [] [.data, .pinned] true Rows.linesSplitsCard.stood.harness Rows.linesSplitsCard.stood.looks
    row_holds (fun _ h => by cases h) (by kernel_rfl) (fun _ h => by cases h) linesSplits_row_tie rfl ⟨rfl, rfl⟩ (by kernel_rfl) rfl
    (fun f fn hf hfn => by
      obtain rfl : f = 3 := Option.some.inj ((show Tryd.prog.funcNamed "vestibule/vestibulelaw12.LinesSplits" = some 3 by kernel_rfl).symm.trans hf) |>.symm
      obtain rfl : fn = Tryd.f3 := (Option.some.inj (Tryd.func3.symm.trans hfn)).symm
      exact ⟨by kernel_rfl, fun j t ht => by
        have hm : t ∈ Tryd.f3.params.toList := by simpa using Array.mem_of_getElem? ht
        have hall : (Tryd.f3.params.toList.all fun u => !Tryd.prog.wantsStandIn u) = true := by kernel_rfl
        exact (show Tryd.prog.wantsStandIn t = false by simpa using List.all_eq_true.1 hall t hm)⟩)
    (by kernel_rfl)
#print axioms proved
end Go.Proofs.YtagmlphhmjdaiaaDoor.linesSplits
