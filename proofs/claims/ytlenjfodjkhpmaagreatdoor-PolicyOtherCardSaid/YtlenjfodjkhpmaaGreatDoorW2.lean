/- The landed policy: unknown, process: what one assignment makes of a policy. Conditions: the tables of architectures, families, namespaces, words lie in their variables; values of at most 1,000 bytes. -/
import Derived.Test.YtlenjfodjkhpmaaGreatDoorV1
import Derived.Test.YtlenjfodjkhpmaaGreatDoorQ5
import Derived.Test.YtlenjfodjkhpmaaGreatDoorE6
import Derived.Test.YtlenjfodjkhpmaaGreatDoorRa
import Derived.Deep.RegionHeld3
namespace Go.Proofs.YtlenjfodjkhpmaaGreatDoor
set_option maxRecDepth 100000
open Go.Lib (hid)
open Go.RowKit
set_option linter.unusedVariables false
set_option linter.unusedSimpArgs false
attribute [local go_sem ↓] Go.wp_at_zero Go.wp_at_succ

theorem note_row19 (w : World) (x : Nte) {B : Nat} (hB : B ≤ w.heap.size) : (w.alloc (.cells #[.string x.file, .int .i64 x.line, .int .i64 x.err, .string x.text] 57)).ownsRow B 57 4 (.slice (some ⟨w.heap.size, 0, none⟩) 1 1) 1 (rowC encN [x]) := World.ownsRow_lit w #[.string x.file, .int .i64 x.line, .int .i64 x.err, .string x.text] 1 hB (by decide) rfl
set_option maxHeartbeats 8000000 in
theorem unk_c19 (a : As) (t : ByteArray) (w : World) : Calls Tryz.prog 67 #[.agg #[.string a.file, .int .i64 a.line, .string a.sec, .string a.key, .string a.val], .string t] w fun e w' => ∃ q c, e = .returned (.slice q 1 c) ∧ w'.ownsRow w.heap.size 57 4 (.slice q 1 c) 1 (rowC encN [nteP a (100, t60 t.data.toList)]) ∧ Below w.heap.size w w' := by
 obtain ⟨af, al, ax, ak, av⟩ := a
 unfold nteP t60
 simp only
 have BW0 := below16 w (.cells #[.string af, .int .i64 al, .string ax, .string ak, .string av] 37)
 obtain ⟨W, hW⟩ : ∃ W, W = w.alloc (.cells #[.string af, .int .i64 al, .string ax, .string ak, .string av] 37) := ⟨_, rfl⟩
 rw [← hW] at BW0
 have BW := hid BW0
 have HWW := hid hW
 have SW := (show W.heap[w.heap.size]? = some (.cells #[.string af, .int .i64 al, .string ax, .string ak, .string av] 37 (0, 0)) from hW ▸ heap_alloc_new w _)
 have d0 := (cell_of_row W w.heap.size 0 _ _ (0, 0) SW).trans (show _ = some (Value.string af) from rfl)
 have d1 := (cell_of_row W w.heap.size 1 _ _ (0, 0) SW).trans (show _ = some (Value.int .i64 al) from rfl)
 have hl : t.data.toList.length = t.size := by simp
 by_cases h : 60 < t.size
 ·have HT := hid (show t.extract 0 60 = bs (t.data.toList.take 60) by
   have := bs_cut60 t.data.toList
   rw [bs_self] at this
   exact this)
  have h1 : (60 : Int) ≤ t.size := by omega
  have h2 : ¬ (t.size : Int) < 60 := by omega
  have h3 : ¬ (t.size : Int) ≤ 60 := by omega
  have h4 : min (t.size : Int) 60 = 60 := by omega
  clear hl h SW hW BW0
  go_enter Tryz.func67, Tryz.ntmps67
  go_wp2
  rw [← HWW.out]
  go_region_held3 (fun w' => w'.cell? ⟨w.heap.size, 0, none⟩ = some (.string af) ∧ w'.cell? ⟨w.heap.size, 1, none⟩ = some (.int .i64 al)) (first | exact ⟨d0, d1⟩ | exact ⟨((below16 W _).cell (World.block_lt_of_cell? W _ d0)).trans d0, ((below16 W _).cell (World.block_lt_of_cell? W _ d1)).trans d1⟩) (first | fail)
  all_goals
   go_wp2_with fail
   go_ret
   exact ⟨_, _, rfl, by rw [← HT.out]; exact note_row19 W ⟨af, al, 100, t.extract 0 60⟩ BW.out.size, (BW.out.alloc BW.out.size _).drew⟩
 ·have HT := hid (show t = bs (t.data.toList.take 60) by rw [List.take_of_length_le (by omega), bs_self])
  have h1 : (t.size : Int) ≤ 60 := by omega
  have h4 : min (t.size : Int) 60 = t.size := by omega
  clear hl h SW hW BW0
  go_enter Tryz.func67, Tryz.ntmps67
  go_wp2
  rw [← HWW.out]
  go_region_held3 (fun w' => w'.cell? ⟨w.heap.size, 0, none⟩ = some (.string af) ∧ w'.cell? ⟨w.heap.size, 1, none⟩ = some (.int .i64 al)) (first | exact ⟨d0, d1⟩ | exact ⟨((below16 W _).cell (World.block_lt_of_cell? W _ d0)).trans d0, ((below16 W _).cell (World.block_lt_of_cell? W _ d1)).trans d1⟩) (first | fail)
  all_goals
   go_wp2_with fail
   go_ret
   exact ⟨_, _, rfl, by rw [← HT.out]; exact note_row19 W ⟨af, al, 100, t⟩ BW.out.size, (BW.out.alloc BW.out.size _).drew⟩
theorem rset_c19 (p : Pls) (P : Pol) (a : As) (w : World) (hG : G18 w) (ok : P.Ok) (hP : PolAt w p P) (hr : Rises18 P) (hfm : P.fm ≤ 2) (h1 : p.an ≤ 10000) (h2 : p.mn ≤ 10000) (h3 : p.fn ≤ 100) (h4 : p.ln ≤ 100) (h5 : a.val.size ≤ 1000) (h6 : a.key.size ≤ 200) : Calls Tryz.prog 71 #[plV p P, asV a] w fun e w' => ∃ p' v, e = .returned (.tuple #[plV p' (setR (putB18 P.fm a.val) P a.key a.val).1, v]) ∧ OwnP w.heap.size w' p' (setR (putB18 P.fm a.val) P a.key a.val).1 ∧ w'.ownsRow w.heap.size 57 4 v ((setR (putB18 P.fm a.val) P a.key a.val).2.map (nteP a)).length (rowC encN ((setR (putB18 P.fm a.val) P a.key a.val).2.map (nteP a))) ∧ Below w.heap.size w w' :=
 (restrictC.set p P a w hG ok hP hr h1 h2 h3 h4 h5 h6).mono fun e w' ⟨pb, p', v, hpb, h⟩ => by
   have := hpb hfm
   subst this
   exact ⟨p', v, h⟩
set_option maxHeartbeats 32000000 in
theorem process_c19 (p : Pls) (P : Pol) (a : As) (w : World) (B : Nat) (hG : G18 w) (ok : P.Ok) (hO : OwnP B w p P) (hBw : B ≤ w.heap.size) (hr : Rises18 P) (hfm : P.fm ≤ 2) (ha : P.ar.length ≤ 20) (hm : P.fa.length ≤ 20) (hfl : P.fl.2.length ≤ 100) (hll : P.lg.2.length ≤ 100) (hav : a.val.size ≤ 1000) (hak : a.key.size ≤ 200) : Calls Tryz.prog 25 #[plV p P, asV a] w fun e w' => ∃ p' v, e = .returned (.tuple #[plV p' (stpR P a).1, v]) ∧ OwnP B w' p' (stpR P a).1 ∧ w'.ownsRow w.heap.size 57 4 v (stpR P a).2.length (rowC encN (stpR P a).2) ∧ Below w.heap.size w w' := by
 obtain ⟨af, al, ax, ak, av⟩ := a
 obtain ⟨aq1, an1, ac1, fq1, fn1, fc1, lq1, ln1, lc1, mq1, mn1, mc1⟩ := p
 simp only at hav hak
 have hP := hO.pol
 obtain ⟨V, hV⟩ : ∃ W, W = ((w.alloc (.cells #[.slice aq1 an1 ac1, .int .u8 (P.fl.1 : Nat), .slice fq1 fn1 fc1, .int .u32 (P.dn : Nat), .int .u8 (P.lg.1 : Nat), .slice lq1 ln1 lc1, .slice mq1 mn1 mc1, .int .u8 (P.fm : Nat), .int .u64 (P.sp : Nat), .bool P.b1, .bool P.b2, .bool P.b3, .bool P.b4] 32)).alloc (.cells #[.string af, .int .i64 al, .string ax, .string ak, .string av] 37)).alloc (.cells #[.slice none 0 0, .int .u8 0, .slice none 0 0, .int .u32 0, .int .u8 0, .slice none 0 0, .slice none 0 0, .int .u8 0, .int .u64 0, .bool false, .bool false, .bool false, .bool false] 32) := ⟨_, rfl⟩
 have SV := hid (show S17 w ⟨aq1, an1, ac1, fq1, fn1, fc1, lq1, ln1, lc1, mq1, mn1, mc1⟩ P ⟨af, al, ax, ak, av⟩ V from hV ▸ S17.start w ⟨aq1, an1, ac1, fq1, fn1, fc1, lq1, ln1, lc1, mq1, mn1, mc1⟩ P ⟨af, al, ax, ak, av⟩)
 have HVV := hid hV
 have OV := hid (hO.on SV.out.bel)
 have HUN := hid (fun (X : World) (t : ByteArray) (_ : True) => unk_c19 ⟨af, al, ax, ak, av⟩ t X)
 simp only at HUN
 have HSX := hid True.intro
 have HFK := hid (fun (X : World) (b : Below w.heap.size w X) => key_c17 ak (by unfold maxLen; omega) X)
 have HRK := hid (fun (X : World) (b : Below w.heap.size w X) => restrictC.key ak X (hG.on b) hak)
 have HFS := hid (fun (X : World) (b : Below w.heap.size w X) => set_c17 ⟨aq1, an1, ac1, fq1, fn1, fc1, lq1, ln1, lc1, mq1, mn1, mc1⟩ P ⟨af, al, ax, ak, av⟩ X (hG.nm.on b) ok (hP.on b) (by rw [hP.al]; exact ha) (by rw [hP.ml]; exact hm) (by rw [hP.fl]; exact hfl) (by rw [hP.ll]; exact hll) hav hak)
 have HRS := hid (fun (X : World) (b : Below w.heap.size w X) => rset_c19 ⟨aq1, an1, ac1, fq1, fn1, fc1, lq1, ln1, lc1, mq1, mn1, mc1⟩ P ⟨af, al, ax, ak, av⟩ X (hG.on b) ok (hP.on b) hr hfm (by rw [hP.al]; omega) (by rw [hP.ml]; omega) (by rw [hP.fl]; exact hfl) (by rw [hP.ll]; exact hll) hav hak)
 rw [show plV ⟨aq1, an1, ac1, fq1, fn1, fc1, lq1, ln1, lc1, mq1, mn1, mc1⟩ P = .agg #[.slice aq1 an1 ac1, .int .u8 (P.fl.1 : Nat), .slice fq1 fn1 fc1, .int .u32 (P.dn : Nat), .int .u8 (P.lg.1 : Nat), .slice lq1 ln1 lc1, .slice mq1 mn1 mc1, .int .u8 (P.fm : Nat), .int .u64 (P.sp : Nat), .bool P.b1, .bool P.b2, .bool P.b3, .bool P.b4] from rfl] at HFS HRS ⊢
 unfold asV at HFS HRS ⊢
 simp only at HFS HRS ⊢
 unfold stpR
 simp only
 by_cases hs : ax = kSvc
 ·have t0 : (ax.toList == [83, 101, 114, 118, 105, 99, 101]) = true := eq_str hs
  have t1 : (ax.toList != [83, 101, 114, 118, 105, 99, 101]) = false := by rw [bne, t0]; rfl
  rw [if_pos hs]
  cases hk : keyF ak with
  | true =>
   rw [if_pos rfl]
   rw [hk] at HFK
   obtain ⟨P2, hP2⟩ : ∃ Q, Q = (setF P ak av).1 := ⟨_, rfl⟩
   obtain ⟨N, hN⟩ : ∃ N, N = (setF P ak av).2.map (nteP ⟨af, al, ax, ak, av⟩) := ⟨_, rfl⟩
   rw [← hP2, ← hN] at HFS ⊢
   clear hG ok hO hP hr hfm ha hm hfl hll hav hak hs hk hP2 hN hV HRK HRS HUN
   have c2 := (cell_of_row V (w.heap.size + 1) 2 _ _ (0, 0) SV.out.asg).trans (show _ = some (Value.string ax) from rfl)
   have c3 := (cell_of_row V (w.heap.size + 1) 3 _ _ (0, 0) SV.out.asg).trans (show _ = some (Value.string ak) from rfl)
   go_enter Tryz.func25, Tryz.ntmps25
   go_wp2_with (first
    | (go_at_call 68; rw [← HVV.out]; ((with_reducible refine (HFK.out V SV.out.bel).mono ?_); rintro e V0 ⟨rfl, b⟩)
       have SV0 := hid (SV.out.on b)
       clear b
       obtain ⟨f0, f1, f2, f3, f4, f5, f6, f7, f8, f9, f10, f11, f12⟩ := pcells17 SV0.out.pol
       have g0 := (cell_of_row V0 (w.heap.size + 1) 0 _ _ (0, 0) SV0.out.asg).trans (show _ = some (Value.string af) from rfl)
       have g1 := (cell_of_row V0 (w.heap.size + 1) 1 _ _ (0, 0) SV0.out.asg).trans (show _ = some (Value.int .i64 al) from rfl)
       have g2 := (cell_of_row V0 (w.heap.size + 1) 2 _ _ (0, 0) SV0.out.asg).trans (show _ = some (Value.string ax) from rfl)
       have g3 := (cell_of_row V0 (w.heap.size + 1) 3 _ _ (0, 0) SV0.out.asg).trans (show _ = some (Value.string ak) from rfl)
       have g4 := (cell_of_row V0 (w.heap.size + 1) 4 _ _ (0, 0) SV0.out.asg).trans (show _ = some (Value.string av) from rfl))
    | (go_at_call 69
       ((with_reducible refine (HFS.out _ SV0.out.bel).mono ?_); rintro e V1 ⟨⟨aq2, an2, ac2, fq2, fn2, fc2, lq2, ln2, lc2, mq2, mn2, mc2⟩, v, rfl, o1, r1, b⟩)
       obtain ⟨qu, cu, rfl⟩ := own16 r1
       have SZ := hid (SV0.out.on b)
       have OP := hid (show OwnP B V1 ⟨aq2, an2, ac2, fq2, fn2, fc2, lq2, ln2, lc2, mq2, mn2, mc2⟩ P2 from o1.low (Nat.le_trans hBw SV0.out.bel.size))
       have NP := hid (owns_low16 r1 SV0.out.bel.size)
       clear o1 r1 b)
    | ((with_reducible show wpList _ _ _ (⟨none, .store 32 (.tmp 4) (.tmp 22), _, _, _, _⟩ :: _) _ _)
       refine wpList_store_mid rfl 32 (.tmp 4) (.tmp 22) rfl (w.heap.size + 2) 0 (plC ⟨aq2, an2, ac2, fq2, fn2, fc2, lq2, ln2, lc2, mq2, mn2, mc2⟩ P2).toArray (by rfl) (by rfl) (there_row17 SZ.out.res (show 0 + 13 ≤ 13 by decide)) pl_info (plC_one _ _) ?_
       show wpList _ _ _ _ _ (V1.setCells (w.heap.size + 2) 0 (plC ⟨aq2, an2, ac2, fq2, fn2, fc2, lq2, ln2, lc2, mq2, mn2, mc2⟩ P2))
       have hl := run_loadVar_mid (P := Tryz.prog) (V1.setCells (w.heap.size + 2) 0 (plC ⟨aq2, an2, ac2, fq2, fn2, fc2, lq2, ln2, lc2, mq2, mn2, mc2⟩ P2)) (w.heap.size + 2) 0 32 (plC ⟨aq2, an2, ac2, fq2, fn2, fc2, lq2, ln2, lc2, mq2, mn2, mc2⟩ P2) _ (World.rangeAt_setCells_same V1 _ 0 _ (there_row17 SZ.out.res (show 0 + 13 ≤ 13 by decide))) Tryz.underlying32 rfl pl_info
       have HB := hid (below_setCells16 (show w.heap.size ≤ w.heap.size + 2 by omega) (plC ⟨aq2, an2, ac2, fq2, fn2, fc2, lq2, ln2, lc2, mq2, mn2, mc2⟩ P2) 0 _ SZ.out.bel)
       have OZ := hid (OP.out.box SZ.out.res 0 (plC ⟨aq2, an2, ac2, fq2, fn2, fc2, lq2, ln2, lc2, mq2, mn2, mc2⟩ P2))
       have NZ := hid (rows_box17 (i := 0) SZ.out.res (by decide) NP.out (plC ⟨aq2, an2, ac2, fq2, fn2, fc2, lq2, ln2, lc2, mq2, mn2, mc2⟩ P2))
       generalize V1.setCells (w.heap.size + 2) 0 (plC ⟨aq2, an2, ac2, fq2, fn2, fc2, lq2, ln2, lc2, mq2, mn2, mc2⟩ P2) = Z at hl HB OZ NZ ⊢))
   (try simp only [Exit.inBlock, Exit.then])
   refine bodyPost_ret (v := .tuple #[.agg (plC ⟨aq2, an2, ac2, fq2, fn2, fc2, lq2, ln2, lc2, mq2, mn2, mc2⟩ P2).toArray, .slice qu N.length cu]) (results_two15 Tryz.results25 ?_ ?_ hl) rfl ⟨⟨aq2, an2, ac2, fq2, fn2, fc2, lq2, ln2, lc2, mq2, mn2, mc2⟩, _, rfl, OZ.out, NZ.out, HB.out⟩
   all_goals rfl
  | false =>
   rw [if_neg Bool.noConfusion]
   rw [hk] at HFK
   cases hk2 : keyR18 ak with
   | true =>
    rw [if_pos rfl]
    rw [hk2] at HRK
    obtain ⟨P2, hP2⟩ : ∃ Q, Q = (setR (putB18 P.fm av) P ak av).1 := ⟨_, rfl⟩
    obtain ⟨N, hN⟩ : ∃ N, N = (setR (putB18 P.fm av) P ak av).2.map (nteP ⟨af, al, ax, ak, av⟩) := ⟨_, rfl⟩
    rw [← hP2, ← hN] at HRS ⊢
    clear hG ok hO hP hr hfm ha hm hfl hll hav hak hs hk hk2 hP2 hN hV HFS HUN
    have c2 := (cell_of_row V (w.heap.size + 1) 2 _ _ (0, 0) SV.out.asg).trans (show _ = some (Value.string ax) from rfl)
    have c3 := (cell_of_row V (w.heap.size + 1) 3 _ _ (0, 0) SV.out.asg).trans (show _ = some (Value.string ak) from rfl)
    go_enter Tryz.func25, Tryz.ntmps25
    go_wp2_with (first
     | (go_at_call 68; rw [← HVV.out]; ((with_reducible refine (HFK.out V SV.out.bel).mono ?_); rintro e Vk ⟨rfl, b⟩)
        have SVk := hid (SV.out.on b)
        clear b
        have e3 := (cell_of_row Vk (w.heap.size + 1) 3 _ _ (0, 0) SVk.out.asg).trans (show _ = some (Value.string ak) from rfl))
     | (go_at_call 70; ((with_reducible refine (HRK.out Vk SVk.out.bel).mono ?_); rintro e V0 ⟨rfl, b⟩)
        have SV0 := hid (SVk.out.on b)
        clear b
        obtain ⟨f0, f1, f2, f3, f4, f5, f6, f7, f8, f9, f10, f11, f12⟩ := pcells17 SV0.out.pol
        have g0 := (cell_of_row V0 (w.heap.size + 1) 0 _ _ (0, 0) SV0.out.asg).trans (show _ = some (Value.string af) from rfl)
        have g1 := (cell_of_row V0 (w.heap.size + 1) 1 _ _ (0, 0) SV0.out.asg).trans (show _ = some (Value.int .i64 al) from rfl)
        have g2 := (cell_of_row V0 (w.heap.size + 1) 2 _ _ (0, 0) SV0.out.asg).trans (show _ = some (Value.string ax) from rfl)
        have g3 := (cell_of_row V0 (w.heap.size + 1) 3 _ _ (0, 0) SV0.out.asg).trans (show _ = some (Value.string ak) from rfl)
        have g4 := (cell_of_row V0 (w.heap.size + 1) 4 _ _ (0, 0) SV0.out.asg).trans (show _ = some (Value.string av) from rfl))
     | (go_at_call 71
        ((with_reducible refine (HRS.out _ SV0.out.bel).mono ?_); rintro e V1 ⟨⟨aq2, an2, ac2, fq2, fn2, fc2, lq2, ln2, lc2, mq2, mn2, mc2⟩, v, rfl, o1, r1, b⟩)
        obtain ⟨qu, cu, rfl⟩ := own16 r1
        have SZ := hid (SV0.out.on b)
        have OP := hid (show OwnP B V1 ⟨aq2, an2, ac2, fq2, fn2, fc2, lq2, ln2, lc2, mq2, mn2, mc2⟩ P2 from o1.low (Nat.le_trans hBw SV0.out.bel.size))
        have NP := hid (owns_low16 r1 SV0.out.bel.size)
        clear o1 r1 b)
     | ((with_reducible show wpList _ _ _ (⟨none, .store 32 (.tmp 4) (.tmp 31), _, _, _, _⟩ :: _) _ _)
        refine wpList_store_mid rfl 32 (.tmp 4) (.tmp 31) rfl (w.heap.size + 2) 0 (plC ⟨aq2, an2, ac2, fq2, fn2, fc2, lq2, ln2, lc2, mq2, mn2, mc2⟩ P2).toArray (by rfl) (by rfl) (there_row17 SZ.out.res (show 0 + 13 ≤ 13 by decide)) pl_info (plC_one _ _) ?_
        show wpList _ _ _ _ _ (V1.setCells (w.heap.size + 2) 0 (plC ⟨aq2, an2, ac2, fq2, fn2, fc2, lq2, ln2, lc2, mq2, mn2, mc2⟩ P2))
        have hl := run_loadVar_mid (P := Tryz.prog) (V1.setCells (w.heap.size + 2) 0 (plC ⟨aq2, an2, ac2, fq2, fn2, fc2, lq2, ln2, lc2, mq2, mn2, mc2⟩ P2)) (w.heap.size + 2) 0 32 (plC ⟨aq2, an2, ac2, fq2, fn2, fc2, lq2, ln2, lc2, mq2, mn2, mc2⟩ P2) _ (World.rangeAt_setCells_same V1 _ 0 _ (there_row17 SZ.out.res (show 0 + 13 ≤ 13 by decide))) Tryz.underlying32 rfl pl_info
        have HB := hid (below_setCells16 (show w.heap.size ≤ w.heap.size + 2 by omega) (plC ⟨aq2, an2, ac2, fq2, fn2, fc2, lq2, ln2, lc2, mq2, mn2, mc2⟩ P2) 0 _ SZ.out.bel)
        have OZ := hid (OP.out.box SZ.out.res 0 (plC ⟨aq2, an2, ac2, fq2, fn2, fc2, lq2, ln2, lc2, mq2, mn2, mc2⟩ P2))
        have NZ := hid (rows_box17 (i := 0) SZ.out.res (by decide) NP.out (plC ⟨aq2, an2, ac2, fq2, fn2, fc2, lq2, ln2, lc2, mq2, mn2, mc2⟩ P2))
        generalize V1.setCells (w.heap.size + 2) 0 (plC ⟨aq2, an2, ac2, fq2, fn2, fc2, lq2, ln2, lc2, mq2, mn2, mc2⟩ P2) = Z at hl HB OZ NZ ⊢))
    (try simp only [Exit.inBlock, Exit.then])
    refine bodyPost_ret (v := .tuple #[.agg (plC ⟨aq2, an2, ac2, fq2, fn2, fc2, lq2, ln2, lc2, mq2, mn2, mc2⟩ P2).toArray, .slice qu N.length cu]) (results_two15 Tryz.results25 ?_ ?_ hl) rfl ⟨⟨aq2, an2, ac2, fq2, fn2, fc2, lq2, ln2, lc2, mq2, mn2, mc2⟩, _, rfl, OZ.out, NZ.out, HB.out⟩
    all_goals rfl
   | false =>
    rw [if_neg Bool.noConfusion]
    rw [hk2] at HRK
    have HP2 := hid (show (P, [nteP ⟨af, al, ax, ak, av⟩ (100, t60 ak.data.toList)]) = (P, [nteP ⟨af, al, ax, ak, av⟩ (100, t60 ak.data.toList)]) from rfl)
    simp only
    clear hG ok hO hP hr hfm ha hm hfl hll hav hak hs hk hk2 hV HFS HRS
    have c2 := (cell_of_row V (w.heap.size + 1) 2 _ _ (0, 0) SV.out.asg).trans (show _ = some (Value.string ax) from rfl)
    have c3 := (cell_of_row V (w.heap.size + 1) 3 _ _ (0, 0) SV.out.asg).trans (show _ = some (Value.string ak) from rfl)
    go_enter Tryz.func25, Tryz.ntmps25
    go_wp2_with (first
     | (go_at_call 68; rw [← HVV.out]; ((with_reducible refine (HFK.out V SV.out.bel).mono ?_); rintro e Vk ⟨rfl, b⟩)
        have SVk := hid (SV.out.on b)
        have OVk := hid (OV.out.on b)
        clear b
        have e3 := (cell_of_row Vk (w.heap.size + 1) 3 _ _ (0, 0) SVk.out.asg).trans (show _ = some (Value.string ak) from rfl))
     | (go_at_call 70; ((with_reducible refine (HRK.out Vk SVk.out.bel).mono ?_); rintro e V0 ⟨rfl, b⟩)
        have SV0 := hid (SVk.out.on b)
        have OV0 := hid (OVk.out.on b)
        clear b))
    have SK := hid (fun (Y : World) (h1 : Y.heap[w.heap.size]? = some (.cells (plC ⟨aq1, an1, ac1, fq1, fn1, fc1, lq1, ln1, lc1, mq1, mn1, mc1⟩ P).toArray 32 (0, 0))) (h2 : Y.heap[w.heap.size + 1]? = some (.cells (asC ⟨af, al, ax, ak, av⟩).toArray 37 (0, 0))) => (by
     obtain ⟨f0, f1, f2, f3, f4, f5, f6, f7, f8, f9, f10, f11, f12⟩ := pcells17 h1
     exact ⟨f0, f1, f2, f3, f4, f5, f6, f7, f8, f9, f10, f11, f12, (cell_of_row Y _ 0 _ _ (0, 0) h2).trans rfl, (cell_of_row Y _ 1 _ _ (0, 0) h2).trans rfl, (cell_of_row Y _ 2 _ _ (0, 0) h2).trans rfl, (cell_of_row Y _ 3 _ _ (0, 0) h2).trans rfl, (cell_of_row Y _ 4 _ _ (0, 0) h2).trans rfl⟩ : (fun w' => w'.cell? ⟨w.heap.size, 0, none⟩ = some (.slice aq1 an1 ac1) ∧ w'.cell? ⟨w.heap.size, 1, none⟩ = some (.int .u8 (P.fl.1 : Nat)) ∧ w'.cell? ⟨w.heap.size, 2, none⟩ = some (.slice fq1 fn1 fc1) ∧ w'.cell? ⟨w.heap.size, 3, none⟩ = some (.int .u32 (P.dn : Nat)) ∧ w'.cell? ⟨w.heap.size, 4, none⟩ = some (.int .u8 (P.lg.1 : Nat)) ∧ w'.cell? ⟨w.heap.size, 5, none⟩ = some (.slice lq1 ln1 lc1) ∧ w'.cell? ⟨w.heap.size, 6, none⟩ = some (.slice mq1 mn1 mc1) ∧ w'.cell? ⟨w.heap.size, 7, none⟩ = some (.int .u8 (P.fm : Nat)) ∧ w'.cell? ⟨w.heap.size, 8, none⟩ = some (.int .u64 (P.sp : Nat)) ∧ w'.cell? ⟨w.heap.size, 9, none⟩ = some (.bool P.b1) ∧ w'.cell? ⟨w.heap.size, 10, none⟩ = some (.bool P.b2) ∧ w'.cell? ⟨w.heap.size, 11, none⟩ = some (.bool P.b3) ∧ w'.cell? ⟨w.heap.size, 12, none⟩ = some (.bool P.b4) ∧ w'.cell? ⟨w.heap.size + 1, 0, none⟩ = some (.string af) ∧ w'.cell? ⟨w.heap.size + 1, 1, none⟩ = some (.int .i64 al) ∧ w'.cell? ⟨w.heap.size + 1, 2, none⟩ = some (.string ax) ∧ w'.cell? ⟨w.heap.size + 1, 3, none⟩ = some (.string ak) ∧ w'.cell? ⟨w.heap.size + 1, 4, none⟩ = some (.string av)) Y))
    refine wp_region_held_drew (S := (fun w' => w'.cell? ⟨w.heap.size, 0, none⟩ = some (.slice aq1 an1 ac1) ∧ w'.cell? ⟨w.heap.size, 1, none⟩ = some (.int .u8 (P.fl.1 : Nat)) ∧ w'.cell? ⟨w.heap.size, 2, none⟩ = some (.slice fq1 fn1 fc1) ∧ w'.cell? ⟨w.heap.size, 3, none⟩ = some (.int .u32 (P.dn : Nat)) ∧ w'.cell? ⟨w.heap.size, 4, none⟩ = some (.int .u8 (P.lg.1 : Nat)) ∧ w'.cell? ⟨w.heap.size, 5, none⟩ = some (.slice lq1 ln1 lc1) ∧ w'.cell? ⟨w.heap.size, 6, none⟩ = some (.slice mq1 mn1 mc1) ∧ w'.cell? ⟨w.heap.size, 7, none⟩ = some (.int .u8 (P.fm : Nat)) ∧ w'.cell? ⟨w.heap.size, 8, none⟩ = some (.int .u64 (P.sp : Nat)) ∧ w'.cell? ⟨w.heap.size, 9, none⟩ = some (.bool P.b1) ∧ w'.cell? ⟨w.heap.size, 10, none⟩ = some (.bool P.b2) ∧ w'.cell? ⟨w.heap.size, 11, none⟩ = some (.bool P.b3) ∧ w'.cell? ⟨w.heap.size, 12, none⟩ = some (.bool P.b4) ∧ w'.cell? ⟨w.heap.size + 1, 0, none⟩ = some (.string af) ∧ w'.cell? ⟨w.heap.size + 1, 1, none⟩ = some (.int .i64 al) ∧ w'.cell? ⟨w.heap.size + 1, 2, none⟩ = some (.string ax) ∧ w'.cell? ⟨w.heap.size + 1, 3, none⟩ = some (.string ak) ∧ w'.cell? ⟨w.heap.size + 1, 4, none⟩ = some (.string av))) (by kernel_rfl) ?_ (fun hHeld => ?_)
    ·exact SK.out _ SV0.out.pol SV0.out.asg
    refine take_op2 (i := 0) (v := ?_) rfl (by kernel_rfl) (by kernel_rfl) (by kernel_rfl) (fun _ _ _ h => h) (Or.inl ⟨wanted_plain rfl, ?_⟩) (by assumption) ?_
    rotate_left
    ·(intro w hSw; (try dsimp only at hSw); go_simp; try with_reducible rfl)
    intro act_ hact_; simp only [Act.put, List.setIfInBounds_toArray, List.set_cons_zero, List.set_cons_succ] at hact_; subst hact_
    refine take_op2 (i := 1) (v := ?_) rfl (by kernel_rfl) (by kernel_rfl) (by kernel_rfl) (fun _ _ _ h => h) (Or.inl ⟨wanted_plain rfl, ?_⟩) (by assumption) ?_
    rotate_left
    ·(intro w hSw; (try dsimp only at hSw); go_simp; try with_reducible rfl)
    intro act_ hact_; simp only [Act.put, List.setIfInBounds_toArray, List.set_cons_zero, List.set_cons_succ] at hact_; subst hact_
    refine take_op2 (i := 2) (v := ?_) rfl (by kernel_rfl) (by kernel_rfl) (by kernel_rfl) (fun _ _ _ h => h) (Or.inl ⟨wanted_plain rfl, ?_⟩) (by assumption) ?_
    rotate_left
    ·(intro w hSw; (try dsimp only at hSw); go_simp; try with_reducible rfl)
    intro act_ hact_; simp only [Act.put, List.setIfInBounds_toArray, List.set_cons_zero, List.set_cons_succ] at hact_; subst hact_
    refine take_op2 (i := 3) (v := ?_) rfl (by kernel_rfl) (by kernel_rfl) (by kernel_rfl) (fun _ _ _ h => h) (Or.inl ⟨wanted_plain rfl, ?_⟩) (by assumption) ?_
    rotate_left
    ·(intro w hSw; (try dsimp only at hSw); go_simp; try with_reducible rfl)
    intro act_ hact_; simp only [Act.put, List.setIfInBounds_toArray, List.set_cons_zero, List.set_cons_succ] at hact_; subst hact_
    refine wpAnyH_ready (rs := [4]) (by kernel_rfl) (List.cons_ne_nil _ _) ?_
    refine AllReadyH.cons rfl (fun K hK => ?_) AllReadyH.nil
    go_simp
    go_wp2_with (go_at_call 67; ((with_reducible refine (HUN.out _ ak HSX.out).mono ?_); rintro e V1 ⟨qu, cu, rfl, r1, b⟩))
    have SZ := hid (SV0.out.on ((Below.refl V0.heap.size V0).drew.trans b))
    have OP := hid (OV0.out.on ((Below.refl V0.heap.size V0).drew.trans b))
    have NP := hid (owns_low16 r1 (show w.heap.size ≤ V0.drew.heap.size from SV0.out.bel.size))
    clear r1 b
    refine hK.out _ _ ?_ (fun hHeld => ?_)
    ·exact SK.out _ SZ.out.pol SZ.out.asg
    clear hK K
    refine wpAnyH_ready (rs := [5]) (by kernel_rfl) (List.cons_ne_nil _ _) ?_
    refine AllReadyH.cons rfl (fun K hK => ?_) AllReadyH.nil
    refine step_storeL17 rfl 32 (.tmp 4) (.tmp 33) (by rfl) (w.heap.size + 2) 0 (plC ⟨aq1, an1, ac1, fq1, fn1, fc1, lq1, ln1, lc1, mq1, mn1, mc1⟩ P) (by rfl) (by rfl) (there_row17 SZ.out.res (show 0 + 13 ≤ 13 by decide)) pl_info (plC_one _ _) ?_
    change K (Act.put _ none _) _
    simp only [Act.put]
    refine hK.out _ _ ?_ (fun hHeld => ?_)
    ·exact SK.out _ ((heap_setCells16 _ _ _ (by omega) _ _).trans SZ.out.pol) ((heap_setCells16 _ _ _ (by omega) _ _).trans SZ.out.asg)
    clear hK K
    refine take_op2 (i := 6) (v := ?_) rfl (by kernel_rfl) (by kernel_rfl) (by kernel_rfl) (fun _ _ _ h => h) (Or.inl ⟨wanted_plain rfl, ?_⟩) (by assumption) ?_
    rotate_left
    ·(intro w hSw; (try dsimp only at hSw); go_simp; try with_reducible rfl)
    intro act_ hact_; simp only [Act.put, List.setIfInBounds_toArray, List.set_cons_zero, List.set_cons_succ] at hact_; subst hact_
    refine wpAnyH_done (by kernel_rfl) ?_ _
    have hl := run_loadVar_mid (P := Tryz.prog) (V1.setCells (w.heap.size + 2) 0 (plC ⟨aq1, an1, ac1, fq1, fn1, fc1, lq1, ln1, lc1, mq1, mn1, mc1⟩ P)) (w.heap.size + 2) 0 32 (plC ⟨aq1, an1, ac1, fq1, fn1, fc1, lq1, ln1, lc1, mq1, mn1, mc1⟩ P) _ (World.rangeAt_setCells_same V1 _ 0 _ (there_row17 SZ.out.res (show 0 + 13 ≤ 13 by decide))) Tryz.underlying32 rfl pl_info
    have HB := hid (below_setCells16 (show w.heap.size ≤ w.heap.size + 2 by omega) (plC ⟨aq1, an1, ac1, fq1, fn1, fc1, lq1, ln1, lc1, mq1, mn1, mc1⟩ P) 0 _ SZ.out.bel)
    have OZ := hid (OP.out.box SZ.out.res 0 (plC ⟨aq1, an1, ac1, fq1, fn1, fc1, lq1, ln1, lc1, mq1, mn1, mc1⟩ P))
    have NZ := hid (rows_box17 (i := 0) SZ.out.res (by decide) NP.out (plC ⟨aq1, an1, ac1, fq1, fn1, fc1, lq1, ln1, lc1, mq1, mn1, mc1⟩ P))
    generalize V1.setCells (w.heap.size + 2) 0 (plC ⟨aq1, an1, ac1, fq1, fn1, fc1, lq1, ln1, lc1, mq1, mn1, mc1⟩ P) = Z at hl HB OZ NZ ⊢
    go_wp2_with fail
    (try simp only [Exit.inBlock, Exit.then])
    refine bodyPost_ret (v := .tuple #[.agg (plC ⟨aq1, an1, ac1, fq1, fn1, fc1, lq1, ln1, lc1, mq1, mn1, mc1⟩ P).toArray, .slice qu 1 cu]) (results_two15 Tryz.results25 ?_ ?_ hl) rfl ⟨⟨aq1, an1, ac1, fq1, fn1, fc1, lq1, ln1, lc1, mq1, mn1, mc1⟩, _, rfl, OZ.out, NZ.out, HB.out⟩
    all_goals rfl
 ·have t0 : (ax.toList == [83, 101, 114, 118, 105, 99, 101]) = false := ne_str hs
  have t1 : (ax.toList != [83, 101, 114, 118, 105, 99, 101]) = true := by rw [bne, t0]; rfl
  rw [if_neg hs]
  simp only
  clear hG ok hO hP hr hfm ha hm hfl hll hav hak hs hV HFS HRS HFK HRK
  go_enter Tryz.func25, Tryz.ntmps25
  go_wp2_with fail
  rw [← HVV.out]
  have SK := hid (fun (Y : World) (h1 : Y.heap[w.heap.size]? = some (.cells (plC ⟨aq1, an1, ac1, fq1, fn1, fc1, lq1, ln1, lc1, mq1, mn1, mc1⟩ P).toArray 32 (0, 0))) (h2 : Y.heap[w.heap.size + 1]? = some (.cells (asC ⟨af, al, ax, ak, av⟩).toArray 37 (0, 0))) => (by
   obtain ⟨f0, f1, f2, f3, f4, f5, f6, f7, f8, f9, f10, f11, f12⟩ := pcells17 h1
   exact ⟨f0, f1, f2, f3, f4, f5, f6, f7, f8, f9, f10, f11, f12, (cell_of_row Y _ 0 _ _ (0, 0) h2).trans rfl, (cell_of_row Y _ 1 _ _ (0, 0) h2).trans rfl, (cell_of_row Y _ 2 _ _ (0, 0) h2).trans rfl, (cell_of_row Y _ 3 _ _ (0, 0) h2).trans rfl, (cell_of_row Y _ 4 _ _ (0, 0) h2).trans rfl⟩ : (fun w' => w'.cell? ⟨w.heap.size, 0, none⟩ = some (.slice aq1 an1 ac1) ∧ w'.cell? ⟨w.heap.size, 1, none⟩ = some (.int .u8 (P.fl.1 : Nat)) ∧ w'.cell? ⟨w.heap.size, 2, none⟩ = some (.slice fq1 fn1 fc1) ∧ w'.cell? ⟨w.heap.size, 3, none⟩ = some (.int .u32 (P.dn : Nat)) ∧ w'.cell? ⟨w.heap.size, 4, none⟩ = some (.int .u8 (P.lg.1 : Nat)) ∧ w'.cell? ⟨w.heap.size, 5, none⟩ = some (.slice lq1 ln1 lc1) ∧ w'.cell? ⟨w.heap.size, 6, none⟩ = some (.slice mq1 mn1 mc1) ∧ w'.cell? ⟨w.heap.size, 7, none⟩ = some (.int .u8 (P.fm : Nat)) ∧ w'.cell? ⟨w.heap.size, 8, none⟩ = some (.int .u64 (P.sp : Nat)) ∧ w'.cell? ⟨w.heap.size, 9, none⟩ = some (.bool P.b1) ∧ w'.cell? ⟨w.heap.size, 10, none⟩ = some (.bool P.b2) ∧ w'.cell? ⟨w.heap.size, 11, none⟩ = some (.bool P.b3) ∧ w'.cell? ⟨w.heap.size, 12, none⟩ = some (.bool P.b4) ∧ w'.cell? ⟨w.heap.size + 1, 0, none⟩ = some (.string af) ∧ w'.cell? ⟨w.heap.size + 1, 1, none⟩ = some (.int .i64 al) ∧ w'.cell? ⟨w.heap.size + 1, 2, none⟩ = some (.string ax) ∧ w'.cell? ⟨w.heap.size + 1, 3, none⟩ = some (.string ak) ∧ w'.cell? ⟨w.heap.size + 1, 4, none⟩ = some (.string av)) Y))
  refine wp_region_held_drew (S := (fun w' => w'.cell? ⟨w.heap.size, 0, none⟩ = some (.slice aq1 an1 ac1) ∧ w'.cell? ⟨w.heap.size, 1, none⟩ = some (.int .u8 (P.fl.1 : Nat)) ∧ w'.cell? ⟨w.heap.size, 2, none⟩ = some (.slice fq1 fn1 fc1) ∧ w'.cell? ⟨w.heap.size, 3, none⟩ = some (.int .u32 (P.dn : Nat)) ∧ w'.cell? ⟨w.heap.size, 4, none⟩ = some (.int .u8 (P.lg.1 : Nat)) ∧ w'.cell? ⟨w.heap.size, 5, none⟩ = some (.slice lq1 ln1 lc1) ∧ w'.cell? ⟨w.heap.size, 6, none⟩ = some (.slice mq1 mn1 mc1) ∧ w'.cell? ⟨w.heap.size, 7, none⟩ = some (.int .u8 (P.fm : Nat)) ∧ w'.cell? ⟨w.heap.size, 8, none⟩ = some (.int .u64 (P.sp : Nat)) ∧ w'.cell? ⟨w.heap.size, 9, none⟩ = some (.bool P.b1) ∧ w'.cell? ⟨w.heap.size, 10, none⟩ = some (.bool P.b2) ∧ w'.cell? ⟨w.heap.size, 11, none⟩ = some (.bool P.b3) ∧ w'.cell? ⟨w.heap.size, 12, none⟩ = some (.bool P.b4) ∧ w'.cell? ⟨w.heap.size + 1, 0, none⟩ = some (.string af) ∧ w'.cell? ⟨w.heap.size + 1, 1, none⟩ = some (.int .i64 al) ∧ w'.cell? ⟨w.heap.size + 1, 2, none⟩ = some (.string ax) ∧ w'.cell? ⟨w.heap.size + 1, 3, none⟩ = some (.string ak) ∧ w'.cell? ⟨w.heap.size + 1, 4, none⟩ = some (.string av))) (by kernel_rfl) ?_ (fun hHeld => ?_)
  ·exact SK.out _ SV.out.pol SV.out.asg
  refine take_op2 (i := 0) (v := ?_) rfl (by kernel_rfl) (by kernel_rfl) (by kernel_rfl) (fun _ _ _ h => h) (Or.inl ⟨wanted_plain rfl, ?_⟩) (by assumption) ?_
  rotate_left
  ·(intro w hSw; (try dsimp only at hSw); go_simp; try with_reducible rfl)
  intro act_ hact_; simp only [Act.put, List.setIfInBounds_toArray, List.set_cons_zero, List.set_cons_succ] at hact_; subst hact_
  refine take_op2 (i := 1) (v := ?_) rfl (by kernel_rfl) (by kernel_rfl) (by kernel_rfl) (fun _ _ _ h => h) (Or.inl ⟨wanted_plain rfl, ?_⟩) (by assumption) ?_
  rotate_left
  ·(intro w hSw; (try dsimp only at hSw); go_simp; try with_reducible rfl)
  intro act_ hact_; simp only [Act.put, List.setIfInBounds_toArray, List.set_cons_zero, List.set_cons_succ] at hact_; subst hact_
  refine take_op2 (i := 2) (v := ?_) rfl (by kernel_rfl) (by kernel_rfl) (by kernel_rfl) (fun _ _ _ h => h) (Or.inl ⟨wanted_plain rfl, ?_⟩) (by assumption) ?_
  rotate_left
  ·(intro w hSw; (try dsimp only at hSw); go_simp; try with_reducible rfl)
  intro act_ hact_; simp only [Act.put, List.setIfInBounds_toArray, List.set_cons_zero, List.set_cons_succ] at hact_; subst hact_
  refine take_op2 (i := 3) (v := ?_) rfl (by kernel_rfl) (by kernel_rfl) (by kernel_rfl) (fun _ _ _ h => h) (Or.inl ⟨wanted_plain rfl, ?_⟩) (by assumption) ?_
  rotate_left
  ·(intro w hSw; (try dsimp only at hSw); go_simp; try with_reducible rfl)
  intro act_ hact_; simp only [Act.put, List.setIfInBounds_toArray, List.set_cons_zero, List.set_cons_succ] at hact_; subst hact_
  refine wpAnyH_ready (rs := [4]) (by kernel_rfl) (List.cons_ne_nil _ _) ?_
  refine AllReadyH.cons rfl (fun K hK => ?_) AllReadyH.nil
  go_simp
  go_wp2_with (go_at_call 67; ((with_reducible refine (HUN.out _ ax HSX.out).mono ?_); rintro e V1 ⟨qu, cu, rfl, r1, b⟩))
  have SZ := hid (SV.out.on ((Below.refl V.heap.size V).drew.trans b))
  have OP := hid (OV.out.on ((Below.refl V.heap.size V).drew.trans b))
  have NP := hid (owns_low16 r1 (show w.heap.size ≤ V.drew.heap.size from SV.out.bel.size))
  clear r1 b
  refine hK.out _ _ ?_ (fun hHeld => ?_)
  ·exact SK.out _ SZ.out.pol SZ.out.asg
  clear hK K
  refine wpAnyH_ready (rs := [5]) (by kernel_rfl) (List.cons_ne_nil _ _) ?_
  refine AllReadyH.cons rfl (fun K hK => ?_) AllReadyH.nil
  refine step_storeL17 rfl 32 (.tmp 4) (.tmp 10) (by rfl) (w.heap.size + 2) 0 (plC ⟨aq1, an1, ac1, fq1, fn1, fc1, lq1, ln1, lc1, mq1, mn1, mc1⟩ P) (by rfl) (by rfl) (there_row17 SZ.out.res (show 0 + 13 ≤ 13 by decide)) pl_info (plC_one _ _) ?_
  change K (Act.put _ none _) _
  simp only [Act.put]
  refine hK.out _ _ ?_ (fun hHeld => ?_)
  ·exact SK.out _ ((heap_setCells16 _ _ _ (by omega) _ _).trans SZ.out.pol) ((heap_setCells16 _ _ _ (by omega) _ _).trans SZ.out.asg)
  clear hK K
  refine take_op2 (i := 6) (v := ?_) rfl (by kernel_rfl) (by kernel_rfl) (by kernel_rfl) (fun _ _ _ h => h) (Or.inl ⟨wanted_plain rfl, ?_⟩) (by assumption) ?_
  rotate_left
  ·(intro w hSw; (try dsimp only at hSw); go_simp; try with_reducible rfl)
  intro act_ hact_; simp only [Act.put, List.setIfInBounds_toArray, List.set_cons_zero, List.set_cons_succ] at hact_; subst hact_
  refine wpAnyH_done (by kernel_rfl) ?_ _
  have hl := run_loadVar_mid (P := Tryz.prog) (V1.setCells (w.heap.size + 2) 0 (plC ⟨aq1, an1, ac1, fq1, fn1, fc1, lq1, ln1, lc1, mq1, mn1, mc1⟩ P)) (w.heap.size + 2) 0 32 (plC ⟨aq1, an1, ac1, fq1, fn1, fc1, lq1, ln1, lc1, mq1, mn1, mc1⟩ P) _ (World.rangeAt_setCells_same V1 _ 0 _ (there_row17 SZ.out.res (show 0 + 13 ≤ 13 by decide))) Tryz.underlying32 rfl pl_info
  have HB := hid (below_setCells16 (show w.heap.size ≤ w.heap.size + 2 by omega) (plC ⟨aq1, an1, ac1, fq1, fn1, fc1, lq1, ln1, lc1, mq1, mn1, mc1⟩ P) 0 _ SZ.out.bel)
  have OZ := hid (OP.out.box SZ.out.res 0 (plC ⟨aq1, an1, ac1, fq1, fn1, fc1, lq1, ln1, lc1, mq1, mn1, mc1⟩ P))
  have NZ := hid (rows_box17 (i := 0) SZ.out.res (by decide) NP.out (plC ⟨aq1, an1, ac1, fq1, fn1, fc1, lq1, ln1, lc1, mq1, mn1, mc1⟩ P))
  generalize V1.setCells (w.heap.size + 2) 0 (plC ⟨aq1, an1, ac1, fq1, fn1, fc1, lq1, ln1, lc1, mq1, mn1, mc1⟩ P) = Z at hl HB OZ NZ ⊢
  go_wp2_with fail
  (try simp only [Exit.inBlock, Exit.then])
  refine bodyPost_ret (v := .tuple #[.agg (plC ⟨aq1, an1, ac1, fq1, fn1, fc1, lq1, ln1, lc1, mq1, mn1, mc1⟩ P).toArray, .slice qu 1 cu]) (results_two15 Tryz.results25 ?_ ?_ hl) rfl ⟨⟨aq1, an1, ac1, fq1, fn1, fc1, lq1, ln1, lc1, mq1, mn1, mc1⟩, _, rfl, OZ.out, NZ.out, HB.out⟩
  all_goals rfl
end Go.Proofs.YtlenjfodjkhpmaaGreatDoor
