/- The landed fold's Step, of a list that may be and a value that has words: what the value makes of it, and what is noted. Conditions: names' tables lie in their variables, values of at most 1,000 bytes. -/
import Derived.Test.YtlenjfodjkhpmaaGreatDoorF8
import Derived.Deep.DeepCutAuto
import Derived.Deep.RegionHeld3
namespace Go.Proofs.YtlenjfodjkhpmaaGreatDoor
set_option maxRecDepth 100000
open Go.Lib (hid)
open Go.RowKit Go.Shelf
set_option linter.unusedVariables false
set_option linter.unusedSimpArgs false
attribute [local go_sem ↓] Go.wp_at_zero Go.wp_at_succ

theorem step_idx16 {ops : Array Oper} {o : Oper} {a : Act} {w : World} {K : Act → World → Prop} {Q : Exit → Act → World → Prop} {E : Prop} (hgd : o.guard = none) (t : TypeId) (x y : Operand) (ho : o.op = .index t x y) (u v r : Value)
 (hx : a.eval x = u) (hy : a.eval y = v) (hr : (Instr.index t u v).run Tryz.prog w = .ok r w) (h : K (a.put o.dst r) w) : if Region.wanted o (yielded ops a.tmps) = true then Oper.wp Tryz.prog o a w K Q else E := by
 rw [if_pos (by unfold Region.wanted; rw [hgd])]
 unfold Oper.wp execOp
 simp only [ho, hx, hy, Sem.run_bind, Sem.run_pure, Result.andThen_ok, hr]
 exact h
set_option maxHeartbeats 64000000 in
theorem step_go (m : Nat) (q : Option Addr) (n cap : Nat) (L : List Cl) (v : ByteArray) (sfx : Bool) (w : World) (hG : GN w) (hmm : m < 256) (hl : n = L.length) (hn : n ≤ 100000) (ha : ∀ e ∈ L, e.2 < 4294967296) (hv : v.size ≤ 1000) (h : LsAt w q L) (hm : mayR knownR m L = true) (h0 : wdL v.data.toList ≠ []) : Calls Tryz.prog 152 #[lsV m q n cap, .string v, .bool sfx] w fun e w' => ∃ q' n' c' vN, e = .returned (.tuple #[lsV (stepC knownR grpX sfx v (m, L)).1.1 q' n' c', vN]) ∧ n' = (stepC knownR grpX sfx v (m, L)).1.2.length ∧ w'.ownsRow w.heap.size 67 2 (.slice q' n' c') n' (rowC encC (stepC knownR grpX sfx v (m, L)).1.2) ∧ w'.ownsRow w.heap.size 57 4 vN (stepC knownR grpX sfx v (m, L)).2.length (rowC encN ((stepC knownR grpX sfx v (m, L)).2.map nteS)) ∧ Below w.heap.size w w' := by
 have HIN := hid (show (Tryz.prog.info? 27).map (·.size) = some 2 by kernel_rfl)
 unfold lsV
 obtain ⟨mi, hmi⟩ : ∃ x : Int, x = (m : Nat) := ⟨_, rfl⟩
 obtain ⟨W, hW⟩ : ∃ W, W = (w.alloc (.cells #[.int .u8 mi, .slice q n cap] 27)).alloc (.cells #[.int .u8 0, .slice none 0 0] 27) := ⟨_, rfl⟩
 have BB := hid (show Below w.heap.size w W from hW ▸ ((Below.refl _ _).alloc (Nat.le_refl _) _).alloc (by rw [World.size_alloc]; omega) _)
 have WSH := hid (show W.heap.size = w.heap.size + 2 by rw [hW, World.size_alloc, World.size_alloc])
 have P0 := hid (show W.heap[w.heap.size]? = some (.cells #[.int .u8 mi, .slice q n cap] 27 (0, 0)) by rw [hW, heap_old16])
 have P1 := hid (show W.heap[w.heap.size + 1]? = some (.cells #[.int .u8 0, .slice none 0 0] 27 (0, 0)) by rw [hW, heap_new16])
 have HMA := hid (fun (V : World) (b : Below W.heap.size W V) => may_c m q n cap L V hmm hl hn ha (h.on (thn16 BB.out b)))
 have HCO := hid (fun (V : World) (b : Below W.heap.size W V) => copied_c m q n cap L V hl hn (h.on (thn16 BB.out b)))
 unfold NewL2 lsV at HCO
 unfold lsV at HMA
 rw [← hmi] at HMA HCO
 have HWW := hid hW
 have HL := hid hl
 obtain ⟨j0, hj0, hy0, hy1, hy2⟩ := info_parts nte_info
 have JI := hid hj0
 have JZ0 := hid hy0
 have JZ1 := hid hy1
 have JZ2 := hid hy2
 clear hj0 hy0 hy1 hy2
 rw [hm] at HMA
 have hok := may_iff.1 hm
 have HWO := hid (fun (V : World) => words_c v V (by omega))
 have HKI := hid (fun (V : World) => kind_c v V (by omega))
 have hn2 : (wdL v.data.toList).length ≠ 0 := fun e => h0 (List.length_eq_zero_iff.1 e)
 have hsC : stepC knownR grpX sfx v (m, L) = ((modeF m (turnR v).2, doAll L (opsF knownR grpX sfx (turnR v).2 (modeF m (turnR v).2) (wdL (turnR v).1.data.toList))), ntsF knownR grpX sfx (turnR v).2 (wdL (turnR v).1.data.toList)) := by unfold stepC; rw [if_neg h0]
 have hrs : (turnR v).1.size ≤ 1000 := Nat.le_trans (turn_le v) hv
 rw [hsC]
 simp only
 have HBG := hid (fun (V : World) => begun_c m (turnR v).2 V)
 obtain ⟨T, hT⟩ : ∃ T, T = (turnR v).2 := ⟨_, rfl⟩
 obtain ⟨RV, hRV⟩ : ∃ T, T = (turnR v).1 := ⟨_, rfl⟩
 rw [← hRV] at hrs
 rw [← hT, ← hRV] at HKI
 rw [← hT] at HBG
 rw [← hT, ← hRV]
 have hWle := refWords_le hrs
 obtain ⟨WL, hWL⟩ : ∃ WL, WL = wdL RV.data.toList := ⟨_, rfl⟩
 have hwl : ∀ x ∈ WL, x.length ≤ 1000 := fun x hx => by
  rw [hWL] at hx
  have h1 := wdL_sum RV.data.toList
  have h2 : x.length ≤ ((wdL RV.data.toList).map List.length).sum := le_sum16 (List.mem_map.2 ⟨x, hx, rfl⟩)
  have h3 : RV.data.toList.length = RV.size := by simp
  omega
 rw [← hWL] at HKI hWle ⊢
 have HWLL := hid hwl
 obtain ⟨nW, hnW⟩ : ∃ x, x = WL.length := ⟨_, rfl⟩
 have HNW := hid hnW
 rw [← hnW] at HKI hWle
 obtain ⟨kk, hkk⟩ : ∃ k : Int, k = (if T = true then 1 else 0) := ⟨_, rfl⟩
 have hkT : (kk == 1) = T := by rw [hkk]; cases T <;> rfl
 have HKK := hid hkk
 rw [← hkk] at HKI HBG
 have hmF := (mode_le hok.mode T)
 have HOK := hid (okl_mode hok T)
 obtain ⟨mF, hmFe⟩ : ∃ x, x = modeF m T := ⟨_, rfl⟩
 rw [← hmFe] at hmF HOK HBG ⊢
 have HMM := hid (show mF = 1 ∨ mF = 2 by omega)
 obtain ⟨n2, hn2e⟩ : ∃ x, x = (wdL v.data.toList).length := ⟨_, rfl⟩
 rw [← hn2e] at HWO hn2
 have n20 : ¬ (n2 : Int) = 0 := by omega
 have n2b : ((n2 : Int) == 0) = false := beq_eq_false_iff_ne.2 n20
 rw [← hmi] at HBG ⊢
 obtain ⟨mf, hmf⟩ : ∃ x : Int, x = (mF : Nat) := ⟨_, rfl⟩
 have HMFI := hid hmf
 rw [← hmf] at HBG
 obtain ⟨FL, hFL⟩ : ∃ FL, FL = doAll L (opsF knownR grpX sfx T mF WL) := ⟨_, rfl⟩
 obtain ⟨FN, hFN⟩ : ∃ FN, FN = ntsF knownR grpX sfx T WL := ⟨_, rfl⟩
 have HFL := hid hFL
 have HFN := hid hFN
 have HG0 := hid hG
 rw [← hFL, ← hFN]
 clear hG h hl hmi hm h0 hok hsC hrs hT hRV hWL hwl hnW hmFe hn2e hmF hn2 hFL hFN hkk hmf hW
 go_enter Tryz.func152, Tryz.ntmps152
 go_wp2_with (first
  | (go_at_call 57
     rw [← HWW.out]
     ((with_reducible refine (HMA.out _ (Below.refl _ _)).mono ?_); rintro e v1 ⟨rfl, b1⟩)
     have B1 := hid b1
     have z0 := (cell_of_row v1 w.heap.size 0 _ _ (0, 0) ((b1.block _ (by have := WSH.out; omega)).trans P0.out)).trans (show _ = some (Value.int .u8 mi) from rfl)
     have z1 := (cell_of_row v1 w.heap.size 1 _ _ (0, 0) ((b1.block _ (by have := WSH.out; omega)).trans P0.out)).trans (show _ = some (Value.slice q n cap) from rfl)
     skip
     clear b1)
  | (go_at_call 154
     ((with_reducible refine (HWO.out _).mono ?_); rintro e v2 ⟨q2, c2, rfl, o2, b2⟩)
     have B2 := hid (thn16 B1.out b2)
     clear o2 b2)
  | (go_at_call 174
     ((with_reducible refine (HKI.out _).mono ?_); rintro e v3 ⟨q3, c3, rfl, o3, b3⟩)
     have B3 := hid (thn16 B2.out b3)
     have O3 := hid o3
     have z0 := (cell_of_row v3 w.heap.size 0 _ _ (0, 0) ((B3.out.block _ (by have := WSH.out; omega)).trans P0.out)).trans (show _ = some (Value.int .u8 mi) from rfl)
     have z1 := (cell_of_row v3 w.heap.size 1 _ _ (0, 0) ((B3.out.block _ (by have := WSH.out; omega)).trans P0.out)).trans (show _ = some (Value.slice q n cap) from rfl)
     clear o3 b3)
  | (go_at_call 173
     ((with_reducible refine (HCO.out _ B3.out).mono ?_); rintro e v4 ⟨q4, n4, c4, rfl, hn4, o4, b4⟩)
     have B4 := hid (thn16 B3.out b4)
     have X4 := hid ((B4.out.block w.heap.size (by have := WSH.out; omega)).trans P0.out)
     have R4 := hid ((B4.out.block (w.heap.size + 1) (by have := WSH.out; omega)).trans P1.out)
     have X5 := hid (set_box0 (u := .int .u8 mi) (z := .slice q4 n4 c4) X4.out)
     have R5 := hid ((heap_setCells16 v4 w.heap.size (w.heap.size + 1) (by omega) [.int .u8 mi, .slice q4 n4 c4] 0).trans R4.out)
     have B5 := hid (below_setCells16 (Nat.le_refl _) _ _ _ (thn16 BB.out B4.out) : Below w.heap.size w (v4.setCells w.heap.size 0 [.int .u8 mi, .slice q4 n4 c4]))
     have O5 := hid (owns_low16 (own_box16 X4.out (by decide) o4 [.int .u8 mi, .slice q4 n4 c4]) (show w.heap.size ≤ v3.heap.size by have := WSH.out; have := B3.out.size; omega))
     have W5 := hid (owns_low16 (own_box16 X4.out (by decide) (owns_on16 O3.out b4) [.int .u8 mi, .slice q4 n4 c4]) (show w.heap.size ≤ v2.heap.size by have := WSH.out; have := B2.out.size; omega))
     have N4 := hid hn4
     clear hn4 o4 b4)
  | ((with_reducible show wpList _ _ _ (⟨none, .store 27 (.tmp 3) (.tmp 35), _, _, _, _⟩ :: _) _ _)
     refine wpList_store_mid rfl 27 (.tmp 3) (.tmp 35) rfl w.heap.size 0 #[.int .u8 mi, .slice q4 n4 c4] rfl rfl (there16 X4.out) HIN.out (one16 _ _ _ _) ?_
     show wpList _ _ _ _ _ (v4.setCells w.heap.size 0 [.int .u8 mi, .slice q4 n4 c4])
     generalize v4.setCells w.heap.size 0 [.int .u8 mi, .slice q4 n4 c4] = w5 at X5 R5 B5 O5 W5 ⊢
     have y0 := (cell_of_row w5 w.heap.size 0 _ _ (0, 0) X5.out).trans (show _ = some (Value.int .u8 mi) from rfl)
     have f0 := frozen_of_row w5 w.heap.size 0 _ _ X5.out)
  | (go_at_call 175
     ((with_reducible refine (HBG.out _).mono ?_); rintro e w6 ⟨rfl, rfl⟩)))
 have S0 := hid (show SW NoI w mF (.slice q3 nW c3) nW WL L q4 n4 c4 [] (.slice none 0 0) (w5.setCell ⟨w.heap.size, 0, none⟩ (.int .u8 mf)) from
  ⟨B5.out.setCell (p := ⟨w.heap.size, 0, none⟩) (Nat.le_refl _) _, by rw [← HMFI.out]; exact box_set16 X5.out, (heap_setCell_other _ _ _ _ (by show w.heap.size + 1 ≠ w.heap.size; omega)).trans R5.out, N4.out, Or.inr (owns_same16 O5.out fun g cs fz _ hk => (heap_setCell_other w5 ⟨w.heap.size, 0, none⟩ g _ (ne_type16 hk X5.out (by decide))).trans hk), World.ownsRow_nil _ _ _ _, owns_same16 W5.out fun g cs fz _ hk => (heap_setCell_other w5 ⟨w.heap.size, 0, none⟩ g _ (ne_type16 hk X5.out (by decide))).trans hk⟩)
 generalize w5.setCell ⟨w.heap.size, 0, none⟩ (.int .u8 mf) = V0 at S0 ⊢
 clear y0 f0 z0 z1 n20 n2b
 have hnWi : (nW : Int) ≤ 1000 := by omega
 go_loopw [10, 43] (fun v10 v43 wr => ∃ (i : Nat) (L' : List Cl) (q' : Option Addr) (n' c' : Nat), i ≤ nW ∧ v43 = .int .i64 i ∧ Hid (L' = doAll L (opsF knownR grpX sfx T mF (WL.take i))) ∧ Hid (Okl knownR mF L') ∧ Hid (SW NoI w mF (.slice q3 nW c3) nW WL L' q' n' c' ((ntsF knownR grpX sfx T (WL.take i)).map nteS) v10 wr)) (fun _ v43 _ => nW - (intOf v43).toNat)
 case atStart => exact ⟨0, L, q4, n4, c4, by omega, rfl, hid rfl, HOK, S0⟩
 case round =>
  clear S0
  obtain ⟨i, L', q', n', c', hi, rfl, HLE, HOK', SWH⟩ := hrel
  obtain ⟨V0, rfl⟩ : ∃ wo : World, wo = wr := ⟨_, rfl⟩
  by_cases hlt : i < nW
  ·have hx : WL[i]? = some (WL[i]'(by rw [← HNW.out]; exact hlt)) := List.getElem?_eq_getElem _
   obtain ⟨x, hxe⟩ : ∃ e, e = WL[i]'(by rw [← HNW.out]; exact hlt) := ⟨_, rfl⟩
   rw [← hxe] at hx
   have hxl := HWLL.out x (List.mem_of_getElem? hx)
   obtain ⟨g3, cp3, hv3, hB3, hl3⟩ := SWH.out.wds.form (by omega)
   injection hv3 with hv31 hv32 hv33
   subst hv31 hv33
   have cw := (SWH.out.wds.cellAt i (by omega)).trans (sL_get hx)
   obtain ⟨bx, hbx⟩ : ∃ b, b = bs x := ⟨_, rfl⟩
   have hbs : bx.size = x.length := by rw [hbx, bs_size]
   rw [← hbx] at cw
   have HOP := hid (ops_next sfx T mF hx)
   have HNT := hid (nts_next sfx T hx)
   have HWR := hid (word_read sfx T x)
   have HWOK := hid (word_ok (K := knownR) (X := grpX) grpX_known sfx T x)
   have HNF := hid (read_le (sfx && T) bx)
   rw [← hbx] at HWR
   obtain ⟨N0, hN0⟩ : ∃ N, N = (ntsF knownR grpX sfx T (WL.take i)).map nteS := ⟨_, rfl⟩
   rw [← hN0] at SWH
   have HNL := hid (show N0.length ≤ 1000 by rw [hN0, List.length_map]; exact Nat.le_trans (nts_le sfx T _) (by rw [List.length_take]; omega))
   obtain ⟨wf, hwf⟩ : ∃ e, e = wordF knownR grpX sfx T x := ⟨_, rfl⟩
   rw [← hwf] at HOP HNT HWR HWOK
   have HNT := hid (show (ntsF knownR grpX sfx T (WL.take (i + 1))).map nteS = N0 ++ wf.1.map nteS by rw [HNT.out, List.map_append, hN0])
   obtain ⟨tx, htx⟩ : ∃ b, b = bs (x.take 60) := ⟨_, rfl⟩
   have HNO := hid (fun (E : Int) (X : World) => note_c E bx X (by omega))
   have hbl : bx.data.toList = x := by rw [hbx, bs_list]
   rw [hbl, ← htx] at HNO
   rw [← htx] at HWR
   have HRD := hid (fun (X : World) (g : GN X) => read_c bx (sfx && T) X g (by omega))
   unfold ReadL at HRD
   obtain ⟨⟨⟨nm, act, has⟩, NL, F⟩, hR⟩ : ∃ r, r = readF (sfx && T) bx := ⟨_, rfl⟩
   rw [← hR] at HRD HWR HNF
   unfold entV at HRD
   simp only at HRD HWR HNF
   obtain ⟨acti, hacti⟩ : ∃ a : Int, a = (act : Nat) := ⟨_, rfl⟩
   have HACT := hid hacti
   rw [← hacti] at HRD
   have k1 : (i : Int) < nW := by omega
   have k0 : (0 : Int) ≤ i := by omega
   clear hx hxe hbx htx hwf hR hacti hN0 hbl
   obtain ⟨B0, hB0⟩ : ∃ b, b = V0.heap.size := ⟨_, rfl⟩
   have HB0 := hid (show w.heap.size + 2 ≤ B0 by have := SWH.out.lt; omega)
   have HNB := hid (fun (k : Nat) (e : u10.ownBlock = some k) => show k < B0 from hB0 ▸ (SWH.out.nts.lt k e).2)
   have HCB := hid (fun (k : Nat) (e : (Value.slice q' n' c').ownBlock = some k) => show k < B0 from hB0 ▸ ((SWrow SWH.out).lt k e).2)
   have HBV := hid (show B0 ≤ V0.heap.size from Nat.le_of_eq hB0)
   clear hB0
   obtain ⟨rb, hrb⟩ : ∃ b, (sfx && T) = b := ⟨_, rfl⟩
   rw [hrb] at HRD
   cases sfx
   skip
   all_goals
    simp only [Bool.false_and, Bool.true_and] at hrb
    subst hrb
    go_upto_if 59 with (go_at_call 176
                        ((with_reducible refine (HRD.out _ (HG0.out.on SWH.out.bel)).mono ?_); rintro e v4 ⟨vf, rfl, n4, b4⟩)
                        have S4 := hid (SWH.out.on (b4.alloc b4.size (.cells #[.string nm, .int .u32 acti, .bool has] 151)))
                        have HBE := hid (show B0 ≤ v4.heap.size from Nat.le_trans HBV.out b4.size)
                        have E4 := hid (heap_alloc_new v4 (.cells #[.string nm, .int .u32 acti, .bool has] 151))
                        have N4 := hid (show NewS B0 (v4.alloc (.cells #[.string nm, .int .u32 acti, .bool has] 151)) vf NL from newS_on ⟨n4.1, fun g e => Nat.le_trans HBV.out (n4.2 g e)⟩ (below16 v4 _))
                        clear n4 b4)
    clear cw HRD
    obtain ⟨bE, hbE⟩ : ∃ b, b = v4.heap.size := ⟨_, rfl⟩
    rw [← hbE] at E4 HBE ⊢
    clear hbE
    generalize v4.alloc (.cells #[.string nm, .int .u32 acti, .bool has] 151) = V4 at S4 E4 N4 ⊢
    go_cut [10] (fun v10' wx => Hid (SW NoI w mF (.slice (some ⟨g3, 0, none⟩) nW c3) nW WL L' q' n' c' (N0 ++ wf.1.map nteS) v10' wx) ∧ Hid (wx.heap[bE]? = some (.cells #[.string nm, .int .u32 acti, .bool has] 151 (0, 0))) ∧ Hid (NewS B0 wx vf NL))
    case first =>
     by_cases hF : F = 0
     ·have eb : (F != 0) = false := by rw [hF]; rfl
      have HW1 := hid (show wf.1 = [] by rw [HWR.out]; exact if_neg (fun h => h hF))
      clear hF
      go_wp2_with fail
      go_meet
      case rel => exact ⟨by rw [HW1.out, List.map_nil, List.append_nil]; exact S4, E4, N4⟩
     ·have eb : (F != 0) = true := bne_iff_ne.2 hF
      have HW1 := hid (show wf.1 = [(F, tx)] by rw [HWR.out]; exact if_pos hF)
      clear hF
      go_wp2_with (first
       | (go_at_call 177
          ((with_reducible refine (HNO.out _ _).mono ?_); rintro e v5 ⟨rfl, b5⟩)
          have B5 := hid b5
          clear b5)
       | (at_builtin
          refine wpList_append_own _ rfl (.tmp 60) (.tmp 64) 33 rfl w.heap.size 57 j0 _ 4 48 Tryz.underlying33 JI.out JZ0.out JZ1.out JZ2.out rfl (by omega) _ N0.length (rowC encN N0) rfl ((S4.out.on B5.out).nts.alloc _) ⟨v5.heap.size, 0, none⟩ 1 1 [.string ⟨#[]⟩, .int .i64 0, .int .i64 F, .string tx] rfl rfl (news_row v5 _ _) (fun u hu => by simp only [List.mem_cons, List.mem_nil_iff, or_false] at hu; rcases hu with rfl | rfl | rfl | rfl <;> rfl) (by have := HNL.out; unfold maxLen; omega) (by have := HNL.out; omega) (by have := (S4.out.on B5.out).bel.size; rw [World.size_alloc]; omega) ?_
          intro v7 w7 o7 hg7 _
          have S7 := hid (((S4.out.on B5.out).on (below16 v5 (.cells #[.string ⟨#[]⟩, .int .i64 0, .int .i64 F, .string tx] 57))).note (N' := N0 ++ [nteS (F, tx)]) hg7 (by rw [List.length_append, List.length_singleton, rowC_app, rowC_one1]; exact o7))
          have E7 := hid (((S4.out.on B5.out).on (below16 v5 (.cells #[.string ⟨#[]⟩, .int .i64 0, .int .i64 F, .string tx] 57))).keep hg7 ((Below.heap_alloc _ _ _ (by have := (Array.getElem?_eq_some_iff.1 E4.out).1; have := B5.out.size; omega)).trans (blk_on16 E4.out B5.out)) (by decide))
          have N7 := hid (newS_grown (newS_on (newS_on N4.out B5.out) (below16 v5 (.cells #[.string ⟨#[]⟩, .int .i64 0, .int .i64 F, .string tx] 57))) hg7 (fun g e h => by have := HNB.out g h; have := N4.out.2 g e; omega))
          clear o7 hg7))
      go_meet
      case rel => exact ⟨by rw [HW1.out]; exact S7, E7, N7⟩
    case rest =>
     obtain ⟨S6, E6, N6⟩ := hcut
     obtain ⟨V6, rfl⟩ : ∃ wo : World, wo = wc := ⟨_, rfl⟩
     clear S4 E4 N4
     have HBL := hid ((Array.getElem?_eq_some_iff.1 E6.out).1)
     obtain ⟨nn, hnn⟩ : ∃ k, k = NL.length := ⟨_, rfl⟩
     have HNN := hid hnn
     have hn100 : nn ≤ 100 := by rw [hnn]; exact HNF.out
     obtain ⟨⟨qf, cf, hvf, hrf⟩, hnf⟩ := N6.out
     subst hvf
     rw [← hnn]
     have N6 := hid (show NewS B0 V6 (.slice qf nn cf) NL from ⟨⟨qf, cf, by rw [hnn], hrf⟩, fun g e => hnf g (hnn ▸ e)⟩)
     have e0 := (cell_of_row V6 bE 0 _ _ (0, 0) E6.out).trans (show _ = some (Value.string nm) from rfl)
     have e1 := (cell_of_row V6 bE 1 _ _ (0, 0) E6.out).trans (show _ = some (Value.int .u32 acti) from rfl)
     have e2 := (cell_of_row V6 bE 2 _ _ (0, 0) E6.out).trans (show _ = some (Value.bool has) from rfl)
     have x0 : V6.cell? ⟨w.heap.size, 0, none⟩ = some (.int .u8 mf) := by rw [HMFI.out]; exact S6.out.x0
     clear hrf hnf hnn
     have HEFF := hid (fun (X : World) => effects_c nm acti has X)
     obtain ⟨RR, HRR1, HRR2⟩ := run_eff V6.drew.heap.size has mF T HMM.out
     rw [← HKK.out] at HRR2
     rw [← HMFI.out] at HRR1
     obtain ⟨EFV, hEFV⟩ : ∃ x, x = effT V6.drew.heap.size has := ⟨_, rfl⟩
     rw [← hEFV] at HRR1
     have HRR1 := hid HRR1
     have HRR2 := hid HRR2
     have HEV := hid hEFV
     obtain ⟨CH, hCH⟩ : ∃ x, x = chgV V6.drew.heap.size mF T has := ⟨_, rfl⟩
     rw [← hCH] at HRR2
     have HCH := hid hCH
     clear hEFV hCH
     go_wp2_with fail
     go_region_held3 (fun w' => Below V6.heap.size V6 w' ∧ w'.cell? ⟨bE, 0, none⟩ = some (.string nm) ∧ w'.cell? ⟨bE, 1, none⟩ = some (.int .u32 acti) ∧ w'.cell? ⟨bE, 2, none⟩ = some (.bool has) ∧ w'.cell? ⟨w.heap.size, 0, none⟩ = some (.int .u8 mf)) (first
      | exact ⟨(Below.refl _ _).drew, e0, e1, e2, x0⟩
      | exact ⟨B8.out, (B8.out.cell (p := ⟨bE, 0, none⟩) HBL.out).trans e0, (B8.out.cell (p := ⟨bE, 1, none⟩) HBL.out).trans e1, (B8.out.cell (p := ⟨bE, 2, none⟩) HBL.out).trans e2, (B8.out.cell (p := ⟨w.heap.size, 0, none⟩) (Nat.lt_of_succ_lt S6.out.lt)).trans x0⟩) (first
      | (go_at_call 178
         ((with_reducible refine (HEFF.out _).mono ?_); rintro e v8 ⟨rfl, x8, b8⟩)
         rw [← HEV.out]
         have B8 := hid (show Below V6.heap.size V6 v8 from ((Below.refl _ _).drew).trans b8)
         have X8 := hid x8
         clear x8 b8)
      | (refine step_idx16 rfl 228 _ _ rfl _ _ _ (by rfl) (by rfl) (HRR1.out _) ?_)
      | (refine step_idx16 rfl 227 _ _ rfl _ _ _ (by rfl) (by rfl) (HRR2.out _) ?_))
     cases hP : putB mF T has with
     | true =>
      have HOPF := hid (fun (t : ByteArray) => (op_put mF T has t act).trans (if_pos hP))
      rw [show chgV V6.heap.size mF T has = .func (.func 204) #[] #[.pointer (some ⟨V6.heap.size, 0, none⟩)] from by unfold chgV; rw [hP]; rfl]
      obtain ⟨bX, hbX⟩ : ∃ b, b = V6.heap.size := ⟨_, rfl⟩
      have X8 := hid (show v8.heap[bX]? = some (.cells #[.string nm, .int .u32 acti, .bool has] 151 (0, 0)) from hbX ▸ X8.out)
      rw [← hbX]
      clear hbX hP
      go_wp2_with fail
      have L0 := hid (show L' = doAll L' ((NL.take 0).map fun t => opF mF T (t, has, act)) from rfl)
      have A0 := hid (show ∀ k, (Value.slice q' n' c').ownBlock = some k → ∀ g, (Value.slice qf nn cf).ownBlock = some g → k ≠ g from fun k e g e2 => by have := HCB.out k e; have := N6.out.2 g e2; omega)
      go_loopw [75] (fun v75 wr => ∃ (k : Nat) (L2 : List Cl) (q5 : Option Addr) (n5 c5 : Nat), k ≤ nn ∧ v75 = .int .i64 k ∧ Hid (L2 = doAll L' ((NL.take k).map fun t => opF mF T (t, has, act))) ∧ Hid (Okl knownR mF L2) ∧ Hid (SW NoI w mF (.slice (some ⟨g3, 0, none⟩) nW c3) nW WL L2 q5 n5 c5 (N0 ++ wf.1.map nteS) u10 wr) ∧ Hid (wr.heap[bX]? = some (.cells #[.string nm, .int .u32 acti, .bool has] 151 (0, 0))) ∧ Hid (NewS B0 wr (.slice qf nn cf) NL) ∧ Hid (∀ k, (Value.slice q5 n5 c5).ownBlock = some k → ∀ g, (Value.slice qf nn cf).ownBlock = some g → k ≠ g)) (fun v75 _ => nn - (intOf v75).toNat)
      case atStart => exact ⟨0, L', q', n', c', by omega, rfl, L0, HOK', hid (S6.out.on B8.out), X8, hid (newS_on N6.out B8.out), A0⟩
      case round =>
       clear X8 L0 A0
       obtain ⟨k, L2, q5, n5, c5, hk, rfl, HL2, HOK2, S8, X8, N8, A8⟩ := hrel
       obtain ⟨V8, rfl⟩ : ∃ wo : World, wo = wr := ⟨_, rfl⟩
       by_cases hkl : k < nn
       ·have ht : NL[k]? = some (NL[k]'(by rw [← HNN.out]; exact hkl)) := List.getElem?_eq_getElem _
        obtain ⟨t, hte⟩ : ∃ e, e = NL[k]'(by rw [← HNN.out]; exact hkl) := ⟨_, rfl⟩
        rw [← hte] at ht
        obtain ⟨⟨qx, cx, hvx, hrx⟩, hnx⟩ := N8.out
        injection hvx with hvx1 hvx2 hvx3
        subst hvx1
        clear hvx2 hvx3
        obtain ⟨gn, on, hgn, ct⟩ := hrx k t ht
        subst hgn
        have hko := HWOK.out (t, has, act) (by rw [HWR.out]; exact List.mem_map.2 ⟨t, List.mem_of_getElem? ht, rfl⟩)
        have HLN := hid (show putC L2 t act = doAll L' ((NL.take (k + 1)).map fun t => opF mF T (t, has, act)) by
         rw [List.take_add_one, ht, List.map_append, doAll_app, ← HL2.out]
         show _ = doE L2 (opF mF T (t, has, act))
         rw [HOPF.out t]; rfl)
        have HOK9 := hid (show Okl knownR mF (putC L2 t act) from okl_do (o := (t, some act)) HOK2.out (show mF ≠ 0 by rcases HMM.out with h | h <;> omega) (fun a e => by injection e with e; subst e; exact hko))
        have x1 := S8.out.x1
        have HGL := hid (World.block_lt_of_cell? _ _ ct)
        have j1 : (k : Int) < nn := by omega
        have j0' : (0 : Int) ≤ k := by omega
        have HEF := hid (eff1_c V8 w.heap.size (.slice q5 n5 c5) n5 L2 t nm act has bX (by rw [← HACT.out]; exact X8.out) (SWrow S8.out) S8.out.len HOK2.out.asc (by have := okl_le HOK2.out; have := S8.out.len; omega) S8.out.bel.size)
        obtain ⟨L3, hL3⟩ : ∃ l, l = putC L2 t act := ⟨_, rfl⟩
        rw [← hL3] at HEF HLN HOK9
        clear ht hte hko hrx hnx hL3
        go_wp2_with (go_at_call 204
                     ((with_reducible refine (HEF.out).mono ?_); rintro e w9 ⟨v9, n9, rfl, hn9, o9, g9, l9⟩)
                     obtain ⟨q9, c9, rfl⟩ := own16 o9
                     obtain ⟨hb9, s9⟩ := SWcalls S8.out g9 hn9 o9
                     have z1 := (cell_of_row w9 w.heap.size 1 _ _ (0, 0) hb9).trans (show _ = some (Value.slice q5 n5 c5) from rfl)
                     have zf := frozen_of_row w9 w.heap.size 1 _ _ hb9
                     have S9 := hid s9
                     have xk := SWkeep S8.out g9 X8.out (by decide)
                     have X9 := hid ((heap_setCell_other w9 ⟨w.heap.size, 1, none⟩ bX (.slice q9 n9 c9) (ne_type16 xk hb9 (by decide))).trans xk)
                     have N9 := hid (newS_set (o := 1) (u := .slice q9 n9 c9) (newS_grown N8.out g9 (fun g e h => A8.out g h g e rfl)) (show w.heap.size < B0 by have := HB0.out; omega))
                     have A9 := hid (show ∀ k, (Value.slice q9 n9 c9).ownBlock = some k → ∀ g, (Value.slice (some ⟨gn, on, none⟩) nn cf).ownBlock = some g → k ≠ g from fun k e g e2 => by
                      rcases l9 k e with h | h
                      ·exact A8.out k h g e2
                      ·have e3 : gn = g := Option.some.inj e2
                       have := HGL.out
                       simp only at this
                       omega)
                     clear hn9 o9 g9 l9 hb9 s9 xk)
        go_roundw
        skip
        case rel => exact ⟨k + 1, L3, q9, n9, c9, by omega, by go_num, HLN, HOK9, S9, X9, N9, A9⟩
        case measure => first | (simp [intOf]; done) | (simp [intOf]; omega)
       ·obtain rfl : k = nn := by omega
        have kk1 : ¬ (k : Int) < k := by omega
        have HLE2 := hid (show L2 = doAll L (opsF knownR grpX _ T mF (WL.take (i + 1))) by
         rw [HOP.out, HWR.out, List.map_map, doAll_app, ← HLE.out, HL2.out, List.take_of_length_le (by rw [← HNN.out]; exact Nat.le_refl _)]; rfl)
        go_wp2_with fail
        go_roundw
        case rel => exact ⟨i + 1, L2, q5, n5, c5, by omega, by go_num, HLE2, HOK2, by rw [HNT.out]; exact S8⟩
        case measure => first | (simp [intOf]; done) | (simp [intOf]; omega)
     | false =>
      have HOPF := hid (fun (t : ByteArray) => (op_put mF T has t act).trans (if_neg (by rw [hP]; exact Bool.noConfusion)))
      rw [show chgV V6.heap.size mF T has = .func (.func 206) #[] #[] from by unfold chgV; rw [hP]; rfl]
      obtain ⟨bX, hbX⟩ : ∃ b, b = V6.heap.size := ⟨_, rfl⟩
      have X8 := hid (show v8.heap[bX]? = some (.cells #[.string nm, .int .u32 acti, .bool has] 151 (0, 0)) from hbX ▸ X8.out)
      skip
      clear hbX hP
      go_wp2_with fail
      have L0 := hid (show L' = doAll L' ((NL.take 0).map fun t => opF mF T (t, has, act)) from rfl)
      have A0 := hid (show ∀ k, (Value.slice q' n' c').ownBlock = some k → ∀ g, (Value.slice qf nn cf).ownBlock = some g → k ≠ g from fun k e g e2 => by have := HCB.out k e; have := N6.out.2 g e2; omega)
      go_loopw [75] (fun v75 wr => ∃ (k : Nat) (L2 : List Cl) (q5 : Option Addr) (n5 c5 : Nat), k ≤ nn ∧ v75 = .int .i64 k ∧ Hid (L2 = doAll L' ((NL.take k).map fun t => opF mF T (t, has, act))) ∧ Hid (Okl knownR mF L2) ∧ Hid (SW NoI w mF (.slice (some ⟨g3, 0, none⟩) nW c3) nW WL L2 q5 n5 c5 (N0 ++ wf.1.map nteS) u10 wr) ∧ Hid (wr.heap[bX]? = some (.cells #[.string nm, .int .u32 acti, .bool has] 151 (0, 0))) ∧ Hid (NewS B0 wr (.slice qf nn cf) NL) ∧ Hid (∀ k, (Value.slice q5 n5 c5).ownBlock = some k → ∀ g, (Value.slice qf nn cf).ownBlock = some g → k ≠ g)) (fun v75 _ => nn - (intOf v75).toNat)
      case atStart => exact ⟨0, L', q', n', c', by omega, rfl, L0, HOK', hid (S6.out.on B8.out), X8, hid (newS_on N6.out B8.out), A0⟩
      case round =>
       clear X8 L0 A0
       obtain ⟨k, L2, q5, n5, c5, hk, rfl, HL2, HOK2, S8, X8, N8, A8⟩ := hrel
       obtain ⟨V8, rfl⟩ : ∃ wo : World, wo = wr := ⟨_, rfl⟩
       by_cases hkl : k < nn
       ·have ht : NL[k]? = some (NL[k]'(by rw [← HNN.out]; exact hkl)) := List.getElem?_eq_getElem _
        obtain ⟨t, hte⟩ : ∃ e, e = NL[k]'(by rw [← HNN.out]; exact hkl) := ⟨_, rfl⟩
        rw [← hte] at ht
        obtain ⟨⟨qx, cx, hvx, hrx⟩, hnx⟩ := N8.out
        injection hvx with hvx1 hvx2 hvx3
        subst hvx1
        clear hvx2 hvx3
        obtain ⟨gn, on, hgn, ct⟩ := hrx k t ht
        subst hgn
        have hko := HWOK.out (t, has, act) (by rw [HWR.out]; exact List.mem_map.2 ⟨t, List.mem_of_getElem? ht, rfl⟩)
        have HLN := hid (show takeC L2 t = doAll L' ((NL.take (k + 1)).map fun t => opF mF T (t, has, act)) by
         rw [List.take_add_one, ht, List.map_append, doAll_app, ← HL2.out]
         show _ = doE L2 (opF mF T (t, has, act))
         rw [HOPF.out t]; rfl)
        have HOK9 := hid (show Okl knownR mF (takeC L2 t) from okl_do (o := (t, none)) HOK2.out (show mF ≠ 0 by rcases HMM.out with h | h <;> omega) (fun a e => by cases e))
        have x1 := S8.out.x1
        have HGL := hid (World.block_lt_of_cell? _ _ ct)
        have j1 : (k : Int) < nn := by omega
        have j0' : (0 : Int) ≤ k := by omega
        have HEF := hid (without_c V8 w.heap.size (.slice q5 n5 c5) n5 L2 t (SWrow S8.out) S8.out.len HOK2.out.asc (by have := okl_le HOK2.out; have := S8.out.len; omega) S8.out.bel.size)
        obtain ⟨L3, hL3⟩ : ∃ l, l = takeC L2 t := ⟨_, rfl⟩
        rw [← hL3] at HEF HLN HOK9
        clear ht hte hko hrx hnx hL3
        go_wp2_with (go_at_call 206
                     ((with_reducible refine (HEF.out).mono ?_); rintro e w9 ⟨v9, n9, rfl, hn9, o9, g9, l9⟩)
                     obtain ⟨q9, c9, rfl⟩ := own16 o9
                     obtain ⟨hb9, s9⟩ := SWcalls S8.out g9 hn9 o9
                     have z1 := (cell_of_row w9 w.heap.size 1 _ _ (0, 0) hb9).trans (show _ = some (Value.slice q5 n5 c5) from rfl)
                     have zf := frozen_of_row w9 w.heap.size 1 _ _ hb9
                     have S9 := hid s9
                     have xk := SWkeep S8.out g9 X8.out (by decide)
                     have X9 := hid ((heap_setCell_other w9 ⟨w.heap.size, 1, none⟩ bX (.slice q9 n9 c9) (ne_type16 xk hb9 (by decide))).trans xk)
                     have N9 := hid (newS_set (o := 1) (u := .slice q9 n9 c9) (newS_grown N8.out g9 (fun g e h => A8.out g h g e rfl)) (show w.heap.size < B0 by have := HB0.out; omega))
                     have A9 := hid (show ∀ k, (Value.slice q9 n9 c9).ownBlock = some k → ∀ g, (Value.slice (some ⟨gn, on, none⟩) nn cf).ownBlock = some g → k ≠ g from fun k e g e2 => by
                      rcases l9 k e with h | h
                      ·exact A8.out k h g e2
                      ·have e3 : gn = g := Option.some.inj e2
                       have := HGL.out
                       simp only at this
                       omega)
                     clear hn9 o9 g9 l9 hb9 s9 xk)
        go_roundw
        skip
        case rel => exact ⟨k + 1, L3, q9, n9, c9, by omega, by go_num, HLN, HOK9, S9, X9, N9, A9⟩
        case measure => first | (simp [intOf]; done) | (simp [intOf]; omega)
       ·obtain rfl : k = nn := by omega
        have kk1 : ¬ (k : Int) < k := by omega
        have HLE2 := hid (show L2 = doAll L (opsF knownR grpX _ T mF (WL.take (i + 1))) by
         rw [HOP.out, HWR.out, List.map_map, doAll_app, ← HLE.out, HL2.out, List.take_of_length_le (by rw [← HNN.out]; exact Nat.le_refl _)]; rfl)
        go_wp2_with fail
        go_roundw
        case rel => exact ⟨i + 1, L2, q5, n5, c5, by omega, by go_num, HLE2, HOK2, by rw [HNT.out]; exact S8⟩
        case measure => first | (simp [intOf]; done) | (simp [intOf]; omega)
  ·obtain rfl : i = nW := by omega
   have k1 : ¬ (i : Int) < i := by omega
   have htk : WL.take i = WL := List.take_of_length_le (by rw [← HNW.out]; exact Nat.le_refl _)
   rw [htk] at HLE SWH
   have HLF := hid (show FL = L' by rw [HFL.out, HLE.out])
   rw [← HFN.out] at SWH
   have x0 : V0.cell? ⟨w.heap.size, 0, none⟩ = some (.int .u8 mf) := by rw [HMFI.out]; exact SWH.out.x0
   have x1 := SWH.out.x1
   have F0 := hid SWH.out.res
   have ⟨hl6, hb6⟩ := retL16 F0.out SWH.out.bel (by omega : w.heap.size ≤ w.heap.size + 1) mf q' n' c'
   have HB3 := hid hb6
   have HLN := hid (show n' = FL.length by rw [HLF.out]; exact SWH.out.len)
   have HLS := hid (show (V0.setCells (w.heap.size + 1) 0 [.int .u8 mf, .slice q' n' c']).ownsRow w.heap.size 67 2 (.slice q' n' c') n' (rowC encC FL) by
    rw [HLF.out]; exact own_box16 F0.out (by decide) (SWrow SWH.out) _)
   have HNT := hid (show (V0.setCells (w.heap.size + 1) 0 [.int .u8 mf, .slice q' n' c']).ownsRow w.heap.size 57 4 u10 FN.length (rowC encN (FN.map nteS)) by
    rw [← List.length_map (f := nteS)]; exact own_box16 F0.out (by decide) SWH.out.nts _)
   clear htk hb6
   go_wp2_with ((with_reducible show wpList _ _ _ (⟨none, .store 27 (.tmp 6) (.tmp 87), _, _, _, _⟩ :: _) _ _)
                refine wpList_store_mid rfl 27 (.tmp 6) (.tmp 87) rfl (w.heap.size + 1) 0 #[.int .u8 mf, .slice q' n' c'] rfl rfl (there16 F0.out) HIN.out (one16 _ _ _ _) ?_
                show wpList _ _ _ _ _ (V0.setCells (w.heap.size + 1) 0 [.int .u8 mf, .slice q' n' c'])
                generalize V0.setCells (w.heap.size + 1) 0 [.int .u8 mf, .slice q' n' c'] = w7 at hl6 HB3 HLS HNT ⊢)
   (try simp only [Exit.inBlock, Exit.then])
   rw [show ((mF : Nat) : Int) = mf from HMFI.out.symm]
   refine bodyPost_ret (v := .tuple #[.agg #[.int .u8 mf, .slice q' n' c'], u10]) (results_two15 Tryz.results152 ?_ ?_ hl6) rfl ⟨q', n', c', _, rfl, HLN.out, HLS.out, HNT.out, HB3.out⟩
   all_goals rfl
end Go.Proofs.YtlenjfodjkhpmaaGreatDoor
