/- What the document's own Step returns of a list that may be and a value that has words. Condition: a list that can be read, a value of at most 1,000 bytes. -/
import Derived.Test.YtanifiobfbfehaaGreatDoorTn
namespace Go.Proofs.YtanifiobfbfehaaGreatDoor
open Go.RowKit
set_option linter.unusedVariables false
set_option linter.unusedSimpArgs false
attribute [local go_sem ↓] Go.wp_at_zero Go.wp_at_succ

/-- A word's error; whether its suffix counts for nothing. -/
def errW (x : List UInt8) : Int := if (rdL x).2 ≠ 0 then (rdL x).2 else (namesF knownR grpX (rdL x).1.nm).1
def cndW (sfx T : Bool) (x : List UInt8) : Bool := (rdL x).1.has && (!sfx || !T)
theorem word_err {sfx T : Bool} {x : List UInt8} (h : errW x ≠ 0) : wordF knownR grpX sfx T x = ([(errW x, bs (x.take 60))], []) := by
  unfold wordF errW at *
  by_cases h1 : (rdL x).2 ≠ 0
  · rw [if_pos h1, if_pos h1]
  · rw [if_neg h1] at h
    rw [if_neg h1, if_neg h1, if_pos h]
theorem word_go {sfx T : Bool} {x : List UInt8} (h : errW x = 0) : wordF knownR grpX sfx T x = (if cndW sfx T x = true then [(161, bs (x.take 60))] else [], (namesF knownR grpX (rdL x).1.nm).2.map fun n => (n, if cndW sfx T x = true then false else (rdL x).1.has, if cndW sfx T x = true then 0 else (rdL x).1.act)) := by
  unfold wordF errW cndW at *
  by_cases h1 : (rdL x).2 ≠ 0
  · rw [if_pos h1] at h; exact absurd h h1
  · rw [if_neg h1] at h
    rw [if_neg h1, if_neg (by rw [h]; simp)]
    by_cases h2 : ((rdL x).1.has && (!sfx || !T)) = true
    · rw [if_pos h2, if_pos h2]; simp [h2]
    · rw [if_neg h2, if_neg h2]; simp [h2]
theorem nts_next (sfx T : Bool) {WL : List (List UInt8)} {i : Nat} {x : List UInt8} (h : WL[i]? = some x) : ntsF knownR grpX sfx T (WL.take (i + 1)) = ntsF knownR grpX sfx T (WL.take i) ++ (wordF knownR grpX sfx T x).1 := by
  unfold ntsF
  rw [List.take_add_one, h, List.flatMap_append]
  simp
theorem ops_next (sfx T : Bool) (mF : Nat) {WL : List (List UInt8)} {i : Nat} {x : List UInt8} (h : WL[i]? = some x) : opsF knownR grpX sfx T mF (WL.take (i + 1)) = opsF knownR grpX sfx T mF (WL.take i) ++ (wordF knownR grpX sfx T x).2.map (opF mF T) := by
  unfold opsF
  rw [List.take_add_one, h, List.flatMap_append, List.map_append]
  simp
theorem word_nts_le (sfx T : Bool) (x : List UInt8) : (wordF knownR grpX sfx T x).1.length ≤ 1 := by
  unfold wordF
  split
  · exact Nat.le_refl _
  · split
    · exact Nat.le_refl _
    · split
      · exact Nat.le_refl _
      · exact Nat.zero_le _
theorem nts_le (sfx T : Bool) : ∀ (WL : List (List UInt8)), (ntsF knownR grpX sfx T WL).length ≤ WL.length
  | [] => Nat.le_refl _
  | x :: r => by
    have h1 := word_nts_le sfx T x
    have h2 := nts_le sfx T r
    unfold ntsF at h2 ⊢
    rw [List.flatMap_cons, List.length_append, List.length_cons]
    omega
theorem doAll_app (l : List Cl) (a b : List Ef) : doAll l (a ++ b) = doAll (doAll l a) b := List.foldl_append
theorem bs_cut60 (x : List UInt8) : (bs x).extract 0 60 = bs (x.take 60) := by
  rw [ext_bs, bs_list]; rfl
theorem box_set16 {V : World} {b : Nat} {x y u : Value} (h : V.heap[b]? = some (.cells #[x, u] 25 (0, 0))) : (V.setCell ⟨b, 0, none⟩ y).heap[b]? = some (.cells #[y, u] 25 (0, 0)) := by
  simp [World.setCell, Array.getElem?_modify, h]
theorem le_sum16 {a : Nat} : ∀ {l : List Nat}, a ∈ l → a ≤ l.sum
  | b :: r, h => by
    rw [List.sum_cons]
    rcases List.mem_cons.1 h with rfl | h
    · omega
    · have := le_sum16 h; omega
set_option maxRecDepth 100000 in
set_option maxHeartbeats 64000000 in
theorem refStep_go (m : Nat) (q : Option Addr) (n cap : Nat) (L : List Cl) (v : ByteArray) (sfx : Bool) (w : World) (hv : v.size ≤ 1000) (hl : L.length = n) (hn : n ≤ 1000000) (ha : ∀ c ∈ L, c.2 < 4294967296) (h : LsAt w q L) (hm : mayR knownR m L = true) (h0 : wdL v.data.toList ≠ []) : Calls Tryz.prog 26 #[lsV m q n cap, .string v, .bool sfx] w fun e w' => StepL q n cap L w w' e (stepC knownR grpX sfx v (m, L)) := by
  have HIN := Lib.hid (show (Tryz.prog.info? 25).map (·.size) = some 2 by kernel_rfl)
  unfold StepL lsV
  obtain ⟨W, hW⟩ : ∃ W, W = (w.alloc (.cells #[.int .u8 (m : Nat), .slice q n cap] 25)).alloc (.cells #[.int .u8 0, .slice none 0 0] 25) := ⟨_, rfl⟩
  have BB := Lib.hid (show Below w.heap.size w W from hW ▸ ((Below.refl _ _).alloc (Nat.le_refl _) _).alloc (by rw [World.size_alloc]; omega) _)
  have WSH := Lib.hid (show W.heap.size = w.heap.size + 2 by rw [hW, World.size_alloc, World.size_alloc])
  have P0 := Lib.hid (show W.heap[w.heap.size]? = some (.cells #[.int .u8 (m : Nat), .slice q n cap] 25 (0, 0)) by rw [hW, heap_old16])
  have P1 := Lib.hid (show W.heap[w.heap.size + 1]? = some (.cells #[.int .u8 0, .slice none 0 0] 25 (0, 0)) by rw [hW, heap_new16])
  have HY := Lib.hid (fun (V : World) (b : Below W.heap.size W V) => refMay m q n cap L V hl hn ha (h.on (thn16 BB.out b)))
  have HR := Lib.hid h
  have HL := Lib.hid hl
  have HWW := Lib.hid hW
  clear hW
  obtain ⟨j0, hj0, hy0, hy1, hy2⟩ := info_parts nte_info
  have JI := Lib.hid hj0
  have JZ0 := Lib.hid hy0
  have JZ1 := Lib.hid hy1
  have JZ2 := Lib.hid hy2
  clear hj0 hy0 hy1 hy2
  rw [hm] at HY
  have hok := may_iff.1 hm
  have HWO := Lib.hid (fun (V : World) => refWords v (by omega) V)
  have HTU := Lib.hid (fun (V : World) => refTurned v (by unfold maxLen; omega) V)
  have hn2 : (wdL v.data.toList).length ≠ 0 := fun e => h0 (List.length_eq_zero_iff.1 e)
  have hsC : stepC knownR grpX sfx v (m, L) = ((modeF m (turnR v).2, doAll L (opsF knownR grpX sfx (turnR v).2 (modeF m (turnR v).2) (wdL (turnR v).1.data.toList))), ntsF knownR grpX sfx (turnR v).2 (wdL (turnR v).1.data.toList)) := by unfold stepC; rw [if_neg h0]
  have hrs : (turnR v).1.size ≤ 1000 := by
    unfold turnR
    split
    · show (bs (v.data.toList.drop 1)).size ≤ 1000
      rw [bs_size, List.length_drop]
      have : v.data.toList.length = v.size := by simp
      omega
    · exact hv
  rw [hsC]
  simp only
  obtain ⟨T, hT⟩ : ∃ T, T = (turnR v).2 := ⟨_, rfl⟩
  obtain ⟨RV, hRV⟩ : ∃ T, T = (turnR v).1 := ⟨_, rfl⟩
  rw [← hRV] at hrs
  rw [← hT, ← hRV] at HTU ⊢
  have HWR := Lib.hid (fun (V : World) => refWords RV (by omega) V)
  have hWle := refWords_le hrs
  obtain ⟨WL, hWL⟩ : ∃ WL, WL = wdL RV.data.toList := ⟨_, rfl⟩
  have hwl : ∀ x ∈ WL, x.length ≤ 1000 := fun x hx => by
    rw [hWL] at hx
    have h1 := wdL_sum RV.data.toList
    have h2 : x.length ≤ ((wdL RV.data.toList).map List.length).sum := le_sum16 (List.mem_map.2 ⟨x, hx, rfl⟩)
    have h3 : RV.data.toList.length = RV.size := by simp
    omega
  rw [← hWL] at HWR hWle ⊢
  have HWLL := Lib.hid hwl
  obtain ⟨nW, hnW⟩ : ∃ x, x = WL.length := ⟨_, rfl⟩
  have HNW := Lib.hid hnW
  rw [← hnW] at HWR hWle
  have hmF := (mode_le hok.mode T)
  have HOK := Lib.hid (okl_mode hok T)
  obtain ⟨mF, hmFe⟩ : ∃ x, x = modeF m T := ⟨_, rfl⟩
  have HMF := Lib.hid hmFe
  rw [← hmFe] at hmF HOK ⊢
  have hmm : mF = 1 ∨ mF = 2 := by omega
  obtain ⟨n2, hn2e⟩ : ∃ x, x = (wdL v.data.toList).length := ⟨_, rfl⟩
  rw [← hn2e] at HWO hn2
  have n20 : ¬ (n2 : Int) = 0 := by omega
  have n2b : ((n2 : Int) == 0) = false := beq_eq_false_iff_ne.2 n20
  obtain ⟨mi, hmi⟩ : ∃ x : Int, x = (m : Nat) := ⟨_, rfl⟩
  have HMI := Lib.hid hmi
  rw [← hmi] at HWW P0 ⊢
  unfold lsV at HY
  rw [← hmi] at HY
  have HW0 := Lib.hid hwl
  have HMM := Lib.hid hmm
  obtain ⟨FL, hFL⟩ : ∃ FL, FL = doAll L (opsF knownR grpX sfx T mF WL) := ⟨_, rfl⟩
  obtain ⟨FN, hFN⟩ : ∃ FN, FN = ntsF knownR grpX sfx T WL := ⟨_, rfl⟩
  have HFL := Lib.hid hFL
  have HFN := Lib.hid hFN
  rw [← hFL, ← hFN]
  clear h hl hn ha hm hmi hv h0 hok hsC hrs hT hRV hWL hwl hnW hmFe hn2e hmm hmF hn2 hFL hFN
  go_enter Tryz.func26, Tryz.ntmps26
  go_upto_if 34 with (first
    | (go_at_call 41; ((with_reducible refine (HY.out _ (by rw [← HWW.out]; exact Below.refl _ _)).mono ?_); rintro e v1 ⟨rfl, b1⟩); rw [← HWW.out] at b1; have B1 := Lib.hid b1; have z0 := (cell_of_row v1 w.heap.size 0 _ _ (0, 0) ((b1.block _ (by have := WSH.out; omega)).trans P0.out)).trans (show _ = some (Value.int .u8 mi) from rfl); have z1 := (cell_of_row v1 w.heap.size 1 _ _ (0, 0) ((b1.block _ (by have := WSH.out; omega)).trans P0.out)).trans (show _ = some (Value.slice q n cap) from rfl); skip; clear b1)
    | (go_at_call 42
       (with_reducible refine (HWO.out _).mono ?_)
       rintro e v2 ⟨q2, c2, rfl, o2, b2⟩
       have B2 := Lib.hid (thn16 B1.out b2)
       have X0 := Lib.hid ((B2.out.block w.heap.size (by have := WSH.out; omega)).trans P0.out)
       have z0 := (cell_of_row v2 w.heap.size 0 _ _ (0, 0) X0.out).trans (show _ = some (Value.int .u8 mi) from rfl)
       clear o2 b2)
    | (go_at_call 43; ((with_reducible refine (HTU.out _).mono ?_); rintro e v2' ⟨rfl, rfl⟩)))
  go_cut [] (fun wx => Hid (wx.heap[w.heap.size]? = some (.cells #[.int .u8 (mF : Nat), .slice q n cap] 25 (0, 0))) ∧ Hid (wx.heap[w.heap.size + 1]? = some (.cells #[.int .u8 0, .slice none 0 0] 25 (0, 0))) ∧ Hid (Below w.heap.size w wx))
  case first =>
    have f0 := frozen_of_row v2 w.heap.size 0 _ _ X0.out
    have R0 := Lib.hid ((B2.out.block (w.heap.size + 1) (by have := WSH.out; omega)).trans P1.out)
    have BV := Lib.hid (thn16 BB.out B2.out)
    by_cases hm0 : mi = 0
    · have e0 : (mi == 0) = true := by rw [hm0]; rfl
      have hm0' : m = 0 := by have := HMI.out; omega
      subst hm0
      cases T with
      | false =>
        have hf : ((mF : Nat) : Int) = 1 := by rw [HMF.out, hm0']; rfl
        go_wp2_with fail
        go_meet
        case rel => exact ⟨Lib.hid (by rw [hf]; exact box_set16 X0.out), Lib.hid ((heap_setCell_other _ _ _ _ (by show w.heap.size + 1 ≠ w.heap.size; omega)).trans R0.out), Lib.hid (BV.out.setCell (p := ⟨w.heap.size, 0, none⟩) (Nat.le_refl _) _)⟩
      | true =>
        have hf : ((mF : Nat) : Int) = 2 := by rw [HMF.out, hm0']; rfl
        go_wp2_with fail
        go_meet
        case rel => exact ⟨Lib.hid (by rw [hf]; exact box_set16 (box_set16 X0.out)), Lib.hid ((heap_setCell_other _ _ _ _ (by show w.heap.size + 1 ≠ w.heap.size; omega)).trans ((heap_setCell_other _ _ _ _ (by show w.heap.size + 1 ≠ w.heap.size; omega)).trans R0.out)), Lib.hid ((BV.out.setCell (p := ⟨w.heap.size, 0, none⟩) (Nat.le_refl _) _).setCell (p := ⟨w.heap.size, 0, none⟩) (Nat.le_refl _) _)⟩
    · have e0 : (mi == 0) = false := beq_eq_false_iff_ne.2 hm0
      have hf : mF = m := by
        rw [HMF.out]
        unfold modeF
        rw [if_neg (by have := HMI.out; omega)]
      have hfi : ((mF : Nat) : Int) = mi := by rw [hf, HMI.out]
      go_wp2_with fail
      go_meet
      case rel => exact ⟨by rw [hfi]; exact X0, R0, BV⟩
  case rest =>
    obtain ⟨X1, R1, BV⟩ := hcut
    obtain ⟨V, rfl⟩ : ∃ wo : World, wo = wc := ⟨_, rfl⟩
    obtain ⟨mf, hmf⟩ : ∃ x : Int, x = (mF : Nat) := ⟨_, rfl⟩
    have HMFI := Lib.hid hmf
    clear z0 X0 n20 n2b hmf
    have i0 : TypeInfo := default
    go_wp2_with (go_at_call 42
                 (with_reducible refine (HWR.out _).mono ?_)
                 rintro e v3 ⟨q3, c3, rfl, o3, b3⟩
                 have S0 := Lib.hid (show SW (InL q n cap L) w mF (.slice q3 nW c3) nW WL L q n cap [] (.slice none 0 0) v3 from
                   ⟨thn16 BV.out b3, (b3.block _ (Array.getElem?_eq_some_iff.1 X1.out).1).trans X1.out, (b3.block _ (Array.getElem?_eq_some_iff.1 R1.out).1).trans R1.out, HL.out.symm, Or.inl ⟨⟨rfl, rfl, rfl, rfl⟩, HR.out⟩, World.ownsRow_nil _ _ _ _, owns_low16 o3 BV.out.size⟩)
                 clear o3 b3)
    clear X1 R1 BV HWR
    have hnWi : (nW : Int) ≤ 1000 := by omega
    go_loopw [10, 12] (fun v10 v12 wr => ∃ (i : Nat) (L' : List Cl) (q' : Option Addr) (n' c' : Nat), i ≤ nW ∧ v12 = .int .i64 i ∧ Hid (L' = doAll L (opsF knownR grpX sfx T mF (WL.take i))) ∧ Hid (Okl knownR mF L') ∧ Hid (SW (InL q n cap L) w mF (.slice q3 nW c3) nW WL L' q' n' c' ((ntsF knownR grpX sfx T (WL.take i)).map nteS) v10 wr)) (fun _ v12 _ => nW - (intOf v12).toNat)
    case atStart => exact ⟨0, L, q, n, cap, by omega, rfl, Lib.hid rfl, HOK, S0⟩
    case round =>
      clear S0
      obtain ⟨i, L', q', n', c', hi, rfl, HLE, HOK', SWH⟩ := hrel
      obtain ⟨V, rfl⟩ : ∃ wo : World, wo = wr := ⟨_, rfl⟩
      by_cases hlt : i < nW
      · have hx : WL[i]? = some (WL[i]'(by rw [← HNW.out]; exact hlt)) := List.getElem?_eq_getElem _
        obtain ⟨x, hxe⟩ : ∃ e, e = WL[i]'(by rw [← HNW.out]; exact hlt) := ⟨_, rfl⟩
        rw [← hxe] at hx
        have hxl := HWLL.out x (List.mem_of_getElem? hx)
        obtain ⟨g3, cp3, hv3, hB3, hl3⟩ := SWH.out.wds.form (by omega)
        injection hv3 with hv31 hv32 hv33
        subst hv31 hv33
        have cw := (SWH.out.wds.cellAt i (by omega)).trans (sL_get hx)
        obtain ⟨bx, hbx⟩ : ∃ b, b = bs x := ⟨_, rfl⟩
        obtain ⟨tx, htx⟩ : ∃ b, b = bs (x.take 60) := ⟨_, rfl⟩
        have hbs : bx.size = x.length := by rw [hbx, bs_size]
        have HTX1 := Lib.hid (show bx.extract 0 60 = tx by rw [hbx, htx, bs_cut60])
        have HTX2 := Lib.hid (show bx.size ≤ 60 → bx = tx from fun h => by rw [hbx, htx, List.take_of_length_le (by omega)])
        have HRD := Lib.hid (fun (V : World) => refRead bx (by omega) V)
        have hrd : rdE bx = rdL x := by unfold rdE; rw [hbx, bs_list]
        rw [hrd] at HRD
        rw [← hbx] at cw
        have HOP := Lib.hid (ops_next sfx T mF hx)
        have HNT := Lib.hid (nts_next sfx T hx)
        obtain ⟨N0, hN0⟩ : ∃ N, N = (ntsF knownR grpX sfx T (WL.take i)).map nteS := ⟨_, rfl⟩
        rw [← hN0] at SWH
        have HNL := Lib.hid (show N0.length ≤ 1000 by rw [hN0, List.length_map]; exact Nat.le_trans (nts_le sfx T _) (by rw [List.length_take]; omega))
        have HRN := Lib.hid (@read_name x)
        have HEW := Lib.hid (show errW x = if (rdL x).2 ≠ 0 then (rdL x).2 else (namesF knownR grpX (rdL x).1.nm).1 from rfl)
        have HWE := Lib.hid (fun (h : errW x ≠ 0) => word_err (sfx := sfx) (T := T) h)
        have HWG := Lib.hid (fun (h : errW x = 0) => word_go (sfx := sfx) (T := T) h)
        have HCW := Lib.hid (show cndW sfx T x = ((rdL x).1.has && (!sfx || !T)) from rfl)
        have HAR := Lib.hid (act_read x)
        obtain ⟨er, her⟩ : ∃ e, e = errW x := ⟨_, rfl⟩
        obtain ⟨cn, hcn⟩ : ∃ e, e = cndW sfx T x := ⟨_, rfl⟩
        obtain ⟨wf, hwf⟩ : ∃ e, e = wordF knownR grpX sfx T x := ⟨_, rfl⟩
        rw [← hwf] at HOP HNT
        have HNT := Lib.hid (show (ntsF knownR grpX sfx T (WL.take (i + 1))).map nteS = N0 ++ wf.1.map nteS by rw [HNT.out, List.map_append, hN0])
        rw [← her] at HEW
        rw [← her, ← hwf] at HWE
        rw [← her, ← hwf, ← hcn] at HWG
        rw [← hcn] at HCW
        rw [← htx] at HWE HWG
        obtain ⟨⟨⟨nm, act, has⟩, f⟩, hE⟩ : ∃ e, e = rdL x := ⟨_, rfl⟩
        rw [← hE] at HRD HRN HEW HWG HCW HAR
        simp only at HRD HRN HEW HWG HCW HAR
        unfold entV at HRD
        simp only at HRD
        obtain ⟨acti, hacti⟩ : ∃ a : Int, a = (act : Nat) := ⟨_, rfl⟩
        have HACT := Lib.hid hacti
        rw [← hacti] at HRD
        have k1 : (i : Int) < nW := by omega
        have k0 : (0 : Int) ≤ i := by omega
        clear hx hxe hbx htx hrd her hcn hwf hE hacti hN0
        go_upto_if 52 with fail
        go_cut [13] (fun v13 wx => v13 = .string tx ∧ wx = V)
        case first =>
          by_cases hg : (60 : Int) < bx.size
          · have hg60 : (60 : Int) ≤ bx.size := by omega
            go_wp2_with fail
            go_meet
            case rel => exact ⟨by rw [← HTX1.out], rfl⟩
          · go_wp2_with fail
            go_meet
            case rel => exact ⟨by rw [HTX2.out (by omega)], rfl⟩
        case rest =>
          obtain ⟨rfl, hVV⟩ := hcut
          obtain rfl : V = wc := hVV.symm
          go_upto_region 20 with (go_at_call 44
                                  (with_reducible refine (HRD.out _).mono ?_)
                                  rintro e v4 ⟨rfl, b4⟩
                                  have S4 := Lib.hid (SWH.out.on (b4.alloc b4.size (.cells #[.string nm, .int .u32 acti, .bool has] 83)))
                                  have HBE0 := Lib.hid (Nat.le_trans SWH.out.bel.size b4.size)
                                  have E4 := Lib.hid (heap_alloc_new v4 (.cells #[.string nm, .int .u32 acti, .bool has] 83))
                                  clear b4)
          obtain ⟨bE, hbE⟩ : ∃ b, b = v4.heap.size := ⟨_, rfl⟩
          have HBE := Lib.hid (show w.heap.size ≤ bE from hbE ▸ HBE0.out)
          rw [← hbE] at E4 ⊢
          clear hbE HBE0
          generalize v4.alloc (.cells #[.string nm, .int .u32 acti, .bool has] 83) = V4 at S4 E4 ⊢
          clear cw SWH HRD
          have HNF := Lib.hid (names_le nm)
          have HNK := Lib.hid (names_known nm)
          have HNG := Lib.hid (fun h => names_group (nm := nm) h)
          have HNC := Lib.hid (fun h => names_call (nm := nm) h)
          have HNN := Lib.hid (fun h => names_none (nm := nm) h)
          obtain ⟨NF, hNF⟩ : ∃ e, e = namesF knownR grpX nm := ⟨_, rfl⟩
          rw [← hNF] at HEW HWG HNF HNK HNG HNC HNN
          clear hNF
          obtain ⟨gb, hgb⟩ : ∃ b, b = decide (f = 0 ∧ nm.data.toList.head? = some 64) := ⟨_, rfl⟩
          have HGB := Lib.hid hgb
          have e0 := (cell_of_row V4 bE 0 _ _ (0, 0) E4.out).trans (show _ = some (Value.string nm) from rfl)
          clear hgb
          go_cut [70] (fun v70 wx => v70 = .bool gb ∧ wx = V4)
          case first =>
            by_cases hf : f = 0
            · have hnm := HRN.out hf
              have hsz : 0 < nm.size := by
                rcases Nat.eq_zero_or_pos nm.size with h | h
                · exact absurd (List.length_eq_zero_iff.1 (by simpa using h)) hnm
                · exact h
              have hsz1 : (0 : Int) < nm.size := by omega
              obtain ⟨c0, hc0⟩ : ∃ c, c = nm[0]'hsz := ⟨_, rfl⟩
              have hhd : nm.data.toList.head? = some c0 := by rw [hc0, List.head?_eq_getElem?, List.getElem?_eq_getElem (by simpa using hsz)]; rfl
              obtain ⟨y, hy⟩ : ∃ y, y = (c0.toNat : Int) := ⟨_, rfl⟩
              have hidx : ((nm[0]'hsz).toNat : Int) = y := by rw [hy, hc0]
              have hyy : (y == 64) = decide (nm.data.toList.head? = some 64) := by
                rw [hhd]
                by_cases h : c0 = 64
                · rw [hy, h]; rfl
                · rw [decide_eq_false (fun e => h (Option.some.inj e)), beq_eq_false_iff_ne]
                  intro e
                  exact h (UInt8.toNat_inj.1 (by have : (c0.toNat : Int) = ((64 : UInt8).toNat : Int) := by rw [← hy, e]; rfl
                                                 omega))
              have HG2 := Lib.hid (show gb = (y == 64) by rw [hyy, HGB.out]; simp [hf])
              have ef : (f == 0) = true := by rw [hf]; rfl
              obtain ⟨yb, hyb⟩ : ∃ b, b = (y == 64) := ⟨_, rfl⟩
              have hyb' : (y == 64) = yb := hyb.symm
              subst hf
              rw [← hyb] at HG2
              clear hc0 hy hhd hnm hyy hyb
              go_wp2_with fail
              go_meet
              case rel => exact ⟨by rw [HG2.out], rfl⟩
            · have ef : (f == 0) = false := beq_eq_false_iff_ne.2 hf
              have HG2 := Lib.hid (show gb = false by rw [HGB.out]; simp [hf])
              clear hf
              go_wp2_with fail
              go_meet
              case rel => exact ⟨by rw [HG2.out], rfl⟩
          case rest =>
            obtain ⟨rfl, hVV⟩ := hcut
            obtain rfl : V4 = wc := hVV.symm
            go_upto_if 70 with fail
            go_cut [15, 16] (fun v15 v16 wx => v15 = .int .i64 er ∧ Hid (er = 0 → wx.ownsRow w.heap.size 9 1 v16 NF.2.length (sG NF.2)) ∧ Hid (SW (InL q n cap L) w mF (.slice (some ⟨g3, 0, none⟩) nW c3) nW WL L' q' n' c' N0 u10 wx) ∧ Hid (wx.heap[bE]? = some (.cells #[.string nm, .int .u32 acti, .bool has] 83 (0, 0))))
            case first =>
              cases gb with
              | true =>
                obtain ⟨hf, hhd⟩ := of_decide_eq_true HGB.out.symm
                have HE0 := Lib.hid (show er = NF.1 by rw [HEW.out, if_neg (by rw [hf]; simp)])
                have hg := HNG.out hhd
                have HEX := Lib.hid (fun (V : World) => refExpand_own nm V)
                have HN1 := Lib.hid (show NF.1 = expE nm by rw [hg])
                have HN2 := Lib.hid (show NF.2 = expL nm by rw [hg])
                rw [← HN1.out, ← HN2.out, ← HE0.out] at HEX
                clear hf hhd hg
                go_wp2_with (go_at_call 45
                             (with_reducible refine (HEX.out _).mono ?_)
                             rintro e v5 ⟨vx, rfl, o5, b5⟩
                             have O5 := Lib.hid o5
                             have B5 := Lib.hid b5
                             clear o5 b5)
                go_meet
                case rel => exact ⟨rfl, Lib.hid (fun _ => owns_low16 O5.out S4.out.bel.size), Lib.hid (S4.out.on B5.out), Lib.hid ((B5.out.block _ (Array.getElem?_eq_some_iff.1 E4.out).1).trans E4.out)⟩
              | false =>
                have hgn : ¬ (f = 0 ∧ nm.data.toList.head? = some 64) := of_decide_eq_false HGB.out.symm
                by_cases hf : f = 0
                · have hc' : ¬ nm.data.toList.head? = some 64 := fun e => hgn ⟨hf, e⟩
                  have HE0 := Lib.hid (show er = NF.1 by rw [HEW.out, if_neg (by rw [hf]; simp)])
                  have HKN := Lib.hid (fun (V : World) => refKnown9 nm V)
                  have ef : (f == 0) = true := by rw [hf]; rfl
                  subst hf
                  cases hk : knownR nm with
                  | true =>
                    rw [hk] at HKN
                    have hg := HNC.out hc' hk
                    have HE1 := Lib.hid (show er = 0 by rw [HE0.out, hg])
                    have HN2 := Lib.hid (show NF.2 = [nm] by rw [hg])
                    clear hc' hg hk hgn
                    go_wp2_with (go_at_call 46
                                 (with_reducible refine (HKN.out _).mono ?_)
                                 rintro e v5 ⟨rfl, b5⟩
                                 have e0' := (b5.cell (World.block_lt_of_cell? _ _ e0)).trans e0
                                 have B5 := Lib.hid b5
                                 clear b5)
                    go_meet
                    case rel => exact ⟨by rw [HE1.out], Lib.hid (fun _ => by rw [HN2.out]; exact owns_low16 (own_lit16 _ _) (by have := S4.out.bel.size; have := B5.out.size; omega)), Lib.hid ((S4.out.on B5.out).on (below16 _ _)), Lib.hid ((Below.heap_alloc _ _ _ (by have := (Array.getElem?_eq_some_iff.1 E4.out).1; have := B5.out.size; omega)).trans ((B5.out.block _ (Array.getElem?_eq_some_iff.1 E4.out).1).trans E4.out))⟩
                  | false =>
                    rw [hk] at HKN
                    have hg := HNN.out hc' hk
                    have HE1 := Lib.hid (show er = 90 by rw [HE0.out, hg])
                    clear hc' hg hk hgn
                    go_wp2_with (go_at_call 46
                                 (with_reducible refine (HKN.out _).mono ?_)
                                 rintro e v5 ⟨rfl, b5⟩
                                 have B5 := Lib.hid b5
                                 clear b5)
                    go_meet
                    case rel => exact ⟨by rw [HE1.out], Lib.hid (fun h => absurd h (by rw [HE1.out]; decide)), Lib.hid (S4.out.on B5.out), Lib.hid ((B5.out.block _ (Array.getElem?_eq_some_iff.1 E4.out).1).trans E4.out)⟩
                · have ef : (f == 0) = false := beq_eq_false_iff_ne.2 hf
                  have HE1 := Lib.hid (show er = f by rw [HEW.out, if_pos hf])
                  have HE2 := Lib.hid hf
                  clear hf hgn
                  go_wp2_with fail
                  go_meet
                  case rel => exact ⟨by rw [HE1.out], Lib.hid (fun h => absurd (HE1.out.symm.trans h) HE2.out), S4, E4⟩
            case rest =>
              obtain ⟨rfl, HNM, S5, E5⟩ := hcut
              obtain ⟨V5, rfl⟩ : ∃ wo : World, wo = wc := ⟨_, rfl⟩
              clear S4 E4 e0 HNG HNC HNN HRN HGB
              by_cases her0 : er = 0
              · have eb : (er != 0) = false := by rw [her0]; rfl
                have ebb : ¬ er ≠ 0 := fun h => h her0
                have HWF := Lib.hid (HWG.out her0)
                have hn1 : NF.1 = 0 := by
                  have h1 := HEW.out
                  by_cases hf : f ≠ 0
                  · rw [if_pos hf] at h1; omega
                  · rw [if_neg hf] at h1; omega
                have HNK2 := Lib.hid (HNK.out hn1)
                have HNM2 := Lib.hid (HNM.out her0)
                subst her0
                clear HWE HWG HNM HNK HEW hn1
                have e2 := (cell_of_row V5 bE 2 _ _ (0, 0) E5.out).trans (show _ = some (Value.bool has) from rfl)
                go_upto_region 28 with fail
                go_cut [106] (fun v106 wx => v106 = .bool cn ∧ wx = V5)
                case first =>
                  cases has <;> cases sfx <;> cases T
                  all_goals
                    go_wp2_with fail
                    go_meet
                    case rel => exact ⟨by rw [HCW.out]; rfl, rfl⟩
                case rest =>
                  obtain ⟨rfl, hVV⟩ := hcut
                  obtain rfl : V5 = wc := hVV.symm
                  go_upto_if 106 with fail
                  obtain ⟨hb2, hhb⟩ : ∃ b, b = (if cn = true then false else has) := ⟨_, rfl⟩
                  obtain ⟨act2, hact2⟩ : ∃ b, b = (if cn = true then 0 else act) := ⟨_, rfl⟩
                  rw [← hhb, ← hact2] at HWF
                  have HAR2 := Lib.hid (show actOk act2 = true by rw [hact2]; split; rfl; exact HAR.out)
                  have HH2 := Lib.hid hhb
                  have HA2 := Lib.hid (show ((act2 : Nat) : Int) = if cn = true then 0 else acti by rw [hact2]; split; rfl; exact HACT.out.symm)
                  obtain ⟨ai2, hai2⟩ : ∃ b : Int, b = (act2 : Nat) := ⟨_, rfl⟩
                  have HAI2 := Lib.hid hai2
                  rw [← hai2] at HA2
                  clear hhb hact2 hai2 HAR HACT HCW
                  go_cut [10] (fun v10' wx => Hid (SW (InL q n cap L) w mF (.slice (some ⟨g3, 0, none⟩) nW c3) nW WL L' q' n' c' (N0 ++ wf.1.map nteS) v10' wx) ∧ Hid (wx.heap[bE]? = some (.cells #[.string nm, .int .u32 ai2, .bool hb2] 83 (0, 0))) ∧ Hid (wx.ownsRow w.heap.size 9 1 u16 NF.2.length (sG NF.2)))
                  case first =>
                    cases cn with
                    | true =>
                      have HW1 := Lib.hid (show wf.1 = [(161, tx)] by rw [HWF.out]; rfl)
                      have HB2 := Lib.hid (show hb2 = false from HH2.out)
                      have HI2 := Lib.hid (show ai2 = 0 from HA2.out)
                      go_wp2_with (at_builtin
                                   refine wpList_append_own _ rfl (.tmp 107) (.tmp 110) 35 rfl w.heap.size 51 j0 _ 4 48 Tryz.underlying35 JI.out JZ0.out JZ1.out JZ2.out rfl (by omega) _ N0.length (rowC encN N0) rfl (S5.out.nts.alloc _) ⟨V5.heap.size, 0, none⟩ 1 1 [.string ⟨#[]⟩, .int .i64 0, .int .i64 161, .string tx] rfl rfl (news_row V5 _ _) (fun u hu => by simp only [List.mem_cons, List.mem_nil_iff, or_false] at hu; rcases hu with rfl | rfl | rfl | rfl <;> rfl) (by have := HNL.out; unfold maxLen; omega) (by have := HNL.out; omega) (by have := S5.out.bel.size; rw [World.size_alloc]; omega) ?_
                                   intro v7 w7 o7 hg7 _
                                   have S7 := Lib.hid ((S5.out.on (below16 V5 (.cells #[.string ⟨#[]⟩, .int .i64 0, .int .i64 161, .string tx] 51))).note (N' := N0 ++ [nteS (161, tx)]) hg7 (by rw [List.length_append, List.length_singleton, rowC_app, rowC_one1]; exact o7))
                                   have E7 := Lib.hid ((S5.out.on (below16 V5 (.cells #[.string ⟨#[]⟩, .int .i64 0, .int .i64 161, .string tx] 51))).keep hg7 ((Below.heap_alloc _ _ _ (Array.getElem?_eq_some_iff.1 E5.out).1).trans E5.out) (by decide))
                                   have M7 := Lib.hid ((S5.out.on (below16 V5 (.cells #[.string ⟨#[]⟩, .int .i64 0, .int .i64 161, .string tx] 51))).own_note hg7 (owns_on16 HNM2.out (below16 V5 _)))
                                   have c71 := (cell_of_row w7 bE 1 _ _ (0, 0) E7.out).trans (show _ = some (Value.int .u32 acti) from rfl)
                                   have c72 := (cell_of_row w7 bE 2 _ _ (0, 0) E7.out).trans (show _ = some (Value.bool has) from rfl)
                                   have f71 := frozen_of_row w7 bE 1 _ _ E7.out
                                   have f72 := frozen_of_row w7 bE 2 _ _ E7.out
                                   clear o7 hg7)
                      go_meet
                      case rel => exact ⟨by rw [HW1.out]; exact Lib.hid ((S7.out.ent E7.out HBE.out _).ent (ent_set2 E7.out) HBE.out _), by rw [HI2.out, HB2.out]; exact Lib.hid (ent_set1 (ent_set2 E7.out)), Lib.hid (own_ent (ent_set2 E7.out) _ (own_ent E7.out _ M7.out))⟩
                    | false =>
                      have HW1 := Lib.hid (show wf.1 = [] by rw [HWF.out]; rfl)
                      have HB2 := Lib.hid (show hb2 = has from HH2.out)
                      have HI2 := Lib.hid (show ai2 = acti from HA2.out)
                      go_wp2_with fail
                      go_meet
                      case rel => exact ⟨by rw [HW1.out, List.map_nil, List.append_nil]; exact S5, by rw [HI2.out, HB2.out]; exact E5, HNM2⟩
                  case rest =>
                    obtain ⟨S6, E6, M6⟩ := hcut
                    obtain ⟨V6, rfl⟩ : ∃ wo : World, wo = wc := ⟨_, rfl⟩
                    clear S5 E5 HNM2 e2
                    have HW2 := Lib.hid (show wf.2 = NF.2.map fun n => (n, hb2, act2) by rw [HWF.out])
                    go_wp2_with fail
                    obtain ⟨nn, hnn⟩ : ∃ k, k = NF.2.length := ⟨_, rfl⟩
                    have HNN := Lib.hid hnn
                    have hn100 : nn ≤ 100 := by rw [hnn]; exact HNF.out
                    rw [← hnn] at M6
                    obtain ⟨qn, cpn, hqn⟩ := own_form16 M6.out
                    subst hqn
                    obtain ⟨mf2, hmf2⟩ : ∃ x : Int, x = (mF : Nat) := ⟨_, rfl⟩
                    have hmfe : mf = mf2 := by rw [hmf2]; exact HMFI.out
                    obtain rfl : mf = mf2 := hmfe
                    clear hmf2 hnn
                    have L0 := Lib.hid (show L' = doAll L' ((NF.2.take 0).map fun t => opF mF T (t, hb2, act2)) from rfl)
                    go_loopw [17] (fun v17 wr => ∃ (k : Nat) (L2 : List Cl) (q5 : Option Addr) (n5 c5 : Nat), k ≤ nn ∧ v17 = .int .i64 k ∧ Hid (L2 = doAll L' ((NF.2.take k).map fun t => opF mF T (t, hb2, act2))) ∧ Hid (Okl knownR mF L2) ∧ Hid (SW (InL q n cap L) w mF (.slice (some ⟨g3, 0, none⟩) nW c3) nW WL L2 q5 n5 c5 (N0 ++ wf.1.map nteS) u10 wr) ∧ Hid (wr.heap[bE]? = some (.cells #[.string nm, .int .u32 ai2, .bool hb2] 83 (0, 0))) ∧ Hid (wr.ownsRow w.heap.size 9 1 (.slice qn nn cpn) nn (sG NF.2))) (fun v17 _ => nn - (intOf v17).toNat)
                    case atStart => exact ⟨0, L', q', n', c', by omega, rfl, L0, HOK', S6, E6, M6⟩
                    case round =>
                      clear S6 E6 M6 L0
                      obtain ⟨k, L2, q5, n5, c5, hk, rfl, HL2, HOK2, S8, E8, M8⟩ := hrel
                      obtain ⟨V8, rfl⟩ : ∃ wo : World, wo = wr := ⟨_, rfl⟩
                      by_cases hkl : k < nn
                      · have ht : NF.2[k]? = some (NF.2[k]'(by rw [← HNN.out]; exact hkl)) := List.getElem?_eq_getElem _
                        obtain ⟨t, hte⟩ : ∃ e, e = NF.2[k]'(by rw [← HNN.out]; exact hkl) := ⟨_, rfl⟩
                        rw [← hte] at ht
                        have hkn := HNK2.out t (List.mem_of_getElem? ht)
                        obtain ⟨gn, cpx, hvn, hBn, hln⟩ := M8.out.form (by omega)
                        injection hvn with hvn1 hvn2 hvn3
                        subst hvn1 hvn3
                        have ct := (M8.out.cellAt k (by omega)).trans (sG_get ht)
                        have HLN := Lib.hid (show doAll L' ((NF.2.take (k + 1)).map fun t => opF mF T (t, hb2, act2)) = doE L2 (opF mF T (t, hb2, act2)) by
                          rw [List.take_add_one, ht, List.map_append, doAll_app, ← HL2.out]; rfl)
                        have e1 := (cell_of_row V8 bE 1 _ _ (0, 0) E8.out).trans (show _ = some (Value.int .u32 ai2) from rfl)
                        have e2 := (cell_of_row V8 bE 2 _ _ (0, 0) E8.out).trans (show _ = some (Value.bool hb2) from rfl)
                        have x0 : V8.cell? ⟨w.heap.size, 0, none⟩ = some (.int .u8 mf) := by rw [HMFI.out]; exact S8.out.x0
                        have x1 := S8.out.x1
                        have j1 : (k : Int) < nn := by omega
                        have j0' : (0 : Int) ≤ k := by omega
                        have hoL := okl_le HOK2.out
                        have HPU := Lib.hid (fun (X : World) (b : Below V8.heap.size V8 X) => refPut_yes mF q5 n5 c5 L2 t act2 X S8.out.len.symm (by have := S8.out.len; omega) (okl_act HOK2.out) (S8.out.ls.on b) (may_iff.2 HOK2.out))
                        have HTK := Lib.hid (fun (X : World) (b : Below V8.heap.size V8 X) => reftake mF q5 n5 c5 L2 t X S8.out.len.symm (by have := S8.out.len; omega) (S8.out.ls.on b))
                        unfold NewL2 lsV at HPU
                        unfold NewL lsV at HTK
                        rw [← HMFI.out, ← HAI2.out] at HPU
                        rw [← HMFI.out] at HTK
                        have HOD := Lib.hid (fun (o : Ef) (ho : ∀ a, o.2 = some a → knownR o.1 = true ∧ actOk a = true) => okl_do HOK2.out (show mF ≠ 0 by rcases HMM.out with h | h <;> omega) ho)
                        clear ht hte hoL
                        rcases HMM.out with hm | hm
                        · cases T with
                          | false =>
                            have HOPF := Lib.hid (show opF mF false (t, hb2, act2) = (t, some act2) by unfold opF; rw [hm]; simp)
                            rw [HOPF.out] at HLN
                            have HOK9 := Lib.hid (HOD.out (t, some act2) (fun a e => by injection e with e; subst e; exact ⟨hkn, HAR2.out⟩))
                            have HLN2 := Lib.hid HLN.out.symm
                            have hmi' : mf = 1 := by rw [HMFI.out, hm]; rfl
                            subst hmi'
                            clear hkn HOD hm
                            go_upto_region 36 with fail
                            go_still_tail 7, (by kernel_rfl)
                            change wpList _ _ _ _ _ V8.drew
                            go_wp2_with (first
                              | (go_at_call 47
                                 (with_reducible refine (HPU.out _ ((Below.refl _ _).drew)).mono ?_)
                                 rintro e v9 ⟨q9, n9, c9, rfl, l9, o9, b9⟩
                                 have b9 : Below V8.heap.size V8 v9 := (Below.refl V8.heap.size V8).drew.trans b9
                                 have S9 := Lib.hid ((S8.out.on b9).list l9 (owns_low16 o9 S8.out.bel.size))
                                 have E9 := Lib.hid (((heap_setCells16 v9 _ _ (by have := HBE.out; have := (S8.out.off E8.out (by decide)); exact this) _ _).trans ((b9.block _ (Array.getElem?_eq_some_iff.1 E8.out).1).trans E8.out) : (v9.setCells w.heap.size 0 [.int .u8 ((mF : Nat) : Int), .slice q9 n9 c9]).heap[bE]? = _))
                                 have M9 := Lib.hid ((S8.out.on b9).own_list (owns_on16 M8.out b9) [.int .u8 ((mF : Nat) : Int), .slice q9 n9 c9])
                                 have F9 := Lib.hid (S8.out.on b9).box
                                 rw [← HMFI.out] at S9 E9 M9 F9
                                 clear b9 o9 l9)
                              | ((with_reducible show wpList _ _ _ (⟨none, .store 25 (.tmp 3) (.tmp 146), _, _, _, _⟩ :: _) _ _)
                                 refine wpList_store_mid rfl 25 (.tmp 3) (.tmp 146) rfl w.heap.size 0 #[.int .u8 1, .slice q9 n9 c9] rfl rfl (there16 F9.out) HIN.out (one16 _ _ _ _) ?_
                                 show wpList _ _ _ _ _ (v9.setCells w.heap.size 0 [.int .u8 1, .slice q9 n9 c9])
                                 generalize v9.setCells w.heap.size 0 [.int .u8 1, .slice q9 n9 c9] = w9 at S9 E9 M9 ⊢))
                            go_roundw
                            case rel => exact ⟨k + 1, _, q9, n9, c9, by omega, by go_num, HLN2, HOK9, S9, E9, M9⟩
                            case measure => first | (simp [intOf]; done) | (simp [intOf]; omega)
                          | true =>
                            cases hb2 with
                            | true =>
                              have HOPF := Lib.hid (show opF mF true (t, true, act2) = (t, some act2) by unfold opF; rw [hm]; simp)
                              rw [HOPF.out] at HLN
                              have HOK9 := Lib.hid (HOD.out (t, some act2) (fun a e => by injection e with e; subst e; exact ⟨hkn, HAR2.out⟩))
                              have HLN2 := Lib.hid HLN.out.symm
                              have hmi' : mf = 1 := by rw [HMFI.out, hm]; rfl
                              subst hmi'
                              clear hkn HOD hm
                              go_upto_region 36 with fail
                              go_still_tail 7, (by kernel_rfl)
                              change wpList _ _ _ _ _ V8.drew
                              go_wp2_with (first
                                | (go_at_call 47
                                   (with_reducible refine (HPU.out _ ((Below.refl _ _).drew)).mono ?_)
                                   rintro e v9 ⟨q9, n9, c9, rfl, l9, o9, b9⟩
                                   have b9 : Below V8.heap.size V8 v9 := (Below.refl V8.heap.size V8).drew.trans b9
                                   have S9 := Lib.hid ((S8.out.on b9).list l9 (owns_low16 o9 S8.out.bel.size))
                                   have E9 := Lib.hid (((heap_setCells16 v9 _ _ (by have := HBE.out; have := (S8.out.off E8.out (by decide)); exact this) _ _).trans ((b9.block _ (Array.getElem?_eq_some_iff.1 E8.out).1).trans E8.out) : (v9.setCells w.heap.size 0 [.int .u8 ((mF : Nat) : Int), .slice q9 n9 c9]).heap[bE]? = _))
                                   have M9 := Lib.hid ((S8.out.on b9).own_list (owns_on16 M8.out b9) [.int .u8 ((mF : Nat) : Int), .slice q9 n9 c9])
                                   have F9 := Lib.hid (S8.out.on b9).box
                                   rw [← HMFI.out] at S9 E9 M9 F9
                                   clear b9 o9 l9)
                                | ((with_reducible show wpList _ _ _ (⟨none, .store 25 (.tmp 3) (.tmp 146), _, _, _, _⟩ :: _) _ _)
                                   refine wpList_store_mid rfl 25 (.tmp 3) (.tmp 146) rfl w.heap.size 0 #[.int .u8 1, .slice q9 n9 c9] rfl rfl (there16 F9.out) HIN.out (one16 _ _ _ _) ?_
                                   show wpList _ _ _ _ _ (v9.setCells w.heap.size 0 [.int .u8 1, .slice q9 n9 c9])
                                   generalize v9.setCells w.heap.size 0 [.int .u8 1, .slice q9 n9 c9] = w9 at S9 E9 M9 ⊢))
                              go_roundw
                              case rel => exact ⟨k + 1, _, q9, n9, c9, by omega, by go_num, HLN2, HOK9, S9, E9, M9⟩
                              case measure => first | (simp [intOf]; done) | (simp [intOf]; omega)
                            | false =>
                              have HOPF := Lib.hid (show opF mF true (t, false, act2) = (t, none) by unfold opF; rw [hm]; simp)
                              rw [HOPF.out] at HLN
                              have HOK9 := Lib.hid (HOD.out (t, none) (fun a e => by cases e))
                              have HLN2 := Lib.hid HLN.out.symm
                              have hmi' : mf = 1 := by rw [HMFI.out, hm]; rfl
                              subst hmi'
                              clear hkn HOD hm
                              go_upto_region 37 with fail
                              go_still_tail 5, (by kernel_rfl)
                              change wpList _ _ _ _ _ V8.drew
                              go_wp2_with (first
                                | (go_at_call 48
                                   (with_reducible refine (HTK.out _ ((Below.refl _ _).drew)).mono ?_)
                                   rintro e v9 ⟨q9, c9, rfl, o9, b9⟩
                                   have b9 : Below V8.heap.size V8 v9 := (Below.refl V8.heap.size V8).drew.trans b9
                                   have S9 := Lib.hid ((S8.out.on b9).list rfl (owns_low16 o9 S8.out.bel.size))
                                   have E9 := Lib.hid (((heap_setCells16 v9 _ _ (by have := HBE.out; have := (S8.out.off E8.out (by decide)); exact this) _ _).trans ((b9.block _ (Array.getElem?_eq_some_iff.1 E8.out).1).trans E8.out) : (v9.setCells w.heap.size 0 [.int .u8 ((mF : Nat) : Int), .slice q9 (takeC L2 t).length c9]).heap[bE]? = _))
                                   have M9 := Lib.hid ((S8.out.on b9).own_list (owns_on16 M8.out b9) [.int .u8 ((mF : Nat) : Int), .slice q9 (takeC L2 t).length c9])
                                   have F9 := Lib.hid (S8.out.on b9).box
                                   rw [← HMFI.out] at S9 E9 M9 F9
                                   clear b9 o9)
                                | ((with_reducible show wpList _ _ _ (⟨none, .store 25 (.tmp 3) (.tmp 152), _, _, _, _⟩ :: _) _ _)
                                   refine wpList_store_mid rfl 25 (.tmp 3) (.tmp 152) rfl w.heap.size 0 #[.int .u8 1, .slice q9 (takeC L2 t).length c9] rfl rfl (there16 F9.out) HIN.out (one16 _ _ _ _) ?_
                                   show wpList _ _ _ _ _ (v9.setCells w.heap.size 0 [.int .u8 1, .slice q9 (takeC L2 t).length c9])
                                   generalize v9.setCells w.heap.size 0 [.int .u8 1, .slice q9 (takeC L2 t).length c9] = w9 at S9 E9 M9 ⊢))
                              go_roundw
                              case rel => exact ⟨k + 1, _, q9, (takeC L2 t).length, c9, by omega, by go_num, HLN2, HOK9, S9, E9, M9⟩
                              case measure => first | (simp [intOf]; done) | (simp [intOf]; omega)
                        · cases T with
                          | false =>
                            have HOPF := Lib.hid (show opF mF false (t, hb2, act2) = (t, none) by unfold opF; rw [hm]; simp)
                            rw [HOPF.out] at HLN
                            have HOK9 := Lib.hid (HOD.out (t, none) (fun a e => by cases e))
                            have HLN2 := Lib.hid HLN.out.symm
                            have hmi' : mf = 2 := by rw [HMFI.out, hm]; rfl
                            subst hmi'
                            clear hkn HOD hm
                            go_upto_region 37 with fail
                            go_still_tail 5, (by kernel_rfl)
                            change wpList _ _ _ _ _ V8.drew
                            go_wp2_with (first
                              | (go_at_call 48
                                 (with_reducible refine (HTK.out _ ((Below.refl _ _).drew)).mono ?_)
                                 rintro e v9 ⟨q9, c9, rfl, o9, b9⟩
                                 have b9 : Below V8.heap.size V8 v9 := (Below.refl V8.heap.size V8).drew.trans b9
                                 have S9 := Lib.hid ((S8.out.on b9).list rfl (owns_low16 o9 S8.out.bel.size))
                                 have E9 := Lib.hid (((heap_setCells16 v9 _ _ (by have := HBE.out; have := (S8.out.off E8.out (by decide)); exact this) _ _).trans ((b9.block _ (Array.getElem?_eq_some_iff.1 E8.out).1).trans E8.out) : (v9.setCells w.heap.size 0 [.int .u8 ((mF : Nat) : Int), .slice q9 (takeC L2 t).length c9]).heap[bE]? = _))
                                 have M9 := Lib.hid ((S8.out.on b9).own_list (owns_on16 M8.out b9) [.int .u8 ((mF : Nat) : Int), .slice q9 (takeC L2 t).length c9])
                                 have F9 := Lib.hid (S8.out.on b9).box
                                 rw [← HMFI.out] at S9 E9 M9 F9
                                 clear b9 o9)
                              | ((with_reducible show wpList _ _ _ (⟨none, .store 25 (.tmp 3) (.tmp 152), _, _, _, _⟩ :: _) _ _)
                                 refine wpList_store_mid rfl 25 (.tmp 3) (.tmp 152) rfl w.heap.size 0 #[.int .u8 2, .slice q9 (takeC L2 t).length c9] rfl rfl (there16 F9.out) HIN.out (one16 _ _ _ _) ?_
                                 show wpList _ _ _ _ _ (v9.setCells w.heap.size 0 [.int .u8 2, .slice q9 (takeC L2 t).length c9])
                                 generalize v9.setCells w.heap.size 0 [.int .u8 2, .slice q9 (takeC L2 t).length c9] = w9 at S9 E9 M9 ⊢))
                            go_roundw
                            case rel => exact ⟨k + 1, _, q9, (takeC L2 t).length, c9, by omega, by go_num, HLN2, HOK9, S9, E9, M9⟩
                            case measure => first | (simp [intOf]; done) | (simp [intOf]; omega)
                          | true =>
                            have HOPF := Lib.hid (show opF mF true (t, hb2, act2) = (t, some act2) by unfold opF; rw [hm]; simp)
                            rw [HOPF.out] at HLN
                            have HOK9 := Lib.hid (HOD.out (t, some act2) (fun a e => by injection e with e; subst e; exact ⟨hkn, HAR2.out⟩))
                            have HLN2 := Lib.hid HLN.out.symm
                            have hmi' : mf = 2 := by rw [HMFI.out, hm]; rfl
                            subst hmi'
                            clear hkn HOD hm
                            go_upto_region 36 with fail
                            go_still_tail 7, (by kernel_rfl)
                            change wpList _ _ _ _ _ V8.drew
                            go_wp2_with (first
                              | (go_at_call 47
                                 (with_reducible refine (HPU.out _ ((Below.refl _ _).drew)).mono ?_)
                                 rintro e v9 ⟨q9, n9, c9, rfl, l9, o9, b9⟩
                                 have b9 : Below V8.heap.size V8 v9 := (Below.refl V8.heap.size V8).drew.trans b9
                                 have S9 := Lib.hid ((S8.out.on b9).list l9 (owns_low16 o9 S8.out.bel.size))
                                 have E9 := Lib.hid (((heap_setCells16 v9 _ _ (by have := HBE.out; have := (S8.out.off E8.out (by decide)); exact this) _ _).trans ((b9.block _ (Array.getElem?_eq_some_iff.1 E8.out).1).trans E8.out) : (v9.setCells w.heap.size 0 [.int .u8 ((mF : Nat) : Int), .slice q9 n9 c9]).heap[bE]? = _))
                                 have M9 := Lib.hid ((S8.out.on b9).own_list (owns_on16 M8.out b9) [.int .u8 ((mF : Nat) : Int), .slice q9 n9 c9])
                                 have F9 := Lib.hid (S8.out.on b9).box
                                 rw [← HMFI.out] at S9 E9 M9 F9
                                 clear b9 o9 l9)
                              | ((with_reducible show wpList _ _ _ (⟨none, .store 25 (.tmp 3) (.tmp 146), _, _, _, _⟩ :: _) _ _)
                                 refine wpList_store_mid rfl 25 (.tmp 3) (.tmp 146) rfl w.heap.size 0 #[.int .u8 2, .slice q9 n9 c9] rfl rfl (there16 F9.out) HIN.out (one16 _ _ _ _) ?_
                                 show wpList _ _ _ _ _ (v9.setCells w.heap.size 0 [.int .u8 2, .slice q9 n9 c9])
                                 generalize v9.setCells w.heap.size 0 [.int .u8 2, .slice q9 n9 c9] = w9 at S9 E9 M9 ⊢))
                            go_roundw
                            case rel => exact ⟨k + 1, _, q9, n9, c9, by omega, by go_num, HLN2, HOK9, S9, E9, M9⟩
                            case measure => first | (simp [intOf]; done) | (simp [intOf]; omega)
                      · obtain rfl : k = nn := by omega
                        have kk1 : ¬ (k : Int) < k := by omega
                        have HLE2 := Lib.hid (show L2 = doAll L (opsF knownR grpX sfx T mF (WL.take (i + 1))) by
                          rw [HOP.out, HW2.out, List.map_map, doAll_app, ← HLE.out, HL2.out, List.take_of_length_le (by rw [← HNN.out]; exact Nat.le_refl _)]; rfl)
                        go_wp2_with fail
                        go_roundw
                        case rel => exact ⟨i + 1, L2, q5, n5, c5, by omega, by go_num, HLE2, HOK2, by rw [HNT.out]; exact S8⟩
                        case measure => first | (simp [intOf]; done) | (simp [intOf]; omega)
              · have eb : (er != 0) = true := bne_iff_ne.2 her0
                have HWF := Lib.hid (HWE.out her0)
                clear HWE HWG HNM HNK HEW her0
                go_wp2_with (at_builtin
                             refine wpList_append_own _ rfl (.tmp 91) (.tmp 95) 35 rfl w.heap.size 51 j0 _ 4 48 Tryz.underlying35 JI.out JZ0.out JZ1.out JZ2.out rfl (by omega) _ N0.length (rowC encN N0) rfl (S5.out.nts.alloc _) ⟨V5.heap.size, 0, none⟩ 1 1 [.string ⟨#[]⟩, .int .i64 0, .int .i64 er, .string tx] rfl rfl (news_row V5 _ _) (fun u hu => by simp only [List.mem_cons, List.mem_nil_iff, or_false] at hu; rcases hu with rfl | rfl | rfl | rfl <;> rfl) (by have := HNL.out; unfold maxLen; omega) (by have := HNL.out; omega) (by have := S5.out.bel.size; rw [World.size_alloc]; omega) ?_
                             intro v7 w7 o7 hg7 _
                             have S7 := Lib.hid ((S5.out.on (below16 V5 (.cells #[.string ⟨#[]⟩, .int .i64 0, .int .i64 er, .string tx] 51))).note (N' := N0 ++ [nteS (er, tx)]) hg7 (by rw [List.length_append, List.length_singleton, rowC_app, rowC_one1]; exact o7))
                             skip
                             clear o7 hg7)
                go_roundw
                case rel => exact ⟨i + 1, L', q', n', c', by omega, by go_num, Lib.hid (by rw [HOP.out, HWF.out, List.map_nil, List.append_nil]; exact HLE.out), HOK', by rw [HNT.out, HWF.out]; exact S7⟩
                case measure => first | (simp [intOf]; done) | (simp [intOf]; omega)

      · obtain rfl : i = nW := by omega
        have k1 : ¬ (i : Int) < i := by omega
        have htk : WL.take i = WL := List.take_of_length_le (by rw [← HNW.out]; exact Nat.le_refl _)
        rw [htk] at HLE SWH
        have HLF := Lib.hid (show FL = L' by rw [HFL.out, HLE.out])
        rw [← HFN.out] at SWH
        have x0 : V.cell? ⟨w.heap.size, 0, none⟩ = some (.int .u8 mf) := by rw [HMFI.out]; exact SWH.out.x0
        have x1 := SWH.out.x1
        have F0 := Lib.hid SWH.out.res
        have ⟨hl, hb3⟩ := retL16 F0.out SWH.out.bel (by omega : w.heap.size ≤ w.heap.size + 1) mf q' n' c'
        have HB3 := Lib.hid hb3
        have HLN := Lib.hid (show n' = FL.length by rw [HLF.out]; exact SWH.out.len)
        have HLS := Lib.hid (show (InL q n cap L q' n' c' FL ∧ LsAt w q' FL) ∨ FL = [] ∨ (V.setCells (w.heap.size + 1) 0 [.int .u8 mf, .slice q' n' c']).ownsRow w.heap.size 71 2 (.slice q' n' c') n' (rowC encC FL) from by
          rw [HLF.out]
          exact SWH.out.cur.imp id (fun h1 => Or.inr (owns_same16 h1 fun g cs fz _ hk => (heap_setCells16 V _ _ (fun e => by
              rw [e, SWH.out.res] at hk
              injection hk with hk
              injection hk with _ e3 _
              exact absurd e3 (by decide)) _ _).trans hk)))
        have HNT := Lib.hid (show (V.setCells (w.heap.size + 1) 0 [.int .u8 mf, .slice q' n' c']).ownsRow w.heap.size 51 4 u10 FN.length (rowC encN (FN.map nteS)) from by
          rw [← List.length_map (f := nteS)]
          exact (owns_same16 SWH.out.nts fun g cs fz _ hk => (heap_setCells16 V _ _ (fun e => by
              rw [e, SWH.out.res] at hk
              injection hk with hk
              injection hk with _ e3 _
              exact absurd e3 (by decide)) _ _).trans hk))
        clear htk hb3
        go_wp2_with ((with_reducible show wpList _ _ _ (⟨none, .store 25 (.tmp 6) (.tmp 153), _, _, _, _⟩ :: _) _ _)
                     refine wpList_store_mid rfl 25 (.tmp 6) (.tmp 153) rfl (w.heap.size + 1) 0 #[.int .u8 mf, .slice q' n' c'] rfl rfl (there16 F0.out) HIN.out (one16 _ _ _ _) ?_
                     show wpList _ _ _ _ _ (V.setCells (w.heap.size + 1) 0 [.int .u8 mf, .slice q' n' c'])
                     generalize V.setCells (w.heap.size + 1) 0 [.int .u8 mf, .slice q' n' c'] = w3 at hl HB3 HLS HNT ⊢)
        (try simp only [Exit.inBlock, Exit.then])
        rw [show ((mF : Nat) : Int) = mf from HMFI.out.symm]
        refine bodyPost_ret (v := .tuple #[.agg #[.int .u8 mf, .slice q' n' c'], u10]) (results_two15 Tryz.results26 ?_ ?_ hl) rfl ⟨q', n', c', _, rfl, HLN.out, HLS.out, HNT.out, HB3.out⟩
        all_goals rfl
end Go.Proofs.YtanifiobfbfehaaGreatDoor
