/- What the document's own Read returns. Condition: a word of at most a million bytes. -/
import Derived.Test.YtfmfjnnbldmdlaaDoorKf
namespace Go.Proofs.YtfmfjnnbldmdlaaDoor
open Go.RowKit
set_option linter.unusedVariables false
set_option linter.unusedSimpArgs false
attribute [local go_sem ↓] Go.wp_at_zero Go.wp_at_succ

theorem col_step {l : List UInt8} {k : Nat} {c : UInt8} (h : l[k]? = some c) : k + colA (l.drop k) = if c = 58 then k else k + 1 + colA (l.drop (k + 1)) := by
  obtain ⟨hk, rfl⟩ := List.getElem?_eq_some_iff.1 h
  rw [← List.getElem_cons_drop hk]
  unfold colA
  rw [List.findIdx_cons]
  by_cases e : l[k] = 58
  · rw [if_pos e, e]; rfl
  · have : (l[k] == (58 : UInt8)) = false := beq_eq_false_iff_ne.2 e
    rw [if_neg e, this]
    show k + (List.findIdx _ _ + 1) = _
    omega
theorem rd_0 {l : List UInt8} (h : colA l = 0) : rdL l = (e0, 161) := by unfold rdL; rw [if_pos h]
theorem rd_n {l : List UInt8} (h : ¬ colA l = 0) (h2 : colA l = l.length) : rdL l = (⟨bs l, 0, false⟩, 0) := by unfold rdL; rw [if_neg h, if_pos h2]
theorem rd_k {l : List UInt8} (h : ¬ colA l = 0) (h2 : ¬ colA l = l.length) (h3 : bs (l.drop (colA l + 1)) = killB) : rdL l = (⟨bs (l.take (colA l)), 2147483648, true⟩, 0) := by unfold rdL; rw [if_neg h, if_neg h2, if_pos h3]
theorem rd_x {l : List UInt8} (h : ¬ colA l = 0) (h2 : ¬ colA l = l.length) (h3 : ¬ bs (l.drop (colA l + 1)) = killB) (h4 : errnoR (bs (l.drop (colA l + 1))) = none) : rdL l = (e0, 160) := by unfold rdL; rw [if_neg h, if_neg h2, if_neg h3, h4]
theorem rd_e {l : List UInt8} {x : Nat} (h : ¬ colA l = 0) (h2 : ¬ colA l = l.length) (h3 : ¬ bs (l.drop (colA l + 1)) = killB) (h4 : errnoR (bs (l.drop (colA l + 1))) = some x) : rdL l = (⟨bs (l.take (colA l)), 327680 + x, true⟩, 0) := by unfold rdL; rw [if_neg h, if_neg h2, if_neg h3, h4]
theorem below_setCells15 {w0 : World} {b : Nat} (hb : w0.heap.size ≤ b) : ∀ (vs : List Value) (o : Nat) (w : World), Below w0.heap.size w0 w → Below w0.heap.size w0 (w.setCells b o vs)
  | [], o, w, h => h
  | v :: vs, o, w, h => below_setCells15 hb vs (o + 1) (w.setCell ⟨b, o, none⟩ v) (h.setCell hb v)
theorem results_two15 {fn : Func} {tmps : Array Value} {w : World} {t u : Nat} {ty : TypeId} {p : Addr} {v x : Value} (hr : fn.results = #[.cell t ty, .tmp u]) (ha : tmps.getD t undef = .pointer (some p)) (hu : tmps.getD u undef = x) (hl : (loadVar ty p).run Tryd.prog w = .ok v w) : (results fn tmps).run Tryd.prog w = .ok (.tuple #[v, x]) w := by
  have ha' : tmps[t]?.getD undef = .pointer (some p) := by simpa using ha
  have hu' : tmps[u]?.getD undef = x := by simpa using hu
  simp [results, hr, asAddr, ha', hu', hl]
theorem there15 {V : World} {g : Nat} {u v x : Value} (h : V.heap[g]? = some (.cells #[u, v, x] 35 (0, 0))) : V.there g 0 3 := fun j hj => by
  refine ⟨?_, frozen_of_row _ _ _ _ _ h⟩
  rw [cell_of_row _ _ (0 + j) _ _ (0, 0) h]
  match j, hj with
  | 0, _ => rfl
  | 1, _ => rfl
  | 2, _ => rfl
  | j + 3, hj => omega
theorem one15 (a : ByteArray) (b : Int) (c : Bool) : (#[.string a, .int .u32 b, .bool c] : Array Value).all (·.oneCell') = true := by kernel_rfl
/-- An entry, stored into the result's own cells. -/
theorem ret15 {w V : World} {g : Nat} {u v z : Value} (h : V.heap[g]? = some (.cells #[u, v, z] 35 (0, 0))) (hB : Below w.heap.size w V) (hg : w.heap.size ≤ g) (a : ByteArray) (b : Int) (c : Bool) :
    (loadVar 35 ⟨g, 0, none⟩).run Tryd.prog (V.setCells g 0 [.string a, .int .u32 b, .bool c]) = .ok (.agg #[.string a, .int .u32 b, .bool c]) (V.setCells g 0 [.string a, .int .u32 b, .bool c]) ∧ Below w.heap.size w (V.setCells g 0 [.string a, .int .u32 b, .bool c]) := by
  have hinf : (Tryd.prog.info? 35).map (·.size) = some 3 := by kernel_rfl
  exact ⟨run_loadVar_mid (P := Tryd.prog) _ g 0 35 [.string a, .int .u32 b, .bool c] _ (World.rangeAt_setCells_same V g 0 [.string a, .int .u32 b, .bool c] (there15 h)) Tryd.underlying35 rfl hinf, below_setCells15 hg _ _ _ hB⟩
theorem heap_old15 (w : World) (o p : Obj) : ((w.alloc o).alloc p).heap[w.heap.size]? = some o := by
  rw [Below.heap_alloc _ _ _ (by rw [World.size_alloc]; exact Nat.lt_succ_self _)]; exact heap_alloc_new w _
theorem heap_new15 (w : World) (o p : Obj) : ((w.alloc o).alloc p).heap[w.heap.size + 1]? = some p := by
  rw [← World.size_alloc w o]; exact heap_alloc_new _ _
set_option maxRecDepth 100000 in
set_option maxHeartbeats 16000000 in
theorem refRead (s : ByteArray) (hs : s.size ≤ 1000000) (w : World) : Calls Tryd.prog 15 #[.string s] w fun e w' => e = .returned (.tuple #[entV (rdE s).1, .int .i64 (rdE s).2]) ∧ Below w.heap.size w w' := by
  obtain ⟨l, hl⟩ : ∃ l, l = s.data.toList := ⟨_, rfl⟩
  obtain ⟨n, hn⟩ : ∃ n, n = s.size := ⟨_, rfl⟩
  have hln : l.length = n := by rw [hl, hn]; simp
  have HLN := Lib.hid hln
  have HSZ : s.size = n := hn.symm
  have HGET := Lib.hid (fun (i : Nat) (h : i < s.size) => (by rw [hl]; rw [List.getElem?_eq_getElem (by simpa using h)]; rfl : l[i]? = some s[i]))
  have HSTEP := Lib.hid (fun (k : Nat) (c : UInt8) (h : l[k]? = some c) => col_step h)
  have HA := Lib.hid (fun (m : Nat) => (by rw [ext_bs, ← hl]; rfl : s.extract 0 m = bs (l.take m)))
  have HZ := Lib.hid (fun (m : Nat) => (by rw [ext_bs, ← hl, List.take_of_length_le (by omega)] : s.extract m s.size = bs (l.drop m)))
  have HS := Lib.hid (show bs l = s by rw [hl]; rfl)
  have HC := Lib.hid (col_le l)
  have hE : rdE s = rdL l := by unfold rdE; rw [hl]
  rw [hE]
  obtain ⟨R, hR⟩ : ∃ R, R = rdL l := ⟨_, rfl⟩
  rw [← hR]
  have HR := Lib.hid hR
  have hnm : n ≤ 1000000 := by omega
  clear hl hn hE hR hs
  have hnw : IntKind.i64.wrap ((n : Int) - 1) = n - 1 := by rw [IntKind.wrap_i64]; omega
  go_enter Tryd.func15, Tryd.ntmps15
  go_wp2
  go_loop [4, 5] (fun v4 v5 => ∃ (k m : Nat), k ≤ n ∧ m ≤ n ∧ v5 = .int .i64 ((k : Int) - 1) ∧ v4 = .int .i64 (m : Nat) ∧ Hid (m = k + colA (l.drop k))) (fun _ v5 => (intOf v5 + 1).toNat)
  case atStart => exact ⟨n, n, Nat.le_refl _, Nat.le_refl _, by first | rfl | go_num, rfl, Lib.hid (by rw [List.drop_of_length_le (by omega)]; rfl)⟩
  case round =>
    obtain ⟨k, m, hk, hm, rfl, rfl, HM⟩ := hrel
    by_cases hlt : 0 < k
    · obtain ⟨p, rfl⟩ : ∃ p, k = p + 1 := ⟨k - 1, by omega⟩
      have hps : p < s.size := by omega
      obtain ⟨c, hc⟩ : ∃ c, c = s[p]'hps := ⟨_, rfl⟩
      have hget := HGET.out p hps
      rw [← hc] at hget
      have hst := HSTEP.out p c hget
      obtain ⟨x, hx⟩ : ∃ x, x = (c.toNat : Int) := ⟨_, rfl⟩
      have hpc : ((p + 1 : Nat) : Int) - 1 = p := by omega
      rw [hpc]
      have hidx : ((s[p]'hps).toNat : Int) = x := by rw [hx, hc]
      have p0 : (0 : Int) ≤ p := by omega
      have p1 : (p : Int) < n := by omega
      have hw1 : IntKind.i64.wrap ((p : Int) - 1) = p - 1 := by rw [IntKind.wrap_i64]; omega
      by_cases h58 : x = 58
      · have hc' : c = 58 := UInt8.toNat_inj.1 (by have : (c.toNat : Int) = ((58 : UInt8).toNat : Int) := by rw [← hx, h58]; rfl
                                                   omega)
        rw [if_pos hc'] at hst
        have HST := Lib.hid hst
        subst h58
        clear hst hget hc hx hc' HGET HSTEP
        go_wp2
        go_round
        case rel => exact ⟨p, p, by omega, by omega, by first | rfl | go_num, rfl, Lib.hid HST.out.symm⟩
        case measure => simp [intOf]
      · have hc' : ¬ c = 58 := fun e => h58 (by rw [hx, e]; rfl)
        rw [if_neg hc'] at hst
        have HST := Lib.hid hst
        have e1 : (x == 58) = false := beq_eq_false_iff_ne.2 h58
        clear hst hget hc hx hc' HGET HSTEP
        go_wp2
        go_round
        case rel => exact ⟨p, m, by omega, by omega, by first | rfl | go_num, rfl, Lib.hid (by rw [HM.out, HST.out])⟩
        case measure => simp [intOf]
    · obtain rfl : k = 0 := by omega
      have k0 : ¬ (0 : Int) ≤ ((0 : Nat) : Int) - 1 := by omega
      have hmc : m = colA l := by have := HM.out; rw [Nat.zero_add, List.drop_zero] at this; exact this
      have HMC := Lib.hid hmc
      clear hlt HM HGET HSTEP hmc
      have m0 : (0 : Int) ≤ m := by omega
      have m1 : (m : Int) ≤ n := by omega
      by_cases h0 : m = 0
      · have hv := Lib.hid (show R = (e0, 161) by rw [HR.out]; exact rd_0 (HMC.out ▸ h0))
        subst h0
        clear HA HZ
        go_wp2
        refine bodyPost_ret (v := .tuple #[entV e0, .int .i64 161]) (by simp [results, Tryd.results15, go_sem, entV, e0]) rfl ⟨by rw [hv.out], ((Below.refl _ _).alloc (Nat.le_refl _) _).alloc (by simp) _⟩
      · have m2 : ¬ (m : Int) = 0 := by omega
        have q0 : ((m : Int) == 0) = false := beq_eq_false_iff_ne.2 m2
        have c0 : ¬ colA l = 0 := HMC.out ▸ h0
        by_cases h1 : m = n
        · have hv := Lib.hid (show R = (⟨s, 0, false⟩, 0) by rw [HR.out, rd_n c0 (by rw [← HMC.out, HLN.out]; exact h1), HS.out])
          subst h1
          have E1 := Lib.hid (show s.extract 0 m = s from by rw [← HSZ]; simp)
          clear HA HZ c0 h0
          go_wp2
          refine bodyPost_ret (v := .tuple #[.agg #[.string (s.extract 0 m), .int .u32 0, .bool false], .int .i64 0]) (by simp [results, Tryd.results15, go_sem]) rfl ⟨by rw [hv.out, E1.out]; rfl, ((Below.refl _ _).alloc (Nat.le_refl _) _).alloc (by simp) _⟩
        · have m3 : ¬ (m : Int) = n := by omega
          have q1 : ((m : Int) == (n : Int)) = false := beq_eq_false_iff_ne.2 m3
          have m4 : (m : Int) + 1 ≤ n := by omega
          have m5 : (0 : Int) ≤ (m : Int) + 1 := by omega
          have hw1 : IntKind.i64.wrap ((m : Int) + 1) = m + 1 := by rw [IntKind.wrap_i64]; omega
          have c1 : ¬ colA l = l.length := by rw [← HMC.out, HLN.out]; exact h1
          have HX := Lib.hid (HA.out m)
          have HY := Lib.hid (show s.extract (m + 1) n = bs (l.drop (colA l + 1)) from by rw [← HMC.out, ← HSZ]; exact HZ.out (m + 1))
          have HMX := Lib.hid (show bs (l.take (colA l)) = s.extract 0 m from by rw [← HMC.out, HX.out])
          by_cases hk : bs (l.drop (colA l + 1)) = killB
          · have hv := Lib.hid (show R = (⟨s.extract 0 m, 2147483648, true⟩, 0) by rw [HR.out, rd_k c0 c1 hk, HMX.out])
            have t1 : ((s.extract (m + 1) n).toList == [107, 105, 108, 108]) = true := by rw [HY.out, hk, show killB = bs [107, 105, 108, 108] from rfl, bs_toList]; rfl
            clear HA HZ c0 c1 hk HX HY HMX h0 h1
            go_wp2
            refine bodyPost_ret (v := .tuple #[.agg #[.string (s.extract 0 m), .int .u32 2147483648, .bool true], .int .i64 0]) (by simp [results, Tryd.results15, go_sem]) rfl ⟨by rw [hv.out]; rfl, ((Below.refl _ _).alloc (Nat.le_refl _) _).alloc (by simp) _⟩
          · have t1 : ((s.extract (m + 1) n).toList == [107, 105, 108, 108]) = false := beq_eq_false_iff_ne.2 (fun e => hk (by rw [← HY.out]; exact list_of_bytes10 (e.trans (bs_toList [107, 105, 108, 108]).symm)))
            have hys : (s.extract (m + 1) n).size ≤ maxLen := by rw [HY.out, bs_size, List.length_drop]; unfold maxLen; omega
            have HE := Lib.hid (fun W => refErrno (s.extract (m + 1) n) hys W)
            have HIN := Lib.hid (show (Tryd.prog.info? 35).map (·.size) = some 3 from by kernel_rfl)
            rw [HY.out] at HE
            cases he : errnoR (bs (l.drop (colA l + 1))) with
            | none =>
              have hv := Lib.hid (show R = (e0, 160) by rw [HR.out, rd_x c0 c1 hk he])
              rw [he, ← HY.out] at HE
              clear HA HZ c0 c1 hk HX HY HMX h0 h1 he hys
              go_wp2_with (first
                | (go_at_call 26
                   (with_reducible refine (HE.out _).mono ?_)
                   rintro e w2 ⟨rfl, b2⟩
                   have F0 := Lib.hid ((b2.block w.heap.size (by simp only [World.size_alloc]; omega)).trans (heap_old15 _ _ _))
                   have BW := Lib.hid (thn (((Below.refl _ _).alloc (Nat.le_refl _) _).alloc (by simp) _) b2)
                   have ⟨hl, hb3⟩ := ret15 F0.out BW.out (Nat.le_refl _) ⟨#[]⟩ 0 false
                   clear b2)
                | ((with_reducible show wpList _ _ _ (⟨none, .store 35 (.tmp 2) (.tmp 53), _, _, _, _⟩ :: _) _ _)
                   refine wpList_store_mid rfl 35 (.tmp 2) (.tmp 53) rfl w.heap.size 0 #[.string ⟨#[]⟩, .int .u32 0, .bool false] rfl rfl (there15 F0.out) HIN.out (one15 _ _ _) ?_
                   show wpList _ _ _ _ _ (w2.setCells w.heap.size 0 [.string ⟨#[]⟩, .int .u32 0, .bool false])
                   generalize w2.setCells w.heap.size 0 [.string ⟨#[]⟩, .int .u32 0, .bool false] = w3 at hl hb3 ⊢))
              exact bodyPost_ret (v := .tuple #[.agg #[.string ⟨#[]⟩, .int .u32 0, .bool false], .int .i64 160]) (results_two15 Tryd.results15 rfl rfl hl) rfl ⟨by rw [hv.out]; rfl, hb3⟩
            | some x =>
              have hx4 := errnoR_lt he
              have hv := Lib.hid (show R = (⟨s.extract 0 m, 327680 + x, true⟩, 0) by rw [HR.out, rd_e c0 c1 hk he, HMX.out])
              rw [he, ← HY.out] at HE
              have hxw : IntKind.u32.wrap (327680 + (x : Int)) = 327680 + x := by rw [IntKind.wrap_u32]; omega
              have hxw2 : IntKind.u32.wrap ((327680 : Int) + (x : Int)) = ((327680 + x : Nat) : Int) := by rw [hxw]; rfl
              clear HA HZ c0 c1 hk HX HY HMX h0 h1 he hys
              go_wp2_with (first
                | (go_at_call 26
                   (with_reducible refine (HE.out _).mono ?_)
                   rintro e w2 ⟨rfl, b2⟩
                   have F0 := Lib.hid ((b2.block w.heap.size (by simp only [World.size_alloc]; omega)).trans (heap_old15 _ _ _))
                   have F1 := Lib.hid ((b2.block (w.heap.size + 1) (by simp only [World.size_alloc]; omega)).trans (heap_new15 _ _ _))
                   have BW := Lib.hid (thn (((Below.refl _ _).alloc (Nat.le_refl _) _).alloc (by simp) _) b2)
                   have g1 := (cell_of_row w2 (w.heap.size + 1) 1 _ _ (0, 0) F1.out).trans (show _ = some (Value.int .u32 0) from rfl)
                   have z1 := frozen_of_row w2 (w.heap.size + 1) 1 _ _ F1.out
                   have g0 := (cell_of_row w2 (w.heap.size + 1) 0 _ _ (0, 0) F1.out).trans (show _ = some (Value.string (s.extract 0 m)) from rfl)
                   have g2 := (cell_of_row w2 (w.heap.size + 1) 2 _ _ (0, 0) F1.out).trans (show _ = some (Value.bool true) from rfl)
                   have d0 := (World.cell?_setCell_other w2 (a := ⟨w.heap.size + 1, 1, none⟩) (b := ⟨w.heap.size + 1, 0, none⟩) (v := .int .u32 (327680 + (x : Int))) (h := fun e => by injection e with _ e _; cases e)).trans g0
                   have d2 := (World.cell?_setCell_other w2 (a := ⟨w.heap.size + 1, 1, none⟩) (b := ⟨w.heap.size + 1, 2, none⟩) (v := .int .u32 (327680 + (x : Int))) (h := fun e => by injection e with _ e _; cases e)).trans g2
                   have d1 := World.cell?_setCell_same w2 ⟨w.heap.size + 1, 1, none⟩ (.int .u32 (327680 + (x : Int))) g1
                   have F3 := Lib.hid ((((Below.refl (w.heap.size + 1) w2).setCell (p := ⟨w.heap.size + 1, 1, none⟩) (Nat.le_refl _) (.int .u32 (327680 + (x : Int)))).block w.heap.size (Nat.lt_succ_self _)).trans F0.out)
                   have B3 := Lib.hid (BW.out.setCell (p := ⟨w.heap.size + 1, 1, none⟩) (Nat.le_succ _) (.int .u32 (327680 + (x : Int))))
                   have ⟨hl, hb3⟩ := ret15 F3.out B3.out (Nat.le_refl _) (s.extract 0 m) (327680 + (x : Int)) true
                   clear b2)
                | ((with_reducible show wpList _ _ _ (⟨none, .store 35 (.tmp 2) (.tmp 57), _, _, _, _⟩ :: _) _ _)
                   refine wpList_store_mid rfl 35 (.tmp 2) (.tmp 57) rfl w.heap.size 0 #[.string (s.extract 0 m), .int .u32 (327680 + (x : Int)), .bool true] rfl rfl (there15 F3.out) HIN.out (one15 _ _ _) ?_
                   show wpList _ _ _ _ _ ((w2.setCell ⟨w.heap.size + 1, 1, none⟩ (.int .u32 (327680 + (x : Int)))).setCells w.heap.size 0 [.string (s.extract 0 m), .int .u32 (327680 + (x : Int)), .bool true])
                   generalize (w2.setCell ⟨w.heap.size + 1, 1, none⟩ (.int .u32 (327680 + (x : Int)))).setCells w.heap.size 0 [.string (s.extract 0 m), .int .u32 (327680 + (x : Int)), .bool true] = w3 at hl hb3 ⊢))
              exact bodyPost_ret (v := .tuple #[.agg #[.string (s.extract 0 m), .int .u32 (327680 + (x : Int)), .bool true], .int .i64 0]) (results_two15 Tryd.results15 rfl rfl hl) rfl ⟨by rw [hv.out]; rfl, hb3⟩
end Go.Proofs.YtfmfjnnbldmdlaaDoor
