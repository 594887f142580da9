/- The library's Grow and Concat at rows of strings. Conditions: at most 100 rows, of at most 100,000 strings together. -/
import Derived.Test.YtlenjfodjkhpmaaGreatDoorV5
import Derived.Lib.AppendZeros
namespace Go.Proofs.YtlenjfodjkhpmaaGreatDoor
set_option maxRecDepth 100000
open Go.Lib (hid)
open Go.RowKit
set_option linter.unusedVariables false
set_option linter.unusedSimpArgs false
attribute [local go_sem ↓] Go.wp_at_zero Go.wp_at_succ

set_option maxHeartbeats 4000000 in
theorem grow_c19 (n : Nat) (hn : n ≤ 100000) (w : World) : Calls Tryz.prog 78 #[.slice none 0 0, .int .i64 (n : Nat)] w fun e w' => ∃ v, e = .returned v ∧ w'.ownsRow w.heap.size 9 1 v 0 [] ∧ Below w.heap.size w w' := by
 rcases Nat.eq_zero_or_pos n with h0 | h0
 ·subst h0
  go_enter Tryz.func78, Tryz.ntmps78
  go_wp2
  go_ret
  exact ⟨_, rfl, World.ownsRow_nil _ _ _ _, Below.refl _ _⟩
 ·obtain ⟨i0, hi0, hz0, hz1, hz2⟩ := info_parts str_info11
  obtain ⟨cp, hcp⟩ : ∃ x, x = grownCap w n 0 9 := ⟨_, rfl⟩
  have hge : n ≤ cp := by rw [hcp]; exact grownCap_ge w n 0 9
  have hmx : cp ≤ maxLen := by rw [hcp]; exact grownCap_le_maxLen w n 0 9 (by unfold maxLen; omega)
  obtain ⟨cu, hcu⟩ : ∃ cu, cu = Builtin.zeroCells (Value.string ⟨#[]⟩).cells n ++ Builtin.zeroCells (Value.string ⟨#[]⟩).cells (cp - n) := ⟨_, rfl⟩
  have hcs : cu.size = cp * 1 := by rw [hcu, Array.size_append, size_zeroCells, size_zeroCells]; show n * 1 + (cp - n) * 1 = cp * 1; omega
  have HAP := hid (show ∀ ty, (Builtin.append_ #[44, 3] ty #[.slice none 0 0, .int .i64 (n : Nat)]).run Tryz.prog w = .ok (.slice (some ⟨w.heap.size, 0, none⟩) n cp) (w.drew.alloc (.cells cu 9)) from fun ty => by
   have := Lib.run_append_nil_zeros (P := Tryz.prog) w 44 3 ty 9 i0 _ .i64 .i64 Tryz.underlying44 Tryz.underlying3 hi0 hz0 n h0 (by rw [hz1]; decide) (by omega) (by rw [hz2]; omega)
   rw [this, hcu, hcp])
  have HO := hid (World.ownsRow_made (base := w.heap.size) (e := 9) (size := 1) w.drew cu cp (Nat.le_refl _) hmx hcs)
  have HB := hid (((Below.refl w.heap.size w).drew).alloc (Nat.le_refl _) (.cells cu 9))
  have n1 : (0 : Int) < n := by omega
  have n2 : ¬ (n : Int) < 0 := by omega
  have n3 : IntKind.i64.wrap ((n : Int)) = n := by rw [IntKind.wrap_i64]; omega
  have n4 : IntKind.i64.wrap ((n : Int) - 0) = n := by rw [IntKind.wrap_i64]; omega
  have n5 : (n : Int) - 0 = n := by omega
  have n6 : (0 : Int) ≤ cp := by omega
  clear hi0 hz0 hz1 hz2 hcp hge hmx hcu hcs
  go_enter Tryz.func78, Tryz.ntmps78
  go_wp2_with (at_builtin; refine Lib.wpList_append_run _ rfl _ _ _ _ rfl _ _ rfl rfl _ _ (HAP.out _) ?_)
  go_ret
  exact ⟨_, rfl, HO.out, HB.out⟩
theorem wrd_news19 {w : World} {q : Option Addr} {n c : Nat} {ws : List ByteArray} (h : WrdAt w q n c ws) (h0 : 0 < n) : ∃ ad, q = some ad ∧ ∀ j u, (sG ws)[j]? = some u → w.cell? (ad.add j) = some u := by
 have hl : 0 < ws.length := by rw [← h.1]; exact h0
 obtain ⟨g, o, rfl, _⟩ := h.2.2 0 _ (List.getElem?_eq_getElem hl)
 refine ⟨_, rfl, fun j u hu => ?_⟩
 unfold sG at hu
 rw [List.getElem?_map] at hu
 obtain ⟨x, hx, rfl⟩ := Option.map_eq_some_iff.1 hu
 obtain ⟨g', o', e, hc⟩ := h.2.2 j x hx
 injection e with e
 injection e with e1 e2 _
 subst e1 e2
 rw [Addr.add_lit]
 exact hc
abbrev Sl := Option Addr × Nat × Nat
theorem flat_step19 {Ws : List (List ByteArray)} {k : Nat} {ws : List ByteArray} (h : Ws[k]? = some ws) : (Ws.take (k + 1)).flatten = (Ws.take k).flatten ++ ws := by
 rw [List.take_add_one, h]
 show (Ws.take k ++ [ws]).flatten = _
 rw [List.flatten_append]
 simp
theorem flat_le19 (Ws : List (List ByteArray)) (k : Nat) : (Ws.take k).flatten.length ≤ Ws.flatten.length := by
 have := congrArg List.length (congrArg List.flatten (List.take_append_drop k Ws))
 rw [List.flatten_append, List.length_append] at this
 omega
set_option maxHeartbeats 16000000 in
theorem concat_c19 (b m cm : Nat) (T : List Sl) (Ws : List (List ByteArray)) (w : World) (hm : m = T.length) (hm2 : m = Ws.length) (hm3 : m ≤ 100) (hT : ∀ (k : Nat) (t : Sl), T[k]? = some t → w.cell? ⟨b, k, none⟩ = some (.slice t.1 t.2.1 t.2.2)) (hW : ∀ (k : Nat) (t : Sl) (ws : List ByteArray), T[k]? = some t → Ws[k]? = some ws → WrdAt w t.1 t.2.1 t.2.2 ws) (hs : Ws.flatten.length ≤ 100000) : Calls Tryz.prog 35 #[.slice (some ⟨b, 0, none⟩) m cm] w fun e w' => OutS w Ws.flatten e w' := by
 obtain ⟨i0, hi0, hz0, hz1, hz2⟩ := info_parts str_info11
 have HI := hid hi0
 have HZ0 := hid hz0
 have HZ1 := hid hz1
 have HZ2 := hid hz2
 have HTT := hid (fun (X : World) (bx : Below w.heap.size w X) (k : Nat) (t : Sl) (h : T[k]? = some t) => (bx.cell (World.block_lt_of_cell? w _ (hT k t h))).trans (hT k t h))
 have HWW := hid (fun (X : World) (bx : Below w.heap.size w X) (k : Nat) (t : Sl) (ws : List ByteArray) (h : T[k]? = some t) (h2 : Ws[k]? = some ws) => (hW k t ws h h2).on bx)
 have HM := hid hm
 have HM2 := hid hm2
 have HS := hid hs
 have HGR := hid (fun (n : Nat) (hn : n ≤ 100000) => grow_c19 n hn w)
 clear hT hW hm hm2 hs hi0 hz0 hz1 hz2
 go_enter Tryz.func35, Tryz.ntmps35
 go_wp2
 go_loopw [3, 11] (fun v3 v11 wr => ∃ k : Nat, k ≤ m ∧ v11 = .int .i64 k ∧ Hid (v3 = .int .i64 ((Ws.take k).flatten.length : Nat)) ∧ Hid (w = wr)) (fun _ v11 _ => m - (intOf v11).toNat)
 case atStart => exact ⟨0, Nat.zero_le _, rfl, hid rfl, hid rfl⟩
 case round =>
  obtain ⟨k, hk, rfl, h3, hw⟩ := hrel
  have hw := hw.out
  subst hw
  have h3 := h3.out
  subst h3
  by_cases hlt : k < m
  ·obtain ⟨t, ht⟩ : ∃ t, T[k]? = some t := ⟨T[k]'(by rw [← HM.out]; exact hlt), List.getElem?_eq_getElem _⟩
   obtain ⟨ws, hws⟩ : ∃ ws, Ws[k]? = some ws := ⟨Ws[k]'(by rw [← HM2.out]; exact hlt), List.getElem?_eq_getElem _⟩
   have c0 := HTT.out _ (Below.refl _ _) k t ht
   have hln := (HWW.out _ (Below.refl _ _) k t ws ht hws).1
   have HST := hid (congrArg List.length (flat_step19 hws))
   have hle := flat_le19 Ws (k + 1)
   have hle2 := HS.out
   rw [HST.out, List.length_append, ← hln] at hle
   rw [List.length_append, ← hln] at HST
   obtain ⟨tq, tn, tc⟩ := t
   simp only at c0 hle HST
   generalize (Ws.take k).flatten.length = a at hle HST ⊢
   have k1 : (k : Int) < m := by omega
   have k0 : (0 : Int) ≤ k := by omega
   have e1 : IntKind.i64.wrap ((a : Int) + tn) = ((a + tn : Nat) : Int) := by rw [IntKind.wrap_i64]; omega
   have e2 : ¬ ((a + tn : Nat) : Int) < 0 := by omega
   have e3 : ¬ ((a : Int) + (tn : Int)) < 0 := by omega
   clear ht hws hln
   go_wp2
   go_roundw
   case rel => exact ⟨k + 1, by omega, by go_num, hid (by rw [HST.out]; first | rfl | exact e1 | simp), hid (by first | rfl | trivial)⟩
   case measure => first | (simp [intOf]; done) | (simp [intOf]; omega)
  ·obtain rfl : k = m := by omega
   have k1 : ¬ (k : Int) < k := by omega
   have HTF := hid (show (Ws.take k).flatten.length ≤ 100000 from Nat.le_trans (flat_le19 Ws k) HS.out)
   have HF := hid (show Ws.take k = Ws from List.take_of_length_le (by rw [← HM2.out]; exact Nat.le_refl _))
   rw [HF.out] at HTF ⊢
   have HGG := hid (HGR.out _ HTF.out)
   generalize Ws.flatten.length = n0 at HGG ⊢
   clear HGR HTF
   go_wp2_with (go_at_call 78; ((with_reducible refine (HGG.out).mono ?_); rintro e w1 ⟨v1, rfl, o1, b1⟩); have O1 := hid o1; have B1 := hid b1; clear o1 b1)
   go_loopw [6, 27] (fun v6 v27 wr => ∃ j : Nat, j ≤ k ∧ v27 = .int .i64 j ∧ Hid (wr.ownsRow w.heap.size 9 1 v6 ((Ws.take j).flatten.length) (sG (Ws.take j).flatten)) ∧ Hid (Below w.heap.size w wr)) (fun _ v27 _ => k - (intOf v27).toNat)
   case atStart => exact ⟨0, Nat.zero_le _, rfl, O1, B1⟩
   case round =>
    clear O1 B1
    obtain ⟨j, hj, rfl, PO, PB⟩ := hrel
    obtain ⟨V, rfl⟩ : ∃ wo : World, wo = wr := ⟨_, rfl⟩
    by_cases hlt : j < k
    ·obtain ⟨t, ht⟩ : ∃ t, T[j]? = some t := ⟨T[j]'(by rw [← HM.out]; exact hlt), List.getElem?_eq_getElem _⟩
     obtain ⟨ws, hws⟩ : ∃ ws, Ws[j]? = some ws := ⟨Ws[j]'(by rw [← HM2.out]; exact hlt), List.getElem?_eq_getElem _⟩
     have c0 := HTT.out _ PB.out j t ht
     have HWD := hid (HWW.out _ PB.out j t ws ht hws)
     have HST := hid (flat_step19 hws)
     have HLE := hid (show (Ws.take j).flatten.length + ws.length ≤ 100000 by
      have := flat_le19 Ws (j + 1)
      rw [HST.out, List.length_append] at this
      exact Nat.le_trans this HS.out)
     obtain ⟨tq, tn, tc⟩ := t
     have c0 : V.cell? ⟨b, j, none⟩ = some (.slice tq tn tc) := c0
     obtain ⟨Z, hZ⟩ : ∃ Z, Z = (Ws.take j).flatten := ⟨_, rfl⟩
     rw [← hZ] at PO HST HLE
     obtain ⟨zl, hzl⟩ : ∃ zl, zl = Z.length := ⟨_, rfl⟩
     have HZL := hid hzl
     rw [← hzl] at PO HLE
     have k1 : (j : Int) < k := by omega
     have k0 : (0 : Int) ≤ j := by omega
     have HWN := hid (show tn = ws.length from HWD.out.1)
     clear ht hws hZ hzl
     go_wp2_with ((at_builtin; refine wpList_app_r rfl (.tmp 31) (.tmp 32) 44 rfl w.heap.size 9 i0 _ 1 16 Tryz.underlying44 HI.out HZ0.out HZ1.out HZ2.out rfl (by decide) u6 zl (sG Z) rfl PO.out tq tn tc (sG ws) rfl (by rw [sG_length, HWN.out, Nat.mul_one]) (fun h0 => wrd_news19 HWD.out h0) (sG_one _) (by have := HLE.out; have := HWN.out; unfold maxLen; omega) (by have := HLE.out; have := HWN.out; omega) PB.out.size ?_); intro v6 w6 o6 h6; rw [← sG_app, HWN.out] at o6; have O6 := hid o6; have B6 := hid (PB.out.grown h6 PB.out.size (fun g hg => (PO.out.lt g hg).1)); clear o6 h6)
     go_roundw
     case rel => exact ⟨j + 1, by omega, by go_num, hid (by rw [HST.out, List.length_append, ← HZL.out]; exact O6.out), B6⟩
     case measure => first | (simp [intOf]; done) | (simp [intOf]; omega)
    ·obtain rfl : j = k := by omega
     have kk : ¬ (j : Int) < j := by omega
     have HO := hid (show V.ownsRow w.heap.size 9 1 u6 Ws.flatten.length (sG Ws.flatten) by
      have := PO.out
      rw [HF.out] at this
      exact this)
     obtain ⟨qv, cv, hqv⟩ := own16 HO.out
     subst hqv
     go_wp2
     go_ret
     exact ⟨qv, cv, by rw [List.length_flatten]; rfl, HO.out, PB.out⟩
end Go.Proofs.YtlenjfodjkhpmaaGreatDoor
