/- The landed fold's May, Find, Warns, and a list's copy. Conditions: lists of at most 100,000 calls. The landed fold's Put and Take: lists in memory of their own. Conditions: lists of at most 100,000 calls. -/
import Derived.Test.YtlenjfodjkhpmaaGreatDoorF4
import Derived.Test.YtlenjfodjkhpmaaGreatDoorG1
import Derived.Test.YtlenjfodjkhpmaaGreatDoorTq
import Derived.Deep.RegionHeld3
import Derived.BigQuiet
import Derived.Deep.QuietTactic
import Derived.Deep.MidRow
namespace Go.Proofs.YtlenjfodjkhpmaaGreatDoor
set_option maxRecDepth 100000
open Go.Lib (hid)
open Go.RowKit
set_option linter.unusedVariables false
set_option linter.unusedSimpArgs false
attribute [local go_sem ↓] Go.wp_at_zero Go.wp_at_succ

theorem drewN16 (w : World) (n : Nat) : Below w.heap.size w (w.drewN n) := ⟨rfl, rfl, rfl, Nat.le_refl _, fun _ _ => rfl⟩
set_option maxHeartbeats 8000000 in
theorem act_is (a : Nat) : actOk a = (decide (a = 0) || (decide (a = 2147483648) || (decide (327680 ≤ a) && decide (a ≤ 331775)))) := by
 unfold actOk
 rw [Bool.or_assoc]
 congr 2
 by_cases h : 327680 ≤ a ∧ a ≤ 331775
 ·rw [decide_eq_true h.1, decide_eq_true h.2, decide_eq_true (show a / 65536 = 5 by omega), decide_eq_true (show a % 65536 ≤ 4095 by omega)]
 ·have h2 : ¬ (a / 65536 = 5 ∧ a % 65536 ≤ 4095) := by omega
  have e1 : (decide (327680 ≤ a) && decide (a ≤ 331775)) = false := by
   rw [Bool.and_eq_false_iff, decide_eq_false_iff_not, decide_eq_false_iff_not]; omega
  have e2 : (decide (a / 65536 = 5) && decide (a % 65536 ≤ 4095)) = false := by
   rw [Bool.and_eq_false_iff, decide_eq_false_iff_not, decide_eq_false_iff_not]; omega
  rw [e1, e2]
theorem stand_c (a : Nat) (w : World) : Calls Tryz.prog 118 #[.int .u32 (a : Nat)] w fun e w' => e = .returned (.bool (actOk a)) ∧ w = w' := by
 rw [act_is]
 obtain ⟨x, hx⟩ : ∃ x : Int, x = (a : Nat) := ⟨_, rfl⟩
 rw [← hx]
 have d0 : decide (a = 0) = (x == 0) := by
  by_cases h : a = 0
  ·rw [decide_eq_true h, hx, h]; rfl
  ·rw [decide_eq_false h]; exact (beq_eq_false_iff_ne.2 (by omega)).symm
 have dk : decide (a = 2147483648) = (x == 2147483648) := by
  by_cases h : a = 2147483648
  ·rw [decide_eq_true h, hx, h]; rfl
  ·rw [decide_eq_false h]; exact (beq_eq_false_iff_ne.2 (by omega)).symm
 have dl : decide (327680 ≤ a) = decide (327680 ≤ x) := by congr 1; apply propext; constructor <;> (intro; omega)
 have du : decide (a ≤ 331775) = decide (x ≤ 331775) := by congr 1; apply propext; constructor <;> (intro; omega)
 rw [d0, dk, dl, du]
 clear d0 dk dl du hx
 by_cases h0 : x = 0
 ·subst h0
  go_enter Tryz.func118, Tryz.ntmps118
  go_wp2
  go_ret
  exact ⟨rfl, rfl⟩
 have e0 : (x == 0) = false := beq_eq_false_iff_ne.2 h0
 rw [e0]
 clear h0
 by_cases hk : x = 2147483648
 ·subst hk
  clear e0
  go_enter Tryz.func118, Tryz.ntmps118
  go_wp2
  go_ret
  exact ⟨rfl, rfl⟩
 have ek : (x == 2147483648) = false := beq_eq_false_iff_ne.2 hk
 rw [ek]
 clear hk
 by_cases hl : 327680 ≤ x
 ·by_cases hu : x ≤ 331775
  ·rw [decide_eq_true hl, decide_eq_true hu]
   go_enter Tryz.func118, Tryz.ntmps118
   go_wp2
   go_ret
   exact ⟨rfl, rfl⟩
  ·rw [decide_eq_true hl, decide_eq_false hu]
   go_enter Tryz.func118, Tryz.ntmps118
   go_wp2
   go_ret
   exact ⟨rfl, rfl⟩
 ·rw [decide_eq_false hl]
  go_enter Tryz.func118, Tryz.ntmps118
  go_wp2
  go_ret
  exact ⟨rfl, rfl⟩
attribute [local go_sem] geq16
theorem all_bad {L : List Cl} {k : Nat} (hk : k < L.length) (h : okAt knownR L k = false) : (List.range L.length).all (okAt knownR L) = false := List.all_eq_false.2 ⟨k, List.mem_range.2 hk, by rw [h]; simp⟩
theorem all_good {L : List Cl} (h : ∀ k, k < L.length → okAt knownR L k = true) : (List.range L.length).all (okAt knownR L) = true := List.all_eq_true.2 fun k hk => h k (List.mem_range.1 hk)
set_option maxHeartbeats 8000000 in
theorem asc_c (q : Option Addr) (n c : Nat) (L : List Cl) (w : World) (hl : n = L.length) (hn : n ≤ 100000) (ha : ∀ e ∈ L, e.2 < 4294967296) (h : LsAt w q L) : Calls Tryz.prog 94 #[.slice q n c] w fun e w' => e = .returned (.bool ((List.range L.length).all (okAt knownR L))) ∧ Below w.heap.size w w' := by
 have HL := hid hl
 have HR := hid (fun (W : World) (b : Below w.heap.size w W) => h.on b)
 have HB := hid (fun (k : Nat) (hk : k < n) (h : okAt knownR L k = false) => all_bad (L := L) (by rw [← hl]; exact hk) h)
 have HG := hid (fun (h : ∀ k, k < n → okAt knownR L k = true) => all_good (L := L) fun k hk => h k (by rw [hl]; exact hk))
 have HN9 := hid (fun (s : ByteArray) (W : World) => known9 s W)
 have HST := hid (fun (a : Nat) (W : World) => stand_c a W)
 obtain ⟨rv, hrv⟩ : ∃ b, b = (List.range L.length).all (okAt knownR L) := ⟨_, rfl⟩
 rw [← hrv] at HB HG ⊢
 clear h hl hrv ha
 go_enter Tryz.func94, Tryz.ntmps94
 go_wp2
 go_loopw [7] (fun v7 wr => ∃ k : Nat, k ≤ n ∧ v7 = .int .i64 k ∧ Hid (∀ j, j < k → okAt knownR L j = true) ∧ Hid (Below w.heap.size w wr)) (fun v7 _ => n - (intOf v7).toNat)
 case atStart => exact ⟨0, by omega, rfl, hid (fun j hj => absurd hj (by omega)), hid (Below.refl _ _)⟩
 case round =>
  obtain ⟨k, hk, rfl, HN, PB⟩ := hrel
  obtain ⟨V, rfl⟩ : ∃ wo : World, wo = wr := ⟨_, rfl⟩
  by_cases hlt : k < n
  ·have hx : L[k]? = some (L[k]'(by rw [← HL.out]; exact hlt)) := List.getElem?_eq_getElem _
   obtain ⟨⟨s, a⟩, he⟩ : ∃ e, e = L[k]'(by rw [← HL.out]; exact hlt) := ⟨_, rfl⟩
   rw [← he] at hx
   obtain ⟨g, o, rfl, c0, c1⟩ := (HR.out _ PB.out) k _ hx
   simp only at c0 c1
   have hbl := World.block_lt_of_cell? V _ c0
   obtain ⟨x, hxe⟩ : ∃ x : Int, x = (a : Nat) := ⟨_, rfl⟩
   rw [← hxe] at c1
   have HXE := hid hxe
   have k1 : (k : Int) < n := by omega
   have k0 : (0 : Int) ≤ k := by omega
   have HX := hid hx
   have HA := hid (below16 V (.cells #[.string s, .int .u32 x] 67))
   have HKL := hid hlt
   clear he hxe hx
   cases hkn : knownR s with
   | false =>
    have HN9 := hid (HN9.out s)
    rw [hkn] at HN9
    rcases Nat.eq_zero_or_pos k with hk0 | hk0
    ·subst hk0
     simp only [Nat.zero_mul, Nat.add_zero] at c0 c1
     have hv := hid (HB.out _ HKL.out (okAt_k HX.out hkn))
     go_wp2_with fail
     go_quiet (fail)
     go_wp2_with (first
      | (go_at_call 117
         ((with_reducible refine (HN9.out _).mono ?_); rintro e w1 ⟨rfl, b1⟩)
         have y1 := (b1.cell (p := ⟨V.heap.size, 1, none⟩) (by simp)).trans (show _ = some (Value.int .u32 x) from by first | (simp only [World.cell?_drew, World.cell?_drewN]; exact cell_of_row _ _ _ _ _ (0, 0) (heap_alloc_new V _)) | exact cell_of_row _ _ _ _ _ (0, 0) (heap_alloc_new V _)))
      | (go_at_call 118
         rw [HXE.out]
         ((with_reducible refine (HST.out _ _).mono ?_); rintro e w2 ⟨rfl, rfl⟩)))

     go_ret
     exact ⟨by rw [hv.out]; first | rfl | simp, thn16 PB.out (thn16 HA.out (thn16 (drewN16 _ _) b1))⟩
    ·obtain ⟨j, rfl⟩ : ∃ j, k = j + 1 := ⟨k - 1, by omega⟩
     have hpj : L[j]? = some (L[j]'(by have := HL.out; omega)) := List.getElem?_eq_getElem _
     obtain ⟨⟨s', a'⟩, hpe⟩ : ∃ e, e = L[j]'(by have := HL.out; omega) := ⟨_, rfl⟩
     rw [← hpe] at hpj
     obtain ⟨g', o', hge, d0, d1⟩ := (HR.out _ PB.out) j _ hpj
     injection hge with hge; injection hge with hg1 hg2
     subst hg1 hg2
     simp only at d0
     have jn : (j : Int) < n := by omega
     have j0 : (0 : Int) ≤ j := by omega
     clear hpe d1 hk0
     have kA : (j : Int) + 1 < n := by omega
     have kB : (0 : Int) ≤ (j : Int) + 1 := by omega
     have kC : (0 : Int) < (j : Int) + 1 := by omega
     have wA : IntKind.i64.wrap ((j : Int) + 1 - 1) = j := by rw [IntKind.wrap_i64]; omega
     have wB : IntKind.i64.wrap (j : Int) = j := by rw [IntKind.wrap_i64]; omega
     cases hlp : lt16 s' s with
     | false =>
      have hlp' : Go.Op.bytesLess s'.toList s.toList = false := hlp
      have hv := hid (HB.out _ HKL.out (okAt_p HX.out hpj hlp))
      go_wp2_with fail
      go_quiet (fail)
      go_wp2
      go_ret
      exact ⟨by rw [hv.out]; first | rfl | simp, thn16 PB.out (thn16 HA.out (drewN16 _ _))⟩
     | true =>
      have hlp' : Go.Op.bytesLess s'.toList s.toList = true := hlp
      have hv := hid (HB.out _ HKL.out (okAt_k HX.out hkn))
      go_wp2_with fail
      go_quiet (fail)
      go_wp2_with (first
       | (go_at_call 117
          ((with_reducible refine (HN9.out _).mono ?_); rintro e w1 ⟨rfl, b1⟩)
          have y1 := (b1.cell (p := ⟨V.heap.size, 1, none⟩) (by simp)).trans (show _ = some (Value.int .u32 x) from by first | (simp only [World.cell?_drew, World.cell?_drewN]; exact cell_of_row _ _ _ _ _ (0, 0) (heap_alloc_new V _)) | exact cell_of_row _ _ _ _ _ (0, 0) (heap_alloc_new V _)))
       | (go_at_call 118
          rw [HXE.out]
          ((with_reducible refine (HST.out _ _).mono ?_); rintro e w2 ⟨rfl, rfl⟩)))

      go_ret
      exact ⟨by rw [hv.out]; first | rfl | simp, thn16 PB.out (thn16 HA.out (thn16 (drewN16 _ _) b1))⟩
   | true =>
    have HN9 := hid (HN9.out s)
    rw [hkn] at HN9
    rcases Nat.eq_zero_or_pos k with hk0 | hk0
    ·subst hk0
     simp only [Nat.zero_mul, Nat.add_zero] at c0 c1
     cases hact : actOk a with
     | false =>
      have hv := hid (HB.out _ HKL.out (by rw [okAt_0 HX.out hkn]; exact hact))
      have HST := hid (HST.out a)
      rw [hact] at HST
      go_wp2_with fail
      go_quiet (fail)
      go_wp2_with (first
       | (go_at_call 117
          ((with_reducible refine (HN9.out _).mono ?_); rintro e w1 ⟨rfl, b1⟩)
          have y1 := (b1.cell (p := ⟨V.heap.size, 1, none⟩) (by simp)).trans (show _ = some (Value.int .u32 x) from by first | (simp only [World.cell?_drew, World.cell?_drewN]; exact cell_of_row _ _ _ _ _ (0, 0) (heap_alloc_new V _)) | exact cell_of_row _ _ _ _ _ (0, 0) (heap_alloc_new V _)))
       | (go_at_call 118
          rw [HXE.out]
          ((with_reducible refine (HST.out _).mono ?_); rintro e w2 ⟨rfl, rfl⟩)))

      go_ret
      exact ⟨by rw [hv.out]; first | rfl | simp, thn16 PB.out (thn16 HA.out (thn16 (drewN16 _ _) b1))⟩
     | true =>
      have HN2 := hid (ok_next HN.out (by rw [okAt_0 HX.out hkn]; exact hact))
      have HST := hid (HST.out a)
      rw [hact] at HST
      go_wp2_with fail
      go_quiet (fail)
      go_wp2_with (first
       | (go_at_call 117
          ((with_reducible refine (HN9.out _).mono ?_); rintro e w1 ⟨rfl, b1⟩)
          have y1 := (b1.cell (p := ⟨V.heap.size, 1, none⟩) (by simp)).trans (show _ = some (Value.int .u32 x) from by first | (simp only [World.cell?_drew, World.cell?_drewN]; exact cell_of_row _ _ _ _ _ (0, 0) (heap_alloc_new V _)) | exact cell_of_row _ _ _ _ _ (0, 0) (heap_alloc_new V _)))
       | (go_at_call 118
          rw [HXE.out]
          ((with_reducible refine (HST.out _).mono ?_); rintro e w2 ⟨rfl, rfl⟩)))

      go_roundw
      case rel => exact ⟨0 + 1, by omega, by go_num, HN2, hid (thn16 PB.out (thn16 HA.out (thn16 (drewN16 _ _) b1)))⟩
      case measure => first | (simp [intOf]; done) | (simp [intOf]; omega)
    ·obtain ⟨j, rfl⟩ : ∃ j, k = j + 1 := ⟨k - 1, by omega⟩
     have hpj : L[j]? = some (L[j]'(by have := HL.out; omega)) := List.getElem?_eq_getElem _
     obtain ⟨⟨s', a'⟩, hpe⟩ : ∃ e, e = L[j]'(by have := HL.out; omega) := ⟨_, rfl⟩
     rw [← hpe] at hpj
     obtain ⟨g', o', hge, d0, d1⟩ := (HR.out _ PB.out) j _ hpj
     injection hge with hge; injection hge with hg1 hg2
     subst hg1 hg2
     simp only at d0
     have jn : (j : Int) < n := by omega
     have j0 : (0 : Int) ≤ j := by omega
     clear hpe d1 hk0
     have kA : (j : Int) + 1 < n := by omega
     have kB : (0 : Int) ≤ (j : Int) + 1 := by omega
     have kC : (0 : Int) < (j : Int) + 1 := by omega
     have wA : IntKind.i64.wrap ((j : Int) + 1 - 1) = j := by rw [IntKind.wrap_i64]; omega
     have wB : IntKind.i64.wrap (j : Int) = j := by rw [IntKind.wrap_i64]; omega
     cases hlp : lt16 s' s with
     | false =>
      have hlp' : Go.Op.bytesLess s'.toList s.toList = false := hlp
      have hv := hid (HB.out _ HKL.out (okAt_p HX.out hpj hlp))
      go_wp2_with fail
      go_quiet (fail)
      go_wp2
      go_ret
      exact ⟨by rw [hv.out]; first | rfl | simp, thn16 PB.out (thn16 HA.out (drewN16 _ _))⟩
     | true =>
      have hlp' : Go.Op.bytesLess s'.toList s.toList = true := hlp
      cases hact : actOk a with
      | false =>
       have hv := hid (HB.out _ HKL.out (by rw [okAt_s HX.out hpj hkn hlp]; exact hact))
       have HST := hid (HST.out a)
       rw [hact] at HST
       go_wp2_with fail
       go_quiet (fail)
       go_wp2_with (first
        | (go_at_call 117
           ((with_reducible refine (HN9.out _).mono ?_); rintro e w1 ⟨rfl, b1⟩)
           have y1 := (b1.cell (p := ⟨V.heap.size, 1, none⟩) (by simp)).trans (show _ = some (Value.int .u32 x) from by first | (simp only [World.cell?_drew, World.cell?_drewN]; exact cell_of_row _ _ _ _ _ (0, 0) (heap_alloc_new V _)) | exact cell_of_row _ _ _ _ _ (0, 0) (heap_alloc_new V _)))
        | (go_at_call 118
           rw [HXE.out]
           ((with_reducible refine (HST.out _).mono ?_); rintro e w2 ⟨rfl, rfl⟩)))

       go_ret
       exact ⟨by rw [hv.out]; first | rfl | simp, thn16 PB.out (thn16 HA.out (thn16 (drewN16 _ _) b1))⟩
      | true =>
       have HN2 := hid (ok_next HN.out (by rw [okAt_s HX.out hpj hkn hlp]; exact hact))
       have HST := hid (HST.out a)
       rw [hact] at HST
       go_wp2_with fail
       go_quiet (fail)
       go_wp2_with (first
        | (go_at_call 117
           ((with_reducible refine (HN9.out _).mono ?_); rintro e w1 ⟨rfl, b1⟩)
           have y1 := (b1.cell (p := ⟨V.heap.size, 1, none⟩) (by simp)).trans (show _ = some (Value.int .u32 x) from by first | (simp only [World.cell?_drew, World.cell?_drewN]; exact cell_of_row _ _ _ _ _ (0, 0) (heap_alloc_new V _)) | exact cell_of_row _ _ _ _ _ (0, 0) (heap_alloc_new V _)))
        | (go_at_call 118
           rw [HXE.out]
           ((with_reducible refine (HST.out _).mono ?_); rintro e w2 ⟨rfl, rfl⟩)))

       go_roundw
       case rel => exact ⟨(j + 1) + 1, by omega, by go_num, HN2, hid (thn16 PB.out (thn16 HA.out (thn16 (drewN16 _ _) b1)))⟩
       case measure => first | (simp [intOf]; done) | (simp [intOf]; omega)
  ·obtain rfl : k = n := by omega
   have k1 : ¬ (k : Int) < k := by omega
   have hv := hid (HG.out fun j hj => HN.out j hj)
   go_wp2
   go_ret
   exact ⟨by rw [hv.out]; first | rfl | simp, PB.out⟩
set_option maxHeartbeats 8000000 in
theorem may_c (m : Nat) (q : Option Addr) (n c : Nat) (L : List Cl) (w : World) (hm : m < 256) (hl : n = L.length) (hn : n ≤ 100000) (ha : ∀ e ∈ L, e.2 < 4294967296) (h : LsAt w q L) : Calls Tryz.prog 57 #[lsV m q n c] w fun e w' => e = .returned (.bool (mayR knownR m L)) ∧ Below w.heap.size w w' := by
 unfold lsV
 obtain ⟨mi, hmi⟩ : ∃ x : Int, x = (m : Nat) := ⟨_, rfl⟩
 rw [← hmi]
 have BB := hid (below16 w (.cells #[.int .u8 mi, .slice q n c] 27))
 by_cases h0 : m = 0
 ·have hv : mayR knownR m L = ((n : Int) == 0) := by
   unfold mayR
   rw [h0]
   cases L with
   | nil => rw [hl]; rfl
   | cons x r => rw [show ((n : Int) == 0) = false from beq_eq_false_iff_ne.2 (by rw [hl, List.length_cons]; omega)]; rfl
  have HV := hid hv
  obtain rfl : mi = 0 := by omega
  clear hv h ha hl hm hmi h0
  go_enter Tryz.func57, Tryz.ntmps57
  go_wp2
  go_ret
  exact ⟨by rw [HV.out]; first | rfl | simp, BB.out⟩
 by_cases h3 : m ≤ 2
 ·have hv : mayR knownR m L = (List.range L.length).all (okAt knownR L) := by
   unfold mayR
   rw [decide_eq_true h3, decide_eq_true h0]
   simp
  have HV := hid hv
  have HA := hid (fun (W : World) (b : Below w.heap.size w W) => asc_c q n c L W hl hn ha (h.on b))
  rw [← hv] at HA
  clear hv h ha hl hm
  rcases (show mi = 1 ∨ mi = 2 by omega) with rfl | rfl
  ·clear hmi h0 h3
   go_enter Tryz.func57, Tryz.ntmps57
   go_wp2_with (go_at_call 94; ((with_reducible refine (HA.out _ BB.out).mono ?_); rintro e w1 ⟨rfl, b1⟩))
   go_ret
   exact ⟨rfl, thn16 BB.out b1⟩
  ·clear hmi h0 h3
   go_enter Tryz.func57, Tryz.ntmps57
   go_wp2_with (go_at_call 94; ((with_reducible refine (HA.out _ BB.out).mono ?_); rintro e w1 ⟨rfl, b1⟩))
   go_ret
   exact ⟨rfl, thn16 BB.out b1⟩
 ·have HV := hid (may_head (K := knownR) (m := m) (L := L) (Or.inl h3))
  have e0 : (mi == 0) = false := beq_eq_false_iff_ne.2 (by omega)
  have e1 : (mi == 1) = false := beq_eq_false_iff_ne.2 (by omega)
  have e2 : (mi == 2) = false := beq_eq_false_iff_ne.2 (by omega)
  clear h ha hl hm hmi h0 h3
  go_enter Tryz.func57, Tryz.ntmps57
  go_wp2
  go_ret
  exact ⟨by rw [HV.out]; first | rfl | simp, BB.out⟩
set_option maxHeartbeats 8000000 in
theorem find_l (m : Nat) (q : Option Addr) (n cap : Nat) (L : List Cl) (s : ByteArray) (w : World) (hl : n = L.length) (hn : n ≤ 100000) (h : LsAt w q L) : Calls Tryz.prog 112 #[lsV m q n cap, .string s] w fun e w' =>
 e = .returned (.tuple #[.int .u32 ((findC L s).getD 0 : Nat), .bool (findC L s).isSome]) ∧ Below w.heap.size w w' := by
 unfold lsV
 obtain ⟨mi, hmi⟩ : ∃ x, x = ((m : Nat) : Int) := ⟨_, rfl⟩
 rw [← hmi]
 have HL := hid hl
 have BB := hid (below16 w (.cells #[.int .u8 mi, .slice q n cap] 27))
 have HR := hid (fun (W : World) (b : Below w.heap.size w W) => h.on b)
 have HD := hid (show findC (L.drop 0) s = findC L s by rw [List.drop_zero])
 obtain ⟨r, hr⟩ : ∃ r, r = findC L s := ⟨_, rfl⟩
 rw [← hr] at HD ⊢
 clear h hr hl hmi
 go_enter Tryz.func112, Tryz.ntmps112
 go_wp2
 go_loopw [11] (fun v11 wr => ∃ k : Nat, k ≤ n ∧ v11 = .int .i64 k ∧ Hid (findC (L.drop k) s = r) ∧ Hid (Below w.heap.size w wr)) (fun v11 _ => n - (intOf v11).toNat)
 case atStart => exact ⟨0, by omega, rfl, HD, BB⟩
 case round =>
  obtain ⟨k, hk, rfl, hm, PB⟩ := hrel
  obtain ⟨V, rfl⟩ : ∃ wo : World, wo = wr := ⟨_, rfl⟩
  by_cases hlt : k < n
  ·have hx : L[k]? = some (L[k]'(by rw [← HL.out]; exact hlt)) := List.getElem?_eq_getElem _
   obtain ⟨⟨x, y⟩, he⟩ : ∃ e, e = L[k]'(by rw [← HL.out]; exact hlt) := ⟨_, rfl⟩
   rw [← he] at hx
   obtain ⟨g, o, rfl, c0, c1⟩ := (HR.out _ PB.out) k _ hx
   simp only at c0 c1
   have HA := hid (find_at16 hx s)
   obtain ⟨yi, hyi⟩ : ∃ v, v = ((y : Nat) : Int) := ⟨_, rfl⟩
   have HYI := hid hyi
   rw [← hyi] at c1
   have k1 : (k : Int) < n := by omega
   have k0 : (0 : Int) ≤ k := by omega
   have HB2 := hid (thn16 PB.out (below16 V (.cells #[.string x, .int .u32 yi] 67)))
   clear hx he hyi
   by_cases hs : x = s
   ·subst hs
    have hv := hid (show r = some y by rw [← hm.out, HA.out, if_pos rfl])
    have t1 : (x.toList == x.toList) = true := by simp
    clear HA hm
    go_wp2
    go_ret2
    exact ⟨by rw [hv.out, HYI.out]; rfl, HB2.out⟩
   ·have hv := hid (show findC (L.drop (k + 1)) s = r by rw [← hm.out, HA.out, if_neg hs])
    have hb : (x.toList == s.toList) = false := beq_eq_false_iff_ne.2 (fun e => hs (list_of_bytes10 e))
    clear HA hm hs
    go_wp2
    go_roundw
    case rel => exact ⟨k + 1, by omega, by go_num, hv, HB2⟩
    case measure => first | (simp [intOf]; done) | (simp [intOf]; omega)
  ·obtain rfl : k = n := by omega
   have k1 : ¬ (k : Int) < k := by omega
   have hv := hid (show r = none by rw [← hm.out, List.drop_of_length_le (by rw [← HL.out]; exact Nat.le_refl _)]; rfl)
   go_wp2
   go_ret2
   exact ⟨by rw [hv.out]; rfl, PB.out⟩
set_option maxHeartbeats 8000000 in
theorem warns_c (e : Int) (w : World) : Calls Tryz.prog 30 #[.int .i64 e] w fun r w' => r = .returned (.bool (warnsF e)) ∧ w = w' := by
 unfold warnsF
 by_cases h90 : e = 90
 ·subst h90
  go_enter Tryz.func30, Tryz.ntmps30
  go_wp2
  go_ret
  exact ⟨rfl, rfl⟩
 have e90 : (e == 90) = false := beq_eq_false_iff_ne.2 h90
 rw [e90]
 clear h90
 by_cases h100 : e = 100
 ·subst h100
  go_enter Tryz.func30, Tryz.ntmps30
  go_wp2
  go_ret
  exact ⟨rfl, rfl⟩
 have e100 : (e == 100) = false := beq_eq_false_iff_ne.2 h100
 rw [e100]
 clear h100
 by_cases h110 : e = 110
 ·subst h110
  go_enter Tryz.func30, Tryz.ntmps30
  go_wp2
  go_ret
  exact ⟨rfl, rfl⟩
 have e110 : (e == 110) = false := beq_eq_false_iff_ne.2 h110
 rw [e110]
 clear h110
 by_cases h161 : e = 161
 ·subst h161
  go_enter Tryz.func30, Tryz.ntmps30
  go_wp2
  go_ret
  exact ⟨rfl, rfl⟩
 have e161 : (e == 161) = false := beq_eq_false_iff_ne.2 h161
 rw [e161]
 clear h161
 go_enter Tryz.func30, Tryz.ntmps30
 go_wp2
 go_ret
 exact ⟨rfl, rfl⟩
set_option maxHeartbeats 8000000 in
theorem copied_c (m : Nat) (q : Option Addr) (n c : Nat) (L : List Cl) (w : World) (hl : n = L.length) (hn : n ≤ 100000) (h : LsAt w q L) : Calls Tryz.prog 173 #[lsV m q n c] w fun e w' => NewL2 w w' e m L := by
 unfold NewL2 lsV
 obtain ⟨mi, hmi⟩ : ∃ x : Int, x = (m : Nat) := ⟨_, rfl⟩
 rw [← hmi]
 obtain ⟨W, hW⟩ : ∃ W, W = (w.alloc (.cells #[.int .u8 mi, .slice q n c] 27)).alloc (.cells #[.int .u8 0, .slice none 0 0] 27) := ⟨_, rfl⟩
 have BB := hid (show Below w.heap.size w W from hW ▸ ((Below.refl _ _).alloc (Nat.le_refl _) _).alloc (by rw [World.size_alloc]; omega) _)
 have WSH := hid (show W.heap.size = w.heap.size + 2 by rw [hW, World.size_alloc, World.size_alloc])
 have P0 := show W.heap[w.heap.size]? = some (.cells #[.int .u8 mi, .slice q n c] 27 (0, 0)) by rw [hW, heap_old16]
 have P1 := hid (show W.heap[w.heap.size + 1]? = some (.cells #[.int .u8 0, .slice none 0 0] 27 (0, 0)) by rw [hW, heap_new16])
 have x0 := (cell_of_row W w.heap.size 0 _ _ (0, 0) P0).trans (show _ = some (Value.int .u8 mi) from rfl)
 have x1 := (cell_of_row W w.heap.size 1 _ _ (0, 0) P0).trans (show _ = some (Value.slice q n c) from rfl)
 have KP := hid (fun (w' : World) (b : Below (w.heap.size + 1) W w') => (⟨b, (b.cell (p := ⟨w.heap.size, 0, none⟩) (Nat.lt_succ_self _)).trans x0, (b.cell (p := ⟨w.heap.size, 1, none⟩) (Nat.lt_succ_self _)).trans x1⟩ : Below (w.heap.size + 1) W w' ∧ w'.cell? ⟨w.heap.size, 0, none⟩ = some (.int .u8 mi) ∧ w'.cell? ⟨w.heap.size, 1, none⟩ = some (.slice q n c)))
 have HC := hid (clone_l q n c L W.drew hl hn ((h.on BB.out).on ((Below.refl _ _).drew)))
 have HL := hid hl
 have HWW := hid hW
 have hs1 : w.heap.size + 1 < W.heap.size := by rw [WSH.out]; omega
 clear h hl hmi P0 hW
 go_enter Tryz.func173, Tryz.ntmps173
 go_wp2_with fail
 rw [← HWW.out]
 go_region_held3 (fun w' => Below (w.heap.size + 1) W w' ∧ w'.cell? ⟨w.heap.size, 0, none⟩ = some (.int .u8 mi) ∧ w'.cell? ⟨w.heap.size, 1, none⟩ = some (.slice q n c)) (first | exact KP.out _ ((Below.refl _ _).drew) | exact KP.out _ (B6.out.mono (show w.heap.size + 1 ≤ W.heap.size by omega)) | exact KP.out _ ((((B6.out.mono (show w.heap.size + 1 ≤ W.heap.size by omega)).setCell (p := ⟨w.heap.size + 1, 0, none⟩) (Nat.le_refl _) _).setCell (p := ⟨w.heap.size + 1, 1, none⟩) (Nat.le_refl _) _))) (first
  | (go_at_call 126; ((with_reducible refine (HC.out).mono ?_); rintro e w6 ⟨q6, c6, rfl, o6, b6⟩); have B6 := hid (show Below W.heap.size W w6 from ((Below.refl _ _).drew).trans b6); have O6 := hid o6; have F0 := hid ((B6.out.block (w.heap.size + 1) hs1).trans P1.out); have z0 := (cell_of_row w6 (w.heap.size + 1) 0 _ _ (0, 0) F0.out).trans (show _ = some (Value.int .u8 0) from rfl); have z1 := (cell_of_row w6 (w.heap.size + 1) 1 _ _ (0, 0) F0.out).trans (show _ = some (Value.slice none 0 0) from rfl); have zf0 := frozen_of_row w6 (w.heap.size + 1) 0 _ _ F0.out; have zf1 := frozen_of_row w6 (w.heap.size + 1) 1 _ _ F0.out; clear o6 b6))
 all_goals
  have hret := retL16 F0.out (thn16 BB.out B6.out) (by omega : w.heap.size ≤ w.heap.size + 1) mi q6 n c6
  have OX := hid (owns_low16 (own_box16 F0.out (by decide) O6.out [.int .u8 mi, .slice q6 n c6]) (show w.heap.size ≤ W.drew.heap.size by have := WSH.out; show w.heap.size ≤ W.heap.size; omega))
  have hl : (loadVar 27 ⟨w.heap.size + 1, 0, none⟩).run Tryz.prog ((w6.setCell ⟨w.heap.size + 1, 0, none⟩ (.int .u8 mi)).setCell ⟨w.heap.size + 1, 1, none⟩ (.slice q6 n c6)) = .ok (.agg #[.int .u8 mi, .slice q6 n c6]) ((w6.setCell ⟨w.heap.size + 1, 0, none⟩ (.int .u8 mi)).setCell ⟨w.heap.size + 1, 1, none⟩ (.slice q6 n c6)) := hret.1
  go_wp2_with fail
  (try simp only [Exit.inBlock, Exit.then])
  refine bodyPost_ret (v := .agg #[.int .u8 mi, .slice q6 n c6]) (results_one16 Tryz.results173 ?_ hl) rfl ⟨q6, n, c6, rfl, HL.out, OX.out, hret.2⟩
  rfl
set_option maxRecDepth 100000
open Go.Lib (hid)
open Go.RowKit
set_option linter.unusedVariables false
set_option linter.unusedSimpArgs false
attribute [local go_sem ↓] Go.wp_at_zero Go.wp_at_succ

end Go.Proofs.YtlenjfodjkhpmaaGreatDoor
