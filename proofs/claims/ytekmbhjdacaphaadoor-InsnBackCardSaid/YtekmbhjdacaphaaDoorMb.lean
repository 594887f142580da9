/- The statement InsnBack holds: a program is read from its bytes, and what is read has those bytes. No condition. -/
import Derived.Test.YtekmbhjdacaphaaDoorRows
import Derived.Test.YtekmbhjdacaphaaDoorCards
import Derived.Test.YtekmbhjdacaphaaDoorTie
import Derived.SevenTiedAt
import Derived.Test.YtekmbhjdacaphaaDoorFr
import Derived.Test.YtekmbhjdacaphaaDoorLw
import Derived.Test.YtekmbhjdacaphaaDoorIt
import Derived.Test.YtekmbhjdacaphaaDoorFi
namespace Go.Proofs.YtekmbhjdacaphaaDoor.insnBack
open Go.ChangeShapes Go.WideShapes Go.ChangeAt Go.RowKit
open Go.ChangeMaps (open_string shut_string)
set_option linter.unusedVariables false
attribute [local go_sem ↓] Go.wp_at_zero Go.wp_at_succ

set_option maxRecDepth 100000 in
set_option maxHeartbeats 4000000 in
theorem bad (HC : InsnC) (a0 : Option Addr) (len0 cap0 : Nat) (z0 : List Ins) (a1 : Option Addr) (len1 cap1 : Nat) (z1 : List Int) (w : World) (hG : GW w) (w0 : IsInsns w a0 len0 cap0 z0) (w1 : IsBytes w a1 len1 cap1 z1) (hb0 : ¬ (300 : Int) < len0) (hb1 : ¬ (2400 : Int) < len1) (hn : len1 % 8 ≠ 0) :
    Calls Tryd.prog 4 #[.slice a0 len0 cap0, .slice a1 len1 cap1] w fun e w' => e = .returned (.bool true) ∧ Below w.heap.size w w' := by
  obtain ⟨hz, hok, hfit, hmost, hr, hnil⟩ := w0
  obtain ⟨kz, kB, kfit, kmost, kr, knil⟩ := w1
  have hl0 : len0 ≤ 300 := by omega
  have HA := Lib.hid (fun W hG => awake2_any HC W hG)
  have HZ := Lib.hid hz
  have HO := Lib.hid hok
  have HR := Lib.hid hr
  have KR := Lib.hid kr
  have hm0 : cap0 ≤ maxLen := hmost
  have hm1 : cap1 ≤ maxLen := kmost
  have HP := Lib.hid (fun W h => HC.print_ a0 len0 cap0 z0 W hz hok (by omega) hfit hm0 hnil h)
  have HQ := Lib.hid (fun q d W h1 h2 h3 h4 => HC.parse q (8 * len0) d len0 (progB z0) W (by rw [progB_length, hz]) (progB_byt hok) rfl (by omega) h1 h2 h3 h4)
  have hpp : progI len0 (progB z0) = z0 := by rw [← hz]; exact progI_progB hok
  rw [hpp] at HQ
  have HS := Lib.hid (fun q d W h1 h2 => HC.same a0 q len0 cap0 len0 d z0 z0 W hz hz hok hok (by omega) (by omega) h1 h2)
  have hss : sameI z0 z0 = true := sameI_true rfl
  rw [hss] at HS
  have e8 : (((8 * len0 : Nat) : Int) != 8 * (len0 : Int)) = false := by simp
  clear hz hok hr hnil hpp hss
  have HB := Lib.hid (fun W => HC.parseBad a1 len1 cap1 W hn (by omega))
  have e1 : (((len1 : Int) % 8) != 0) = true := by simp; omega
  have e2 : ¬ (len1 : Int) % 8 = 0 := by omega
  clear HC hn
  go_enter Tryd.func4, Tryd.ntmps4
  go_wp2_with (first
    | (go_at_call 16; (with_reducible refine (HA.out _ hG).mono ?_); rintro e v1 ⟨rfl, b1⟩; have p1 := HR.out.on b1; have k1 := KR.out.on b1; have B1 := b1)
    | (go_at_call 17; (with_reducible refine (HP.out _ p1).mono ?_); rintro e v2 ⟨q2, d2, rfl, o2, b2⟩; have p2 := p1.on b2; have k2 := k1.on b2; have B2 := thn B1 b2; obtain ⟨r2, n2, f2, m2⟩ := own_shape' o2; clear o2 b2 p1 k1)
    | (go_at_call 18; (with_reducible refine (HQ.out _ _ _ f2 m2 n2 r2).mono ?_); rintro e v3 ⟨q3, d3, rfl, o3, b3⟩; have p3 := p2.on b3; have k3 := k2.on b3; have B3 := thn B2 b3; have r3 := (own_shapeI' o3).1; clear o3 b3 p2 k2)
    | (go_at_call 19; (with_reducible refine (HS.out _ _ _ p3 r3).mono ?_); rintro e v4 ⟨rfl, b4⟩; have k4 := k3.on b4; have B4 := thn B3 b4; clear b4 p3 r3 k3)
    | (go_at_call 18; (with_reducible refine (HB.out _).mono ?_); rintro e v5 ⟨rfl, b5⟩))
  go_ret
  exact ⟨rfl, thn B4 b5⟩
set_option maxRecDepth 100000 in
set_option maxHeartbeats 4000000 in
theorem good (HC : InsnC) (a0 : Option Addr) (len0 cap0 : Nat) (z0 : List Ins) (a1 : Option Addr) (len1 cap1 : Nat) (z1 : List Int) (w : World) (hG : GW w) (w0 : IsInsns w a0 len0 cap0 z0) (w1 : IsBytes w a1 len1 cap1 z1) (hb0 : ¬ (300 : Int) < len0) (hb1 : ¬ (2400 : Int) < len1) (N : Nat) (hN : len1 = 8 * N) :
    Calls Tryd.prog 4 #[.slice a0 len0 cap0, .slice a1 len1 cap1] w fun e w' => e = .returned (.bool true) ∧ Below w.heap.size w w' := by
  obtain ⟨hz, hok, hfit, hmost, hr, hnil⟩ := w0
  obtain ⟨kz, kB, kfit, kmost, kr, knil⟩ := w1
  have hl0 : len0 ≤ 300 := by omega
  have HA := Lib.hid (fun W hG => awake2_any HC W hG)
  have HZ := Lib.hid hz
  have HO := Lib.hid hok
  have HR := Lib.hid hr
  have KR := Lib.hid kr
  have hm0 : cap0 ≤ maxLen := hmost
  have hm1 : cap1 ≤ maxLen := kmost
  have HP := Lib.hid (fun W h => HC.print_ a0 len0 cap0 z0 W hz hok (by omega) hfit hm0 hnil h)
  have HQ := Lib.hid (fun q d W h1 h2 h3 h4 => HC.parse q (8 * len0) d len0 (progB z0) W (by rw [progB_length, hz]) (progB_byt hok) rfl (by omega) h1 h2 h3 h4)
  have hpp : progI len0 (progB z0) = z0 := by rw [← hz]; exact progI_progB hok
  rw [hpp] at HQ
  have HS := Lib.hid (fun q d W h1 h2 => HC.same a0 q len0 cap0 len0 d z0 z0 W hz hz hok hok (by omega) (by omega) h1 h2)
  have hss : sameI z0 z0 = true := sameI_true rfl
  rw [hss] at HS
  have e8 : (((8 * len0 : Nat) : Int) != 8 * (len0 : Int)) = false := by simp
  clear hz hok hr hnil hpp hss
  have HB := Lib.hid (fun W h => HC.parse a1 len1 cap1 N z1 W kz kB hN (by omega) kfit hm1 knil h)
  have HP' := Lib.hid (fun q d W h1 h2 h3 h4 => HC.print_ q N d (progI N z1) W (progI_length N z1) (progI_ok N kB) (by omega) h1 h2 h3 h4)
  have hpb : progB (progI N z1) = z1 := progB_progI N kB (by omega)
  rw [hpb] at HP'
  have HW := Lib.hid (fun q d W h1 h2 => Same_any q a1 (8 * N) d len1 cap1 (World.heap W).size (World.heap W).size z1 z1 W (kz.trans hN) kz kB kB h1 h2)
  rw [show sameB z1 z1 = true from sameB_self _] at HW
  clear HC hN hpb
  go_enter Tryd.func4, Tryd.ntmps4
  go_wp2_with (first
    | (go_at_call 16; (with_reducible refine (HA.out _ hG).mono ?_); rintro e v1 ⟨rfl, b1⟩; have p1 := HR.out.on b1; have k1 := KR.out.on b1; have B1 := b1)
    | (go_at_call 17; (with_reducible refine (HP.out _ p1).mono ?_); rintro e v2 ⟨q2, d2, rfl, o2, b2⟩; have p2 := p1.on b2; have k2 := k1.on b2; have B2 := thn B1 b2; obtain ⟨r2, n2, f2, m2⟩ := own_shape' o2; clear o2 b2 p1 k1)
    | (go_at_call 18; (with_reducible refine (HQ.out _ _ _ f2 m2 n2 r2).mono ?_); rintro e v3 ⟨q3, d3, rfl, o3, b3⟩; have p3 := p2.on b3; have k3 := k2.on b3; have B3 := thn B2 b3; have r3 := (own_shapeI' o3).1; clear o3 b3 p2 k2)
    | (go_at_call 19; (with_reducible refine (HS.out _ _ _ p3 r3).mono ?_); rintro e v4 ⟨rfl, b4⟩; have k4 := k3.on b4; have B4 := thn B3 b4; clear b4 p3 r3 k3)
    | (go_at_call 18; (with_reducible refine (HB.out _ k4).mono ?_); rintro e v5 ⟨q5, d5, rfl, o5, b5⟩; have k5 := k4.on b5; have B5 := thn B4 b5; obtain ⟨r5, n5, f5, m5⟩ := own_shapeI' o5; clear o5 b5 k4)
    | (go_at_call 17; (with_reducible refine (HP'.out _ _ _ f5 m5 n5 r5).mono ?_); rintro e v6 ⟨q6, d6, rfl, o6, b6⟩; have k6 := k5.on b6; have B6 := thn B5 b6; have r6 := (own_shape' o6).1; clear o6 b6 k5)
    | (go_at_call 20; (with_reducible refine (HW.out _ _ _ r6 k6).mono ?_); rintro e v7 ⟨rfl, rfl⟩))
  go_ret
  exact ⟨rfl, B6⟩
theorem walk (HC : InsnC) (a0 : Option Addr) (len0 cap0 : Nat) (z0 : List Ins) (a1 : Option Addr) (len1 cap1 : Nat) (z1 : List Int) (w : World) (hG : GW w) (w0 : IsInsns w a0 len0 cap0 z0) (w1 : IsBytes w a1 len1 cap1 z1) :
    Calls Tryd.prog 4 #[.slice a0 len0 cap0, .slice a1 len1 cap1] w fun e w' => e = .returned (.bool true) ∧ Below w.heap.size w w' := by
  by_cases h : (300 : Int) < len0 ∨ (2400 : Int) < len1
  · have HA := Lib.hid (fun W hG => awake2_any HC W hG)
    clear HC w0 w1
    by_cases h0 : (300 : Int) < len0
    · go_enter Tryd.func4, Tryd.ntmps4
      go_wp2_with (go_at_call 16; ((with_reducible refine (HA.out _ hG).mono ?_); rintro e v1 ⟨rfl, b1⟩))
      go_ret
      exact ⟨rfl, b1⟩
    · have h1 : (2400 : Int) < len1 := by omega
      go_enter Tryd.func4, Tryd.ntmps4
      go_wp2_with (go_at_call 16; ((with_reducible refine (HA.out _ hG).mono ?_); rintro e v1 ⟨rfl, b1⟩))
      go_ret
      exact ⟨rfl, b1⟩
  · by_cases hn : len1 % 8 = 0
    · exact good HC a0 len0 cap0 z0 a1 len1 cap1 z1 w hG w0 w1 (by omega) (by omega) (len1 / 8) (by omega)
    · exact bad HC a0 len0 cap0 z0 a1 len1 cap1 z1 w hG w0 w1 (by omega) (by omega) hn

set_option maxRecDepth 100000 in
theorem lifted (HC : InsnC) (os : Os) (started : os.Started) (H : Type) (enc : TypeId × Value → H) :
    ReturnsInHanded {} Tryd.checked os 4 .any (fun w args => (Rows.insnBackSpec.pre enc Tryd.prog Tryd.f4 [] false w args ∧ laidMetH Tryd.prog listed w) ∧ sizedMet enc Tryd.prog Tryd.f4 (OpenSpec.ofChange Rows.insnBackSpec) false w args)
      (Rows.insnBackSpec.post enc Tryd.prog Tryd.f4 false true false false) := by
  refine returnsInHanded_of_change_and (C := Tryd.checked) (X := fun w _ => laidMetH Tryd.prog listed w) (fun _ _ _ hh h => h.of_heap hh) ownKnob_none started (by kernel_rfl) Tryd.func4
    (ChangeSpec.witness_shaped (enc := enc) (C := Tryd.checked) (os := os) (X := fun w _ => laidMetH Tryd.prog listed w) false (World.doorLaid Tryd.prog 400 os) #[.slice none 0 0, .slice none 0 0] 8 rfl (World.shaped_of_RefB (by kernel_rfl) (by kernel_rfl)) (by kernel_rfl) (by kernel_rfl) (by kernel_rfl) (door_met os _)) ?_
  intro W base args ds gs before hval0 hW _ _ hL _
  have hG : GW W := of_laid hL
  have hval : ∀ (j : Nat) t v, Tryd.f4.params[j]? = some t → args[j]? = some v → Value.okWide Tryd.prog W .any base t v := hval0
  have hW' := hW
  obtain ⟨p, q, hA0, hV, rfl, hfz, hnd⟩ := hW
  have hA : DataW.TrodAll enc Tryd.prog W 0 (fun _ => true) true Tryd.f4.params.toList args.toList ds p := hA0
  rw [Tryd.params4] at hA hval
  obtain ⟨v0, vs0, d0, ds0, p0, q0, hargs, rfl, rfl, h0, r0⟩ := trodAll_cons hA
  obtain ⟨v1, vs1, d1, ds1, p1, q1, rfl, rfl, rfl, h1, r1⟩ := trodAll_cons r0
  obtain ⟨rfl, rfl, rfl⟩ := trodAll_nil r1
  obtain rfl : args = #[v0, v1] := by cases args; simp_all
  obtain ⟨rfl, rfl⟩ := trodVars_none hV
  obtain ⟨a0, len0, cap0, rfl⟩ := okWide_slice Tryd.underlying33 (hval 0 33 v0 rfl rfl)
  have k0 := h0
  have lt0 : ∀ x ∈ p0, x.block < W.heap.size := by obtain ⟨m, hm⟩ := k0; exact DataW.trod_lt m _ _ _ hm
  obtain ⟨z0, w0⟩ := insns_open h0 lt0
  obtain ⟨a1, len1, cap1, rfl⟩ := okWide_slice Tryd.underlying34 (hval 1 34 v1 rfl rfl)
  have k1 := h1
  have lt1 : ∀ x ∈ p1, x.block < W.heap.size := by obtain ⟨m, hm⟩ := k1; exact DataW.trod_lt m _ _ _ hm
  obtain ⟨z1, w1⟩ := bytes_open h1 lt1
  clear hA0 hval0
  refine (walk HC a0 len0 cap0 z0 a1 len1 cap1 z1 W hG w0 w1).mono fun e W' ⟨he, bel⟩ => ?_
  subst he
  exact ⟨_, rfl, _, _, _, [], _, [], hW', trodAll_mk1 (shut_bool Tryd.underlying4 _), (trodAll_cons_mk (Below.trod laidOut (by kernel_rfl) (of_decide_eq_true (by kernel_rfl)) k0 bel lt0) (trodAll_cons_mk (Below.trod laidOut (by kernel_rfl) (of_decide_eq_true (by kernel_rfl)) k1 bel lt1) trodAll_mk0)), rfl, bel.frame _, fun h => by cases h⟩

theorem over (HC : InsnC) : Rows.insnBackRow.holds Tryd.pinned (OpenSpec.ofChange Rows.insnBackSpec) :=
  OpenClaim.holds_of_wide 4 Tryd.f4 rfl rfl rfl rfl rfl rfl rfl ⟨rfl, rfl, rfl, rfl, rfl⟩ rfl rfl rfl rfl rfl (by kernel_rfl) Tryd.func4 (by kernel_rfl)
    (of_decide_eq_true (by kernel_rfl)) (by unfold Func.isWrapper; first | (rw [if_pos (by decide +kernel)]; kernel_rfl) | (rw [if_neg (by decide +kernel)]; exact ⟨rfl, rfl⟩))
    (fun os started H enc _ => lifted HC os started H enc)

/-- The row's statement. -/
theorem row_holds : Rows.InsnBackSaid := over insnC
/-- The statement: the row, its table tied to the program's text. -/
theorem proved : Rows.InsnBackCardSaid :=
  Claim7.holds_tied_plain_at .later [] [.data] true Rows.insnBackCard.stood.harness Rows.insnBackCard.stood.looks
    row_holds (fun _ h => by cases h) (by kernel_rfl) (fun _ h => by cases h) insnBack_row_tie rfl ⟨rfl, rfl⟩ (by kernel_rfl) rfl
    (fun f fn hf hfn => by
      obtain rfl : f = 4 := Option.some.inj ((show Tryd.prog.funcNamed "vestibule/vestibulelaw02.InsnBack" = some 4 by kernel_rfl).symm.trans hf) |>.symm
      obtain rfl : fn = Tryd.f4 := (Option.some.inj (Tryd.func4.symm.trans hfn)).symm
      exact ⟨by kernel_rfl, fun j t ht => by
        have hm : t ∈ Tryd.f4.params.toList := by simpa using Array.mem_of_getElem? ht
        have hall : (Tryd.f4.params.toList.all fun u => !Tryd.prog.wantsStandIn u) = true := by kernel_rfl
        exact (show Tryd.prog.wantsStandIn t = false by simpa using List.all_eq_true.1 hall t hm)⟩)
    (by kernel_rfl)
#print axioms proved

end Go.Proofs.YtekmbhjdacaphaaDoor.insnBack
