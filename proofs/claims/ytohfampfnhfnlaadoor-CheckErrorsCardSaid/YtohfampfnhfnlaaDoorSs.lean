/- The statement CheckErrors holds, over what the calls have to return: what a run comes to as an error was wrong with the program, and a load of a cell that isn't written is told, too. -/
import Derived.Test.YtohfampfnhfnlaaDoorRows
import Derived.Test.YtohfampfnhfnlaaDoorCards
import Derived.Test.YtohfampfnhfnlaaDoorTie
import Derived.SevenTiedAt
import Derived.Test.YtohfampfnhfnlaaDoorWd
import Derived.Test.YtohfampfnhfnlaaDoorLw
import Derived.Test.YtohfampfnhfnlaaDoorUc
import Derived.Test.YtohfampfnhfnlaaDoorSa
import Derived.Test.YtohfampfnhfnlaaDoorId
import Derived.Deep.RegionHeld3
import Derived.BigQuiet
import Derived.Deep.QuietTactic
import Derived.Test.YtohfampfnhfnlaaDoorSo
import Derived.Test.YtohfampfnhfnlaaDoorFi
import Derived.Test.YtohfampfnhfnlaaDoorVh
import Derived.Test.YtohfampfnhfnlaaDoorNp
import Derived.Test.YtohfampfnhfnlaaDoorDd
import Derived.Test.YtohfampfnhfnlaaDoorOf
import Derived.Laws.BitsAllLaws
import Derived.Laws.Shifts
namespace Go.Proofs.YtohfampfnhfnlaaDoor.checkErrors
open Go.ChangeShapes Go.WideShapes Go.ChangeAt Go.RowKit
open Go.ChangeMaps (open_string shut_string)
set_option linter.unusedVariables false
attribute [local go_sem ↓] Go.wp_at_zero Go.wp_at_succ
theorem way_ge {p : List Ins} {l : List Nat} (h : Way p l) : ∀ i, i < l.length → i ≤ l.getD i 0
  | 0, _ => Nat.zero_le _
  | i + 1, hi => by
    have h1 := way_ge h i (by omega)
    have h2 := (nextL_lt (way_next h hi)).1
    omega
theorem way_len {p : List Ins} {l : List Nat} (h : Way p l) : l.length ≤ p.length := by
  by_cases h0 : l.length = 0
  · omega
  · have h1 := way_ge h (l.length - 1) (by omega)
    have h2 := way_lt h (i := l.length - 1) (by omega)
    omega
theorem addBit_at {p : List Ins} {s x : Nat} {y : Ins} (h : p[x]? = some y) : addBit p s x = if ((y.c == 2 || y.c == 3) && decide (y.k < 16)) = true then s ||| 2 ^ y.k.toNat else s := by
  unfold addBit; rw [h]
theorem tb (w k : Nat) : ((w : Int) / 2 ^ k % 2 == 0) = !w.testBit k := by
  have e : (w : Int) / 2 ^ k % 2 = ((w / 2 ^ k % 2 : Nat) : Int) := by simp
  rw [e, Nat.testBit_eq_decide_div_mod_eq]
  rcases Nat.mod_two_eq_zero_or_one (w / 2 ^ k) with h | h <;> rw [h] <;> rfl
theorem one_shl32 {c : Nat} (hc : c < 16) : IntKind.u32.wrap (2 ^ c) = (((2 : Nat) ^ c : Nat) : Int) := by
  have h1 : (2 : Nat) ^ c < 65536 := by
    have : (2 : Nat) ^ c ≤ 2 ^ 15 := Nat.pow_le_pow_right (by decide) (by omega)
    omega
  have e : (2 : Int) ^ c = (((2 : Nat) ^ c : Nat) : Int) := by simp
  rw [e, IntKind.wrap_u32]
  generalize (2 : Nat) ^ c = y at h1
  omega
set_option maxRecDepth 100000 in
set_option maxHeartbeats 32000000 in
theorem walk {G : World → Prop} (HC : CheckC G) (HR : VmC G) (a0 : Option Addr) (len0 cap0 : Nat) (z0 : List Ins) (a1 : Dat) (w : World) (hG : G w) (w0 : IsInsns w a0 len0 cap0 z0) (w1 : a1.Ok) :
    Calls Tryd.prog 7 #[.slice a0 len0 cap0, datV a1] w fun e w' => e = .returned (.bool true) ∧ Below w.heap.size w w' := by
  have bx := BoxD.new w a1
  have HB0 := Lib.hid (show Below w.heap.size w (w.alloc (.cells (datC a1) 43)) from (Below.refl _ _).alloc (Nat.le_refl _) _)
  have hG1 := HC.al hG (.cells (datC a1) 43)
  have HA := Lib.hid (awake6_any HC (w.alloc (.cells (datC a1) 43)) hG1)
  have HX := Lib.hid bx
  have hmono : w.heap.size ≤ (w.alloc (.cells (datC a1) 43)).heap.size := by rw [World.size_alloc]; omega
  by_cases hbig : (300 : Int) < len0
  · clear HC HR hG w0 w1 bx hG1
    unfold datV datC at *
    go_enter Tryd.func7, Tryd.ntmps7
    go_wp2_with (go_at_call 17; ((with_reducible refine (HA.out).mono ?_); rintro e v1 ⟨rfl, b1⟩))
    go_ret
    exact ⟨rfl, HB0.out.trans (b1.mono (by simp))⟩
  have HON := Lib.hid (fun (w w' : World) => HC.on (w := w) (w' := w'))
  have HG1 := Lib.hid hG1
  have HCK := Lib.hid (fun (W : World) (g : G W) (h : RdI W W.heap.size a0 z0) => HC.check_ a0 len0 cap0 z0 W g w0.size w0.ok w0.fits w0.most w0.nil h)
  have HRN := Lib.hid (fun (W : World) (g : G W) (h : RdI W W.heap.size a0 z0) => HR.run a0 len0 cap0 z0 a1 W g w0.size (by omega) w0.ok w1 w0.fits w0.most w0.nil h)
  have HTR := Lib.hid (fun (W : World) (g : G W) (h : RdI W W.heap.size a0 z0) => HR.trace a0 len0 cap0 z0 a1 W g w0.size (by omega) w0.ok w1 w0.fits w0.most w0.nil h)
  have HH := Lib.hid (fun h => (runL_halts w0.ok a1 h).1)
  have HW := Lib.hid (runL_way w0.ok a1)
  have HRS := Lib.hid (fun (h : (atL z0).2 = 0) (i : Nat) (hi : i < (runL z0 a1).pl.length) (y : Ins) (hy : z0[(runL z0 a1).pl.getD i 0]? = some y) (hc : y.c = 96 ∨ y.c = 97) (hk : y.k < 16) => read_set w0.ok (runL_way w0.ok a1) h hi hy hc hk)
  obtain ⟨y, hy⟩ : ∃ y, y = (atL z0).2 := ⟨_, rfl⟩
  obtain ⟨r, hr⟩ : ∃ r, r = runL z0 a1 := ⟨_, rfl⟩
  rw [← hy] at HCK HH HRS
  rw [← hr] at HRN HTR HH HW HRS
  have R0 := Lib.hid (w0.rd.on HB0.out)
  have HL := Lib.hid w0.size
  have HOK := Lib.hid w0.ok
  have e1 : (len0 : Int) ≤ 300 := by omega
  clear HC HR hG w0 w1 bx hG1 hy hr
  obtain ⟨ans, steps, pl, err⟩ := r
  unfold RunV at HRN
  unfold TraceV at HTR
  simp only at HRN HTR HH HW HRS
  obtain ⟨m, hm⟩ : ∃ m, m = pl.length := ⟨_, rfl⟩
  rw [← hm] at HTR
  have HM := Lib.hid hm
  have m1 : (m : Int) ≤ 300 := by
    have h := way_len HW.out
    rw [HL.out, ← HM.out] at h
    omega
  clear hm
  unfold datV at HRN HTR ⊢
  unfold datC at HRN HTR HB0 HG1 HA HX R0 hmono ⊢
  go_enter Tryd.func7, Tryd.ntmps7
  go_wp2_with (first
    | (go_at_call 17; ((with_reducible refine (HA.out).mono ?_); rintro e v1 ⟨rfl, b1⟩); have G1 := HON.out _ _ HG1.out b1; have R1 := R0.out.on b1; have B1 := HB0.out.trans (b1.mono hmono); have X1 := BoxD.on (d := a1) HX.out b1; obtain ⟨x0, x1, x2, x3, x4, x5, x6, x7, x8⟩ := X1.cells)
    | (go_at_call 18; ((with_reducible refine (HRN.out _ G1 R1).mono ?_); rintro e v2 ⟨rfl, b2⟩); have G2 := HON.out _ _ G1 b2; have R2 := R1.on b2; have B2 := thn B1 b2; have X2 := X1.on b2; clear x0 x1 x2 x3 x4 x5 x6 x7 x8; obtain ⟨z0', z1', z2', z3', z4', z5', z6', z7', z8'⟩ := X2.cells)
    | (go_at_call 19; ((with_reducible refine (HTR.out _ G2 R2).mono ?_); rintro e v3 ⟨q3, c3, rfl, o3, b3⟩); have G3 := Lib.hid (HON.out _ _ G2 b3); have R3 := Lib.hid (R2.on b3); have B3 := Lib.hid (thn B2 b3); have O3 := Lib.hid o3; clear z0' z1' z2' z3' z4' z5' z6' z7' z8' G1 R1 B1 X1 b1 G2 R2 B2 X2 b2 o3 b3))
  clear HX HA HB0 R0 HRN HTR hmono
  go_loopw [9, 10, 11] (fun v9 v10 v11 wr => ∃ (i : Nat) (u : Bool), i ≤ m ∧ v11 = .int .i64 i ∧ v10 = .bool u ∧ v9 = .int .u32 ((wrote z0 pl i : Nat) : Int) ∧ Hid (y = 0 → u = false) ∧ Hid (Below v3.heap.size v3 wr)) (fun _ _ v11 _ => m - (intOf v11).toNat)
  case atStart => exact ⟨0, false, Nat.zero_le _, rfl, rfl, rfl, Lib.hid (fun _ => rfl), Lib.hid (Below.refl _ _)⟩
  case round =>
    obtain ⟨i, u, hi, rfl, rfl, rfl, HU, HB⟩ := hrel
    obtain ⟨W, rfl⟩ : ∃ wo : World, wo = wr := ⟨_, rfl⟩
    by_cases hlt : i < m
    · have hil : i < pl.length := by rw [← HM.out]; exact hlt
      have hxl := way_lt HW.out hil
      rw [HL.out] at hxl
      have HWL := Lib.hid (wrote_lt z0 pl i)
      have HWS := Lib.hid (show wrote z0 pl (i + 1) = addBit z0 (wrote z0 pl i) (pl.getD i 0) from rfl)
      have h4 := own_on O3.out HB.out
      rw [HM.out] at h4
      obtain ⟨g4, hq4, hg4, hc4⟩ := pl_cells' h4 (by omega)
      subst hq4
      have c4 := hc4 i hil
      have HRI := Lib.hid (fun h y hy hc hk => HRS.out h i hil y hy hc hk)
      obtain ⟨x, hx⟩ : ∃ x, x = pl.getD i 0 := ⟨_, rfl⟩
      rw [← hx] at c4 hxl HWS HRI
      have hkl : x < z0.length := by rw [HL.out]; exact hxl
      obtain ⟨b, o, rfl, hb, hcs⟩ := R3.out (by omega)
      have hat := hcs x hkl
      have hyo := HOK.out.get hkl
      have hyx : z0[x]? = some z0[x] := List.getElem?_eq_getElem hkl
      obtain ⟨Y, hY⟩ : ∃ Y, Y = z0[x] := ⟨_, rfl⟩
      rw [← hY] at hat hyo hyx
      have HNEW := Lib.hid (HWS.out.trans (addBit_at hyx))
      have HRY := Lib.hid (fun h hc hk => HRI.out h Y hyx hc hk)
      have k0 : 0 ≤ Y.k := hyo.k0
      obtain ⟨q0, q1, q2, q3⟩ := hat.keep (w' := W) fun q hq => HB.out.cell (by omega)
      obtain ⟨c, jt, jf, kk⟩ := Y
      simp only at q0 q1 q2 q3 k0
      obtain ⟨kn, rfl⟩ := Int.eq_ofNat_of_zero_le k0
      simp only [Int.toNat_natCast] at HNEW HRY
      obtain ⟨wv, hwv⟩ : ∃ s, s = wrote z0 pl i := ⟨_, rfl⟩
      rw [← hwv] at HNEW HRY HWL ⊢
      have x1 : (x : Int) < len0 := by omega
      have x0 : (0 : Int) ≤ x := by omega
      have i1 : (i : Int) < m := by omega
      have i0 : (0 : Int) ≤ i := by omega
      have HQ := Lib.hid (HB.out.alloc HB.out.size (.cells #[.int .u16 c, .int .u8 jt, .int .u8 jf, .int .u32 (kn : Int)] 35))
      have wl : (wv : Int) < 65536 := by have := HWL.out; omega
      have wl0 : (0 : Int) ≤ wv := by omega
      clear hil h4 hg4 hc4 hx hkl hb hcs hat hyx hY hyo k0 hwv HWS HRI HB
      by_cases h96 : c = 96
      · subst h96
        have hnew := HNEW.out
        rw [show ((((96 : Int) == 2) || ((96 : Int) == 3)) && decide ((kn : Int) < 16)) = false from rfl, if_neg Bool.false_ne_true] at hnew
        have HN2 := Lib.hid hnew
        by_cases hk : kn < 16
        · have hk1 : (kn : Int) < 16 := by omega
          have hk2 : decide ((kn : Int) < 16) = true := decide_eq_true hk1
          have hk3 : ¬ (16 : Int) ≤ kn := by omega
          have hb := tb wv kn
          obtain ⟨z, hz⟩ : ∃ z, z = (wv : Int) / 2 ^ kn := ⟨_, rfl⟩
          have z0' : 0 ≤ z := by rw [hz]; exact Int.ediv_nonneg (by omega) (Int.pow_nonneg (by decide))
          have z1' : z < 65536 := by rw [hz]; exact Int.lt_of_le_of_lt (Int.ediv_le_self _ (by omega)) (by omega)
          have z2' : z < 4294967296 := by omega
          rw [← hz] at hb
          have hz' : (wv : Int) / 2 ^ kn = z := hz.symm
          have HR2 := Lib.hid (fun h => HRY.out h (Or.inl rfl) hk1)
          clear hz HRY HNEW hnew wl wl0
          cases ht : wv.testBit kn with
          | true =>
            rw [ht] at hb
            have zb : (z % 2 == 0) = false := hb
            have zc : ¬ z % 2 = 0 := beq_eq_false_iff_ne.1 hb
            clear hb HR2 ht
            go_wp2_with fail
            go_roundw
            case rel => exact ⟨i + 1, u, by omega, by go_num, rfl, by rw [HN2.out], HU, HQ⟩
            case measure => simp [intOf]; omega
          | false =>
            rw [ht] at hb HR2
            have zb : (z % 2 == 0) = true := hb
            have zc : z % 2 = 0 := beq_iff_eq.1 hb
            clear hb ht
            go_wp2_with fail
            go_roundw
            case rel => exact ⟨i + 1, true, by omega, by go_num, rfl, by rw [HN2.out], Lib.hid (fun h => absurd (HR2.out h) (by decide)), HQ⟩
            case measure => simp [intOf]; omega
        · have hk1 : ¬ (kn : Int) < 16 := by omega
          have hk2 : decide ((kn : Int) < 16) = false := decide_eq_false hk1
          have hk4 : (16 : Int) ≤ kn := by omega
          clear HRY HNEW hnew wl wl0
          go_wp2_with fail
          go_roundw
          case rel => exact ⟨i + 1, u, by omega, by go_num, rfl, by rw [HN2.out], HU, HQ⟩
          case measure => simp [intOf]; omega
      by_cases h97 : c = 97
      · subst h97
        have hnew := HNEW.out
        rw [show ((((97 : Int) == 2) || ((97 : Int) == 3)) && decide ((kn : Int) < 16)) = false from rfl, if_neg Bool.false_ne_true] at hnew
        have HN2 := Lib.hid hnew
        by_cases hk : kn < 16
        · have hk1 : (kn : Int) < 16 := by omega
          have hk2 : decide ((kn : Int) < 16) = true := decide_eq_true hk1
          have hk3 : ¬ (16 : Int) ≤ kn := by omega
          have hb := tb wv kn
          obtain ⟨z, hz⟩ : ∃ z, z = (wv : Int) / 2 ^ kn := ⟨_, rfl⟩
          have z0' : 0 ≤ z := by rw [hz]; exact Int.ediv_nonneg (by omega) (Int.pow_nonneg (by decide))
          have z1' : z < 65536 := by rw [hz]; exact Int.lt_of_le_of_lt (Int.ediv_le_self _ (by omega)) (by omega)
          have z2' : z < 4294967296 := by omega
          rw [← hz] at hb
          have hz' : (wv : Int) / 2 ^ kn = z := hz.symm
          have HR2 := Lib.hid (fun h => HRY.out h (Or.inr rfl) hk1)
          clear hz HRY HNEW hnew wl wl0
          cases ht : wv.testBit kn with
          | true =>
            rw [ht] at hb
            have zb : (z % 2 == 0) = false := hb
            have zc : ¬ z % 2 = 0 := beq_eq_false_iff_ne.1 hb
            clear hb HR2 ht
            go_wp2_with fail
            go_roundw
            case rel => exact ⟨i + 1, u, by omega, by go_num, rfl, by rw [HN2.out], HU, HQ⟩
            case measure => simp [intOf]; omega
          | false =>
            rw [ht] at hb HR2
            have zb : (z % 2 == 0) = true := hb
            have zc : z % 2 = 0 := beq_iff_eq.1 hb
            clear hb ht
            go_wp2_with fail
            go_roundw
            case rel => exact ⟨i + 1, true, by omega, by go_num, rfl, by rw [HN2.out], Lib.hid (fun h => absurd (HR2.out h) (by decide)), HQ⟩
            case measure => simp [intOf]; omega
        · have hk1 : ¬ (kn : Int) < 16 := by omega
          have hk2 : decide ((kn : Int) < 16) = false := decide_eq_false hk1
          have hk4 : (16 : Int) ≤ kn := by omega
          clear HRY HNEW hnew wl wl0
          go_wp2_with fail
          go_roundw
          case rel => exact ⟨i + 1, u, by omega, by go_num, rfl, by rw [HN2.out], HU, HQ⟩
          case measure => simp [intOf]; omega
      have f96 : (c == 96) = false := beq_eq_false_iff_ne.2 h96
      have f97 : (c == 97) = false := beq_eq_false_iff_ne.2 h97
      clear HRY wl wl0
      by_cases h2 : c = 2
      · subst h2
        by_cases hk : kn < 16
        · have hk1 : (kn : Int) < 16 := by omega
          have hk2 : decide ((kn : Int) < 16) = true := decide_eq_true hk1
          have hk3 : ¬ (16 : Int) ≤ kn := by omega
          have hnew := HNEW.out
          rw [show ((((2 : Int) == 2) || ((2 : Int) == 3)) && decide ((kn : Int) < 16)) = true from by rw [hk2]; rfl, if_pos rfl] at hnew
          have HN2 := Lib.hid hnew
          have hsh := one_shl32 hk
          have hpl : 2 ^ kn < 4294967296 := by
            have : (2 : Nat) ^ kn ≤ 2 ^ 15 := Nat.pow_le_pow_right (by decide) (by omega)
            omega
          obtain ⟨pw, hpw⟩ : ∃ s : Nat, s = 2 ^ kn := ⟨_, rfl⟩
          have hor := u32_or_nat wv (2 ^ kn) (by have := HWL.out; omega) hpl
          rw [← hpw] at hsh hor
          have HPW := Lib.hid hpw
          clear hnew HNEW hpl hpw f96 f97
          go_wp2_with fail
          go_roundw
          case rel => exact ⟨i + 1, u, by omega, by go_num, rfl, by rw [HN2.out, HPW.out], HU, HQ⟩
          case measure => simp [intOf]; omega
        · have hk1 : ¬ (kn : Int) < 16 := by omega
          have hk2 : decide ((kn : Int) < 16) = false := decide_eq_false hk1
          have hk4 : (16 : Int) ≤ kn := by omega
          have hnew := HNEW.out
          rw [hk2, Bool.and_false, if_neg Bool.false_ne_true] at hnew
          have HN2 := Lib.hid hnew
          clear hnew HNEW f96 f97
          go_wp2_with fail
          go_roundw
          case rel => exact ⟨i + 1, u, by omega, by go_num, rfl, by rw [HN2.out], HU, HQ⟩
          case measure => simp [intOf]; omega
      by_cases h3 : c = 3
      · subst h3
        by_cases hk : kn < 16
        · have hk1 : (kn : Int) < 16 := by omega
          have hk2 : decide ((kn : Int) < 16) = true := decide_eq_true hk1
          have hk3 : ¬ (16 : Int) ≤ kn := by omega
          have hnew := HNEW.out
          rw [show ((((3 : Int) == 2) || ((3 : Int) == 3)) && decide ((kn : Int) < 16)) = true from by rw [hk2]; rfl, if_pos rfl] at hnew
          have HN2 := Lib.hid hnew
          have hsh := one_shl32 hk
          have hpl : 2 ^ kn < 4294967296 := by
            have : (2 : Nat) ^ kn ≤ 2 ^ 15 := Nat.pow_le_pow_right (by decide) (by omega)
            omega
          obtain ⟨pw, hpw⟩ : ∃ s : Nat, s = 2 ^ kn := ⟨_, rfl⟩
          have hor := u32_or_nat wv (2 ^ kn) (by have := HWL.out; omega) hpl
          rw [← hpw] at hsh hor
          have HPW := Lib.hid hpw
          clear hnew HNEW hpl hpw f96 f97
          go_wp2_with fail
          go_roundw
          case rel => exact ⟨i + 1, u, by omega, by go_num, rfl, by rw [HN2.out, HPW.out], HU, HQ⟩
          case measure => simp [intOf]; omega
        · have hk1 : ¬ (kn : Int) < 16 := by omega
          have hk2 : decide ((kn : Int) < 16) = false := decide_eq_false hk1
          have hk4 : (16 : Int) ≤ kn := by omega
          have hnew := HNEW.out
          rw [hk2, Bool.and_false, if_neg Bool.false_ne_true] at hnew
          have HN2 := Lib.hid hnew
          clear hnew HNEW f96 f97
          go_wp2_with fail
          go_roundw
          case rel => exact ⟨i + 1, u, by omega, by go_num, rfl, by rw [HN2.out], HU, HQ⟩
          case measure => simp [intOf]; omega
      have f2 : (c == 2) = false := beq_eq_false_iff_ne.2 h2
      have f3 : (c == 3) = false := beq_eq_false_iff_ne.2 h3
      have hnew := HNEW.out
      rw [f2, f3, Bool.or_false, Bool.false_and, if_neg Bool.false_ne_true] at hnew
      have HN2 := Lib.hid hnew
      clear hnew HNEW h96 h97 h2 h3
      go_wp2_with fail
      go_roundw
      case rel => exact ⟨i + 1, u, by omega, by go_num, rfl, by rw [HN2.out], HU, HQ⟩
      case measure => simp [intOf]; omega
    · obtain rfl : i = m := by omega
      by_cases hy0 : y = 0
      · obtain rfl := HU.out hy0
        obtain rfl := HH.out hy0
        go_wp2_with fail
        go_ret
        exact ⟨rfl, thn B3.out HB.out⟩
      · have t1 : (y != 0) = true := by simp [hy0]
        have HC1 := Lib.hid (HCK.out W (HON.out _ _ G3.out HB.out) (R3.out.on HB.out))
        by_cases he : err = 0
        · subst he
          cases u with
          | false =>
            go_wp2_with fail
            go_ret
            exact ⟨rfl, thn B3.out HB.out⟩
          | true =>
            go_wp2_with (go_at_call 13; ((with_reducible refine (HC1.out).mono ?_); rintro e v5 ⟨rfl, b5⟩))
            go_ret
            exact ⟨by simp, thn (thn B3.out HB.out) b5⟩
        · have te : (err == 0) = false := beq_eq_false_iff_ne.2 he
          go_wp2_with (go_at_call 13; ((with_reducible refine (HC1.out).mono ?_); rintro e v5 ⟨rfl, b5⟩))
          go_ret
          exact ⟨by simp, thn (thn B3.out HB.out) b5⟩

set_option maxRecDepth 100000 in
theorem lifted (HC : CheckC GW) (HR : VmC GW) (os : Os) (started : os.Started) (H : Type) (enc : TypeId × Value → H) :
    ReturnsInHanded {} Tryd.checked os 7 .any (fun w args => (Rows.checkErrorsSpec.pre enc Tryd.prog Tryd.f7 [] false w args ∧ laidMetH Tryd.prog listed w) ∧ sizedMet enc Tryd.prog Tryd.f7 (OpenSpec.ofChange Rows.checkErrorsSpec) false w args)
      (Rows.checkErrorsSpec.post enc Tryd.prog Tryd.f7 false true false false) := by
  refine returnsInHanded_of_change_and (C := Tryd.checked) (X := fun w _ => laidMetH Tryd.prog listed w) (fun _ _ _ hh h => h.of_heap hh) ownKnob_none started (by kernel_rfl) Tryd.func7
    (ChangeSpec.witness_shaped (enc := enc) (C := Tryd.checked) (os := os) (X := fun w _ => laidMetH Tryd.prog listed w) false (World.doorLaid Tryd.prog 400 os) #[.slice none 0 0, .agg #[.int .u32 0, .int .u32 0, .int .u64 0, .int .u64 0, .int .u64 0, .int .u64 0, .int .u64 0, .int .u64 0, .int .u64 0]] 8 rfl (World.shaped_of_RefB (by kernel_rfl) (by kernel_rfl)) (by kernel_rfl) (by kernel_rfl) (by kernel_rfl) (door_met os _)) ?_
  intro W base args ds gs before hval0 hW _ _ hL _
  have hG : GW W := of_laid hL
  have hval : ∀ (j : Nat) t v, Tryd.f7.params[j]? = some t → args[j]? = some v → Value.okWide Tryd.prog W .any base t v := hval0
  have hW' := hW
  obtain ⟨p, q, hA0, hV, rfl, hfz, hnd⟩ := hW
  have hA : DataW.TrodAll enc Tryd.prog W 0 (fun _ => true) true Tryd.f7.params.toList args.toList ds p := hA0
  rw [Tryd.params7] at hA hval
  obtain ⟨v0, vs0, d0, ds0, p0, q0, hargs, rfl, rfl, h0, r0⟩ := trodAll_cons hA
  obtain ⟨v1, vs1, d1, ds1, p1, q1, rfl, rfl, rfl, h1, r1⟩ := trodAll_cons r0
  obtain ⟨rfl, rfl, rfl⟩ := trodAll_nil r1
  obtain rfl : args = #[v0, v1] := by cases args; simp_all
  obtain ⟨rfl, rfl⟩ := trodVars_none hV
  obtain ⟨a0, len0, cap0, rfl⟩ := okWide_slice Tryd.underlying22 (hval 0 22 v0 rfl rfl)
  have k0 := h0
  have lt0 : ∀ x ∈ p0, x.block < W.heap.size := by obtain ⟨m, hm⟩ := k0; exact DataW.trod_lt m _ _ _ hm
  obtain ⟨z0, w0⟩ := insns_open h0 lt0
  have k1 := h1
  have lt1 : ∀ x ∈ p1, x.block < W.heap.size := by obtain ⟨m, hm⟩ := k1; exact DataW.trod_lt m _ _ _ hm
  obtain ⟨a1, w1, rfl⟩ := data_open (hval 1 43 v1 rfl rfl) h1
  clear hA0 hval0
  refine (walk HC HR a0 len0 cap0 z0 a1 W hG w0 w1).mono fun e W' ⟨he, bel⟩ => ?_
  subst he
  exact ⟨_, rfl, _, _, _, [], _, [], hW', trodAll_mk1 (shut_bool Tryd.underlying4 _), (trodAll_cons_mk (Below.trod laidOut (by kernel_rfl) (of_decide_eq_true (by kernel_rfl)) k0 bel lt0) (trodAll_cons_mk (Below.trod laidOut (by kernel_rfl) (of_decide_eq_true (by kernel_rfl)) k1 bel lt1) trodAll_mk0)), rfl, bel.frame _, fun h => by cases h⟩

theorem over (HC : CheckC GW) (HR : VmC GW) : Rows.checkErrorsRow.holds Tryd.pinned (OpenSpec.ofChange Rows.checkErrorsSpec) :=
  OpenClaim.holds_of_wide 7 Tryd.f7 rfl rfl rfl rfl rfl rfl rfl ⟨rfl, rfl, rfl, rfl, rfl⟩ rfl rfl rfl rfl rfl (by kernel_rfl) Tryd.func7 (by kernel_rfl)
    (of_decide_eq_true (by kernel_rfl)) (by unfold Func.isWrapper; first | (rw [if_pos (by decide +kernel)]; kernel_rfl) | (rw [if_neg (by decide +kernel)]; exact ⟨rfl, rfl⟩))
    (fun os started H enc _ => lifted HC HR os started H enc)

/-- The row's statement. -/
theorem row_holds : Rows.CheckErrorsSaid := over checkC vmC
/-- The statement: the row, its table tied to the program's text. -/
theorem proved : Rows.CheckErrorsCardSaid :=
  Claim7.holds_tied_plain_at .later [] [.data] true Rows.checkErrorsCard.stood.harness Rows.checkErrorsCard.stood.looks
    row_holds (fun _ h => by cases h) (by kernel_rfl) (fun _ h => by cases h) checkErrors_row_tie rfl ⟨rfl, rfl⟩ (by kernel_rfl) rfl
    (fun f fn hf hfn => by
      obtain rfl : f = 7 := Option.some.inj ((show Tryd.prog.funcNamed "vestibule/vestibulelaw06.CheckErrors" = some 7 by kernel_rfl).symm.trans hf) |>.symm
      obtain rfl : fn = Tryd.f7 := (Option.some.inj (Tryd.func7.symm.trans hfn)).symm
      exact ⟨by kernel_rfl, fun j t ht => by
        have hm : t ∈ Tryd.f7.params.toList := by simpa using Array.mem_of_getElem? ht
        have hall : (Tryd.f7.params.toList.all fun u => !Tryd.prog.wantsStandIn u) = true := by kernel_rfl
        exact (show Tryd.prog.wantsStandIn t = false by simpa using List.all_eq_true.1 hall t hm)⟩)
    (by kernel_rfl)
#print axioms proved
end Go.Proofs.YtohfampfnhfnlaaDoor.checkErrors
