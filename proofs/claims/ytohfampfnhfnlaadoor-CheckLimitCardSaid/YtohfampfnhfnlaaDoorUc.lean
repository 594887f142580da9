/- What the landed calls At and Check return, and with them all calls of check: as the chapter says. Condition: a slice is as long as its capacity allows; the table of codes lies in the package's variable. -/
import Derived.Test.YtohfampfnhfnlaaDoorUb
import Derived.Test.YtohfampfnhfnlaaDoorQj
namespace Go.Proofs.YtohfampfnhfnlaaDoor
open Go.RowKit Go.Shelf
set_option linter.unusedVariables false
attribute [local go_sem ↓] Go.wp_at_zero Go.wp_at_succ

theorem ckBadMore {p : List Ins} {k : Nat} {r : Nat × Int} (h : badTo p k = some r) : ∀ {m : Nat}, k ≤ m → badTo p m = some r
  | 0, hm => by obtain rfl : k = 0 := by omega
                exact h
  | m + 1, hm => by
    by_cases e : k = m + 1
    · rw [← e]; exact h
    · unfold badTo
      rw [ckBadMore h (m := m) (by omega)]
theorem ckStep0 {p : List Ins} {k : Nat} {x : Ins} (h : badTo p k = none) (hx : p[k]? = some x) (h0 : oneE x ((p.length : Int) - 1 - k) = 0) : badTo p (k + 1) = none := by
  unfold badTo
  rw [h]
  simp only [hx]
  rw [if_pos h0]
theorem ckStep1 {p : List Ins} {k : Nat} {x : Ins} (h : badTo p k = none) (hx : p[k]? = some x) (h0 : oneE x ((p.length : Int) - 1 - k) ≠ 0) : badTo p (k + 1) = some (k, oneE x ((p.length : Int) - 1 - k)) := by
  unfold badTo
  rw [h]
  simp only [hx]
  rw [if_neg h0]
theorem ckAtBad {p : List Ins} {r : Nat × Int} {k : Nat} (h0 : 0 < p.length) (h1 : p.length ≤ 4096) (hk : k ≤ p.length) (h : badTo p k = some r) : atL p = r := by
  unfold atL
  rw [if_neg (by omega), ckBadMore h hk]
theorem ckAtEnd {p : List Ins} (h0 : 0 < p.length) (h1 : p.length ≤ 4096) (h : badTo p p.length = none) (h5 : lastC p ≠ 5) : atL p = (p.length - 1, 46) := by
  unfold atL
  rw [if_neg (by omega), h]
  simp only
  rw [if_neg h5]
theorem ckAtUnset {p : List Ins} (h0 : 0 < p.length) (h1 : p.length ≤ 4096) (h : badTo p p.length = none) (h5 : lastC p = 5) : atL p = if unsureL p = [] then (0, 0) else ((unsureL p).getD 0 0, 61) := by
  unfold atL
  rw [if_neg (by omega), h]
  simp only
  rw [if_pos h5]
  cases unsureL p with
  | nil => rfl
  | cons j r => rfl
theorem ckLastIs {p : List Ins} {m : Nat} (h : p.length = m + 1) : lastC p = clsI (p[m]'(by omega)).c := by
  unfold lastC
  rw [show p.length - 1 = m by omega, List.getElem?_eq_getElem (by omega)]
theorem ckAtNil (a0 : Option Addr) (cap : Nat) (w : World) : Calls Tryd.prog 11 #[.slice a0 0 cap] w fun e w' => e = .returned (.tuple #[.int .i64 0, .int .i64 60]) ∧ Below w.heap.size w w' := by
  go_enter Tryd.func11, Tryd.ntmps11
  go_wp2
  go_ret2
  exact ⟨rfl, Below.refl _ _⟩
theorem ckAtLong (a0 : Option Addr) (n cap : Nat) (h : 4096 < n) (w : World) : Calls Tryd.prog 11 #[.slice a0 n cap] w fun e w' => e = .returned (.tuple #[.int .i64 0, .int .i64 60]) ∧ Below w.heap.size w w' := by
  have e0 : ((n : Int) == 0) = false := beq_eq_false_iff_ne.2 (by omega)
  have e1 : (4096 : Int) < n := by omega
  clear h
  go_enter Tryd.func11, Tryd.ntmps11
  go_wp2
  go_ret2
  exact ⟨rfl, Below.refl _ _⟩
set_option maxRecDepth 100000 in
set_option maxHeartbeats 8000000 in
theorem ckAtIn (a0 : Option Addr) (n cap : Nat) (p : List Ins) (w : World) (hG : GW w) (hl : p.length = n) (hok : OkL p) (h0 : 0 < n) (h1 : n ≤ 4096) (hcap : n ≤ cap) (hmax : cap ≤ maxLen) (hnil : a0 = none → cap = 0) (hR : RdI w w.heap.size a0 p) :
    Calls Tryd.prog 11 #[.slice a0 n cap] w fun e w' => e = .returned (.tuple #[.int .i64 (((atL p).1 : Nat) : Int), .int .i64 (atL p).2]) ∧ Below w.heap.size w w' := by
  obtain ⟨m, hm⟩ : ∃ m, n = m + 1 := ⟨n - 1, by omega⟩
  have HL := Lib.hid hl
  have HP := Lib.hid hok
  have HR := Lib.hid hR
  have HG := Lib.hid hG
  have HNM := Lib.hid hm
  have HN0 := Lib.hid h0
  have HN1 := Lib.hid h1
  have HU := Lib.hid (fun (W : World) (g : GW W) (h : RdI W W.heap.size a0 p) => unsure_c a0 n cap p W g hl hok h)
  rw [show unsureX p = unsureL p from by unfold unsureX; rw [if_pos (by omega)]] at HU
  unfold NextTo at HU
  obtain ⟨b, o, rfl, hbB, hcs⟩ := hR (by omega)
  have HC := Lib.hid hcs
  have e0 : ((n : Int) == 0) = false := beq_eq_false_iff_ne.2 (by omega)
  have e00 : ¬ (n : Int) = 0 := by omega
  have e1 : ¬ (4096 : Int) < n := by omega
  have e2 : (n : Int) ≤ 4096 := by omega
  have e3 : (n : Int) - 1 = m := by omega
  have e4 : (m : Int) < n := by omega
  have e5 : (0 : Int) ≤ m := by omega
  clear hG hl hok h0 h1 hcap hmax hnil hR hcs hm
  go_enter Tryd.func11, Tryd.ntmps11
  go_wp2_with fail
  go_loopw [22] (fun v22 wr => ∃ k : Nat, k ≤ n ∧ v22 = .int .i64 k ∧ Hid (badTo p k = none) ∧ Hid (Below w.heap.size w wr)) (fun v22 _ => n - (intOf v22).toNat)
  case atStart => exact ⟨0, Nat.zero_le _, rfl, Lib.hid rfl, Lib.hid (Below.refl _ _)⟩
  case round =>
    obtain ⟨k, hk, rfl, HB, PB⟩ := hrel
    obtain ⟨W, rfl⟩ : ∃ wo : World, wo = wr := ⟨_, rfl⟩
    by_cases hlt : k < n
    · have hkl : k < p.length := by rw [HL.out]; exact hlt
      have i1 : (k : Int) < n := by omega
      have i2 : (0 : Int) ≤ k := by omega
      have hat := HC.out k hkl
      obtain ⟨x, hx⟩ : ∃ x, x = p[k] := ⟨_, rfl⟩
      have HX := Lib.hid (show p[k]? = some x from by rw [hx]; exact List.getElem?_eq_getElem hkl)
      have hxo := HP.out.get hkl
      rw [← hx] at hat hxo
      obtain ⟨q0, q1, q2, q3⟩ := hat.keep (w' := W) fun q hq => PB.out.cell (by omega)
      have HG1 := Lib.hid (GW.alloc (HG.out.on PB.out) (.cells #[.int .u16 x.c, .int .u8 x.jt, .int .u8 x.jf, .int .u32 x.k] 35))
      have HONE := Lib.hid (fun (V : World) (g : GW V) => one_c x hxo ((n : Int) - 1 - k) (by omega) (by omega) V g)
      have HS0 := Lib.hid (fun (h : oneE x ((n : Int) - 1 - k) = 0) => ckStep0 HB.out HX.out (by rw [HL.out]; exact h))
      have HS1 := Lib.hid (fun (h : oneE x ((n : Int) - 1 - k) ≠ 0) => ckAtBad (by rw [HL.out]; exact HN0.out) (by rw [HL.out]; exact HN1.out) (k := k + 1) (by rw [HL.out]; omega) (ckStep1 HB.out HX.out (by rw [HL.out]; exact h)))
      rw [HL.out] at HS1
      have PA := Lib.hid (PB.out.alloc PB.out.size (.cells #[.int .u16 x.c, .int .u8 x.jt, .int .u8 x.jf, .int .u32 x.k] 35))
      obtain ⟨y, hy⟩ : ∃ y, y = oneE x ((n : Int) - 1 - k) := ⟨_, rfl⟩
      rw [← hy] at HONE HS0 HS1
      clear hat hx hxo hkl hy HX HB
      obtain ⟨c, jt, jf, kk⟩ := x
      simp only at q0 q1 q2 q3
      rw [e3] at HONE
      by_cases hy0 : y = 0
      · have hs := Lib.hid (HS0.out hy0)
        subst hy0
        clear HS0 HS1
        go_wp2_with (go_at_call 15; ((with_reducible refine (HONE.out _ HG1.out).mono ?_); rintro e w1 ⟨rfl, b1⟩))
        go_roundw
        case rel => exact ⟨k + 1, by omega, by go_num, hs, Lib.hid (PA.out.trans (b1.mono PA.out.size))⟩
        case measure => simp [intOf]; omega
      · have hs := Lib.hid (HS1.out hy0)
        have y0 : (y != 0) = true := by simp [hy0]
        clear HS0 HS1
        go_wp2_with (go_at_call 15; ((with_reducible refine (HONE.out _ HG1.out).mono ?_); rintro e w1 ⟨rfl, b1⟩))
        go_ret2
        exact ⟨by rw [hs.out]; rfl, PA.out.trans (b1.mono PA.out.size)⟩
    · obtain rfl : k = n := by omega
      have hml : m < p.length := by rw [HL.out]; have := HNM.out; omega
      have hat := HC.out m hml
      obtain ⟨x, hx⟩ : ∃ x, x = p[m] := ⟨_, rfl⟩
      have hxo := HP.out.get hml
      have HLA := Lib.hid (show lastC p = clsI x.c from by rw [hx]; exact ckLastIs (by rw [HL.out]; exact HNM.out))
      rw [← hx] at hat hxo
      have hxc0 := hxo.c0
      have hxc1 := hxo.c1
      obtain ⟨q0, q1, q2, q3⟩ := hat.keep (w' := W) fun q hq => PB.out.cell (by omega)
      have HG1 := Lib.hid (HG.out.on PB.out)
      have HR1 := Lib.hid (HR.out.on PB.out)
      have HO := Lib.hid (fun (V : World) (g : GW V) => ofC x.c V g hxc0 hxc1)
      rw [show (ofL allL x.c).cls = clsI x.c from rfl] at HO
      have hbad : badTo p p.length = none := by rw [HL.out]; exact HB.out
      have HEND := Lib.hid (fun h5 => ckAtEnd (p := p) (by rw [HL.out]; exact HN0.out) (by rw [HL.out]; exact HN1.out) hbad h5)
      have HUNS := Lib.hid (fun h5 => ckAtUnset (p := p) (by rw [HL.out]; exact HN0.out) (by rw [HL.out]; exact HN1.out) hbad h5)
      rw [HL.out] at HEND
      rw [HLA.out] at HEND HUNS
      obtain ⟨t, ht⟩ : ∃ t, t = clsI x.c := ⟨_, rfl⟩
      rw [← ht] at HO HEND HUNS
      obtain ⟨c, jt, jf, kk⟩ := x
      simp only at q0 q1 q2 q3 HO
      clear hat hx hxo hml hxc0 hxc1 hbad HLA ht HB
      by_cases h5 : t = 5
      · have hs := Lib.hid (HUNS.out h5)
        subst h5
        clear HEND HUNS
        obtain ⟨l, hll⟩ : ∃ l, l = unsureL p := ⟨_, rfl⟩
        rw [← hll] at HU hs
        clear hll
        by_cases hln : l = []
        · subst hln
          go_wp2_with (first
            | (go_at_call 20; ((with_reducible refine (HO.out _ HG1.out).mono ?_); rintro e w1 ⟨rfl, b1⟩))
            | (go_at_call 21; ((with_reducible refine (HU.out _ (HG1.out.on b1) (HR1.out.on b1)).mono ?_); rintro e w2 ⟨q, cc, rfl, o2, b2⟩); have B2 := thn b1 b2; clear o2))
          go_ret2
          exact ⟨by rw [hs.out]; rfl, thn PB.out B2⟩
        · obtain ⟨ln, hln2⟩ : ∃ ln, ln = l.length := ⟨_, rfl⟩
          have ln0 : (0 : Int) < ln := by
            have := List.length_pos_iff.2 hln
            omega
          have HLN := Lib.hid hln2
          rw [← hln2] at HU
          have hs2 := Lib.hid (hs.out.trans (if_neg hln))
          clear hs hln hln2
          go_wp2_with (first
            | (go_at_call 20; ((with_reducible refine (HO.out _ HG1.out).mono ?_); rintro e w1 ⟨rfl, b1⟩))
            | (go_at_call 21; ((with_reducible refine (HU.out _ (HG1.out.on b1) (HR1.out.on b1)).mono ?_); rintro e w2 ⟨q, cc, rfl, o2, b2⟩); have B2 := thn b1 b2; rw [HLN.out] at o2; obtain ⟨g, hq, hg, hc⟩ := pl_cells' o2 (by rw [← HLN.out]; omega); subst hq; have c0 := hc 0 (by rw [← HLN.out]; omega); clear o2 hc hg))
          go_ret2
          exact ⟨by rw [hs2.out]; rfl, thn PB.out B2⟩
      · have hs := Lib.hid (HEND.out h5)
        have t5 : (t != 5) = true := by simp [h5]
        clear HEND HUNS HU
        go_wp2_with (go_at_call 20; ((with_reducible refine (HO.out _ HG1.out).mono ?_); rintro e w1 ⟨rfl, b1⟩))
        go_ret2
        exact ⟨by rw [hs.out, HNM.out, Nat.add_sub_cancel]; rfl, thn PB.out b1⟩
theorem at_c (a0 : Option Addr) (n cap : Nat) (p : List Ins) (w : World) (hG : GW w) (hl : p.length = n) (hok : OkL p) (hcap : n ≤ cap) (hmax : cap ≤ maxLen) (hnil : a0 = none → cap = 0) (hR : RdI w w.heap.size a0 p) :
    Calls Tryd.prog 11 #[.slice a0 n cap] w fun e w' => e = .returned (.tuple #[.int .i64 (((atL p).1 : Nat) : Int), .int .i64 (atL p).2]) ∧ Below w.heap.size w w' := by
  by_cases h0 : n = 0
  · subst h0
    rw [show atL p = (0, 60) from by unfold atL; rw [if_pos (Or.inl hl)]]
    exact ckAtNil a0 cap w
  · by_cases h1 : 4096 < n
    · rw [show atL p = (0, 60) from by unfold atL; rw [if_pos (Or.inr (by omega))]]
      exact ckAtLong a0 n cap h1 w
    · exact ckAtIn a0 n cap p w hG hl hok (by omega) (by omega) hcap hmax hnil hR
theorem check_c (a0 : Option Addr) (n cap : Nat) (p : List Ins) (w : World) (hG : GW w) (hl : p.length = n) (hok : OkL p) (hcap : n ≤ cap) (hmax : cap ≤ maxLen) (hnil : a0 = none → cap = 0) (hR : RdI w w.heap.size a0 p) :
    Calls Tryd.prog 13 #[.slice a0 n cap] w fun e w' => e = .returned (.int .i64 (atL p).2) ∧ Below w.heap.size w w' := by
  have HA := Lib.hid (at_c a0 n cap p w hG hl hok hcap hmax hnil hR)
  obtain ⟨x, hx⟩ : ∃ x : Int, x = ((atL p).1 : Nat) := ⟨_, rfl⟩
  obtain ⟨y, hy⟩ : ∃ y, y = (atL p).2 := ⟨_, rfl⟩
  rw [← hx, ← hy] at HA
  rw [← hy]
  clear hG hl hok hcap hmax hnil hR hx hy
  go_enter Tryd.func13, Tryd.ntmps13
  go_wp2_with (go_at_call 11; ((with_reducible refine (HA.out).mono ?_); rintro e w1 ⟨rfl, b1⟩))
  go_ret
  exact ⟨rfl, b1⟩
/-- All calls of check, over the table of codes. -/
theorem checkC : CheckC GW where
  on := fun h b => h.on b
  one := fun i left w hG hi l0 l1 => one_c i hi left l0 l1 w hG
  at_ := at_c
  check_ := check_c
end Go.Proofs.YtohfampfnhfnlaaDoor
