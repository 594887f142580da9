/- The statement CellsNone holds, over what the calls have to return: what no way leads to is not reached, and has all cells certain; the place 0 has none. -/
import Derived.Test.YthhfpehngdohhaaDoorRows
import Derived.Test.YthhfpehngdohhaaDoorCards
import Derived.Test.YthhfpehngdohhaaDoorTie
import Derived.SevenTiedAt
import Derived.Test.YthhfpehngdohhaaDoorFr
import Derived.Test.YthhfpehngdohhaaDoorLw
import Derived.Test.YthhfpehngdohhaaDoorQj
import Derived.Test.YthhfpehngdohhaaDoorOg
import Derived.Test.YthhfpehngdohhaaDoorId
import Derived.Deep.RegionHeld3
import Derived.BigQuiet
import Derived.Deep.QuietTactic
import Derived.Test.YthhfpehngdohhaaDoorOk
namespace Go.Proofs.YthhfpehngdohhaaDoor.cellsNone
open Go.ChangeShapes Go.WideShapes Go.ChangeAt Go.RowKit
open Go.ChangeMaps (open_string shut_string)
set_option linter.unusedVariables false
attribute [local go_sem ↓] Go.wp_at_zero Go.wp_at_succ

/-- What is marked ahead of round i. -/
def frm (p : List Ins) (i j : Nat) : Bool := if i = 0 then false else mark (nextL p) (fun _ => true) i j
theorem frm_step {p : List Ins} {i j : Nat} (h : i ≠ 0) : frm p (i + 1) j = (frm p i j || (frm p i i && (nextL p i).contains j)) := by
  unfold frm
  rw [if_neg h, if_neg (Nat.succ_ne_zero i)]
  show (_ || (_ && true && _)) = _
  rw [Bool.and_true, if_neg h]
theorem frm_one {p : List Ins} {j : Nat} : frm p 1 j = ((nextL p 0).contains j || j == 0) := by
  unfold frm
  rw [if_neg (by decide)]
  show (j == 0 || (true && true && _)) = _
  rw [Bool.or_comm]; simp
theorem frm_self {p : List Ins} {i : Nat} (h : i ≠ 0) (hi : i ≤ p.length) : frm p i i = reachB p i := by
  unfold frm reachB
  rw [if_neg h, mark_more next_up hi]
theorem not_self (p : List Ins) (i : Nat) : (nextL p i).contains i = false := by
  rw [Bool.eq_false_iff]
  intro h
  have := (nextL_lt (List.contains_iff_mem.1 h)).1
  omega
set_option maxRecDepth 100000 in
set_option maxHeartbeats 32000000 in
theorem walk {G : World → Prop} (HC : CellsC G) (a0 : Option Addr) (len0 cap0 : Nat) (z0 : List Ins) (w : World) (hG : G w) (w0 : IsInsns w a0 len0 cap0 z0) :
    Calls Tryd.prog 8 #[.slice a0 len0 cap0] w fun e w' => e = .returned (.bool true) ∧ Below w.heap.size w w' := by
  have HA := Lib.hid (awake5_any HC w hG)
  by_cases hbig : (300 : Int) < len0
  · clear HC hG w0
    go_enter Tryd.func8, Tryd.ntmps8
    go_wp2_with (go_at_call 20; ((with_reducible refine (HA.out).mono ?_); rintro e v1 ⟨rfl, b1⟩))
    go_ret
    exact ⟨rfl, b1⟩
  obtain ⟨i0, ki, kz0, kz1, kz2⟩ := info_parts bool_info
  have KI := Lib.hid ki
  have K0 := Lib.hid kz0
  have K1 := Lib.hid kz1
  have hm0 : i0.bytes * len0 ≤ 281474976710656 := by rw [kz2]; omega
  have hm1 : len0 ≤ maxLen := by unfold maxLen; omega
  have HON := Lib.hid (fun (w w' : World) => HC.on (w := w) (w' := w'))
  have HG0 := Lib.hid hG
  have HRE := Lib.hid (fun (W : World) (g : G W) (h : RdI W W.heap.size a0 z0) => HC.reached a0 len0 cap0 z0 W g w0.size w0.ok w0.fits w0.most w0.nil h)
  have HSU := Lib.hid (fun (W : World) (g : G W) (h : RdI W W.heap.size a0 z0) => HC.sure a0 len0 cap0 z0 W g w0.size w0.ok w0.fits w0.most w0.nil h)
  rw [show lenX len0 = len0 from if_pos (by omega)] at HRE HSU
  have HNX := Lib.hid (fun (W : World) (i : Nat) (hi : i < len0) (g : G W) (h : RdI W W.heap.size a0 z0) => show Calls Tryd.prog 13 #[.slice a0 len0 cap0, .int .i64 (i : Int)] W (NextTo (nextL z0 i) W) from by
    have h := HC.next a0 len0 cap0 z0 (i : Int) W g w0.size w0.ok w0.fits w0.most w0.nil (by omega) (by omega) h
    rw [show nextX z0 (i : Int) = nextL z0 i from by unfold nextX; rw [if_pos (by have := w0.size; omega), nextA_nat]] at h
    exact h)
  unfold BoolsTo at HRE
  unfold SetsTo at HSU
  have R0 := Lib.hid w0.rd
  have HL := Lib.hid w0.size
  have e1 : (len0 : Int) ≤ 300 := by omega
  have t4 : ((len0 : Int) != len0) = false := by simp
  clear HC hG w0 ki kz0 kz1 kz2
  go_enter Tryd.func8, Tryd.ntmps8
  go_wp2_with (first
    | (go_at_call 20; ((with_reducible refine (HA.out).mono ?_); rintro e v1 ⟨rfl, b1⟩); have G1 := HON.out _ _ HG0.out b1; have R1 := R0.out.on b1)
    | (go_at_call 10; ((with_reducible refine (HRE.out _ G1 R1).mono ?_); rintro e v2 ⟨q2, c2, rfl, o2, b2⟩); have G2 := HON.out _ _ G1 b2; have R2 := R1.on b2; have B2 := thn b1 b2; have O2 := Lib.hid o2; clear o2 G1 R1)
    | (go_at_call 16; ((with_reducible refine (HSU.out _ G2 R2).mono ?_); rintro e v3 ⟨q3, c3, rfl, o3, b3⟩); have G3 := Lib.hid (HON.out _ _ G2 b3); have R3 := Lib.hid (R2.on b3); have B3 := Lib.hid (thn B2 b3); have O3 := Lib.hid o3; have O23 := Lib.hid (own_on O2.out b3); clear o3 G2 R2 O2)
    | ((with_reducible show wpList _ _ _ (⟨some 32, _, _, _, _, _⟩ :: _) _ _)
       refine wpList_make_full _ rfl _ _ 24 rfl v3.heap.size 4 i0 _ 1 Tryd.underlying24 KI.out K0.out K1.out .i64 .i64 len0 len0 len0 rfl rfl rfl rfl hm0 hm1 (Nat.le_refl _) ?_
       intro v4 o4 g4
       have b4 : Below v3.heap.size v3 v4 := (Below.refl _ _).grown g4 (Nat.le_refl _) (by intro k hk; cases hk)
       rw [made_bools] at o4
       have O4 := Lib.hid o4
       have B4 := Lib.hid b4
       clear o4 g4 b4))
  clear HRE HSU HA HG0 R0
  go_loopw [6, 7, 8] (fun v6 v7 v8 wr => ∃ i : Nat, i ≤ len0 ∧ v6 = .int .i64 i ∧ Hid (wr.ownsRow v3.heap.size 4 1 (.slice (some ⟨v3.heap.size, 0, none⟩) len0 len0) len0 (rowB len0 (frm z0 i))) ∧ Hid (Below v3.heap.size v3 wr)) (fun v6 _ _ _ => len0 - (intOf v6).toNat)
  case atStart => exact ⟨0, Nat.zero_le _, rfl, Lib.hid (by rw [rowB_congr (f := frm z0 0) (g := fun _ => false) (fun j _ => rfl)]; exact O4.out), B4⟩
  case round =>
    clear O4 B4
    obtain ⟨i, hi, rfl, HO, HB⟩ := hrel
    obtain ⟨W, rfl⟩ : ∃ wo : World, wo = wr := ⟨_, rfl⟩
    by_cases hlt : i < len0
    · have hgW : G W := HON.out _ _ G3.out HB.out
      have HNX' := Lib.hid (HNX.out W i hlt hgW (R3.out.on HB.out))
      obtain ⟨l, hll⟩ : ∃ l, l = nextL z0 i := ⟨_, rfl⟩
      rw [← hll] at HNX'
      have HLT := Lib.hid (show ∀ x ∈ l, i < x ∧ x < len0 from fun x hx => by rw [hll] at hx; have := nextL_lt hx; rw [HL.out] at this; exact this)
      have hl2 : l.length ≤ 2 := by rw [hll]; exact nextL_length z0 i
      obtain ⟨m, hm⟩ : ∃ m, m = l.length := ⟨_, rfl⟩
      unfold NextTo at HNX'
      rw [← hm] at HNX' hl2
      have HMM := Lib.hid hm
      have HLL := Lib.hid hll
      have i1 : (i : Int) < len0 := by omega
      have i2 : (0 : Int) ≤ i := by omega
      have hor := own_on O23.out HB.out
      have hos := own_on O3.out HB.out
      obtain ⟨g2, d2, e2⟩ := own_some hor (by omega)
      obtain ⟨g3, d3, e3⟩ := own_some hos (by omega)
      injection e2 with e21 e22 e23
      injection e3 with e31 e32 e33
      subst e21 e31
      have O2W := Lib.hid hor
      have O3W := Lib.hid hos
      have hg2 : g2 < v3.heap.size := (O23.out.lt g2 rfl).2
      have hg3 : g3 < v3.heap.size := (O3.out.lt g3 rfl).2
      have HG := Lib.hid (show v3.heap.size < W.heap.size from (HO.out.lt _ rfl).2)
      clear hm hll hor hos e22 e23 e32 e33 hgW
      obtain ⟨r, hr⟩ : ∃ r, r = reachB z0 i := ⟨_, rfl⟩
      obtain ⟨sv, hsv⟩ : ∃ s, s = sureN z0 i := ⟨_, rfl⟩
      have hcr : ∀ V : World, Below v3.heap.size v3 V → V.cell? ⟨g2, i, none⟩ = some (.bool r) := fun V hV => by rw [hr]; exact ((own_on O23.out hV).cellAt i (by omega)).trans (rowB_get _ hlt)
      have hcs : ∀ V : World, Below v3.heap.size v3 V → V.cell? ⟨g3, i, none⟩ = some (.int .u16 (sv : Int)) := fun V hV => by rw [hsv]; exact ((own_on O3.out hV).cellAt i (by omega)).trans (rowS_get _ hlt)
      have HCR := Lib.hid hcr
      have HCS := Lib.hid hcs
      have HRR := Lib.hid hr
      have HSV := Lib.hid hsv
      clear hcr hcs hr hsv O2W O3W
      go_wp2_with (go_at_call 13; ((with_reducible refine (HNX'.out).mono ?_); rintro e w2 ⟨q, c, rfl, o2, b2⟩); have P02 := Lib.hid o2; have P01 := Lib.hid (own_on HO.out b2); have P03 := Lib.hid (thn HB.out b2); clear o2 b2)
      go_loopw [8] (fun v8 wr => ∃ k : Nat, k ≤ m ∧ v8 = .int .i64 k ∧ Hid (wr.ownsRow v3.heap.size 4 1 (.slice (some ⟨v3.heap.size, 0, none⟩) len0 len0) len0 (rowB len0 (fun j => frm z0 i j || (r && (l.take k).contains j)))) ∧ Hid (wr.ownsRow W.heap.size 3 1 (.slice q m c) m (plV l)) ∧ Hid (Below v3.heap.size v3 wr)) (fun v8 _ => m - (intOf v8).toNat)
      case atStart => exact ⟨0, Nat.zero_le _, rfl, Lib.hid (by rw [rowB_congr (g := frm z0 i) (fun j _ => by simp)]; exact P01.out), P02, P03⟩
      case round =>
        clear P01 P02 P03 HO HB HNX' 
        obtain ⟨k, hk, rfl, P1, P2, P3⟩ := hrel
        obtain ⟨V, rfl⟩ : ∃ wo : World, wo = wr := ⟨_, rfl⟩
        have cr := HCR.out V P3.out
        by_cases hgo : k < m ∧ r = true
        · obtain ⟨hlk, hrt⟩ := hgo
          rw [hrt] at cr P1
          have h2 := P2.out
          rw [HMM.out] at h2
          obtain ⟨g, hq, hgB, hc⟩ := pl_cells' h2 (by have := HMM.out; omega)
          subst hq
          have c1 := hc k (by have := HMM.out; omega)
          have htk := Lib.hid (fun j => take_contains (l := l) (k := k) (by have := HMM.out; omega) j)
          have hx := HLT.out (l.getD k 0) (by rw [List.getD_eq_getElem?_getD, List.getElem?_eq_getElem (by have := HMM.out; omega)]; exact List.getElem_mem _)
          obtain ⟨x, hxx⟩ : ∃ x, x = l.getD k 0 := ⟨_, rfl⟩
          rw [← hxx] at c1 htk hx
          obtain ⟨hx0, hx⟩ := hx
          have x1 : (x : Int) < len0 := by omega
          have x2 : ¬ (x : Int) ≤ i := by omega
          have x3 : ¬ (len0 : Int) ≤ x := by omega
          have k1 : (k : Int) < m := by omega
          have k2 : (0 : Int) ≤ k := by omega
          have s2 : V.cell? ⟨v3.heap.size, x, none⟩ = some (.bool (frm z0 i x || (true && (l.take k).contains x))) := (P1.out.cellAt x (by omega)).trans (rowB_get _ hx)
          have f2 := P1.out.frozenAt x
          have Q1 := Lib.hid (P1.out.stored x (.bool true)).1
          have Q2 := Lib.hid (own_but P2.out (of_set V v3.heap.size x (.bool true)) HG.out)
          have Q3 := Lib.hid (P3.out.setCell (p := ⟨v3.heap.size, x, none⟩) (Nat.le_refl _) (.bool true))
          clear hc h2 hxx P1 P2 P3 HCR HCS
          subst hrt
          go_wp2_with fail
          go_roundw
          case rel =>
            refine ⟨k + 1, by omega, by go_num, Lib.hid ?_, Q2, Q3⟩
            have h := Q1.out
            rw [rowB_set] at h
            rw [rowB_congr (g := fun j => (frm z0 i j || (true && (l.take k).contains j)) || j == x) (fun j _ => by rw [htk.out j, Bool.true_and, Bool.true_and, Bool.or_assoc])]
            exact h
          case measure => simp [intOf]; omega
        · have PE := Lib.hid (show V.ownsRow v3.heap.size 4 1 (.slice (some ⟨v3.heap.size, 0, none⟩) len0 len0) len0 (rowB len0 (fun j => frm z0 i j || (r && l.contains j))) from by
            have h := P1.out
            cases hrb : r with
            | false => rw [hrb] at h; simpa using h
            | true =>
              rw [hrb] at h
              have hkm : ¬ k < m := fun hh => hgo ⟨hh, hrb⟩
              rw [List.take_of_length_le (by rw [← HMM.out]; omega)] at h
              exact h)
          have cs := HCS.out V P3.out
          have QF := Lib.hid P3.out
          have k2 : (0 : Int) ≤ k := by omega
          have fr := PE.out.frozenAt i
          have ci : V.cell? ⟨v3.heap.size, i, none⟩ = some (.bool (frm z0 i i || (r && l.contains i))) := (PE.out.cellAt i (by omega)).trans (rowB_get _ hlt)
          have hns : l.contains i = false := by rw [HLL.out]; exact not_self z0 i
          rw [hns, Bool.and_false, Bool.or_false] at ci
          have hgo' : ¬ ((k : Int) < m) ∨ r = false := by
            by_cases hkm : k < m
            · right; cases hrb : r with
              | false => rfl
              | true => exact absurd ⟨hkm, hrb⟩ hgo
            · left; omega
          by_cases hi0 : i = 0
          · subst hi0
            have hrt : r = true := by rw [HRR.out]; exact reachB_zero z0
            subst hrt
            have hkk : ¬ ((k : Int) < m) := by rcases hgo' with h | h; exact h; cases h
            have hs0 : sv = 0 := by rw [HSV.out]; exact sure_zero z0
            subst hs0
            have U1 := Lib.hid (PE.out.stored 0 (.bool true)).1
            have U3 := Lib.hid (QF.out.setCell (p := ⟨v3.heap.size, 0, none⟩) (Nat.le_refl _) (.bool true))
            have cr2 := HCR.out _ U3.out
            have cs2 := HCS.out _ U3.out
            have ci2 : (V.setCell ⟨v3.heap.size, 0, none⟩ (.bool true)).cell? ⟨v3.heap.size, 0, none⟩ = some (.bool true) := by
              have h := U1.out
              rw [rowB_set] at h
              exact (h.cellAt 0 (by omega)).trans ((rowB_get _ hlt).trans (by simp))
            clear P1 P2 P3 HCR HCS hgo hgo' PE hk
            go_wp2_with fail
            go_quiet (fail)
            go_wp2_with fail
            go_roundw
            case rel =>
              refine ⟨1, by omega, by go_num, Lib.hid ?_, Lib.hid (below_drewN U3.out _)⟩
              have h := U1.out
              rw [rowB_set] at h
              rw [rowB_congr (g := fun j => (frm z0 0 j || (true && l.contains j)) || j == 0) (fun j _ => by rw [frm_one, HLL.out]; simp [frm])]
              exact own_on h (below_drewN (Below.refl _ _) _)
            case measure => simp [intOf]; omega
          · have hself := frm_self (p := z0) hi0 (by rw [HL.out]; omega)
            rw [hself, ← HRR.out] at ci
            have PN := Lib.hid (show V.ownsRow v3.heap.size 4 1 (.slice (some ⟨v3.heap.size, 0, none⟩) len0 len0) len0 (rowB len0 (frm z0 (i + 1))) from by
              rw [rowB_congr (g := fun j => frm z0 i j || (r && l.contains j)) (fun j _ => by rw [frm_step hi0, hself, ← HRR.out, HLL.out])]
              exact PE.out)
            have i3 : ¬ (i : Int) = 0 := by omega
            have hi0' := Lib.hid hi0
            clear hself hi0 hns HCR HCS P1 P2 P3 PE fr hgo
            cases hrb : r with
            | false =>
              have hs0 : sv = 65535 := by rw [HSV.out]; exact sure_none (by rw [← HRR.out]; exact hrb)
              subst hs0
              subst hrb
              clear hgo'
              by_cases hkm : (k : Int) < m
              · go_wp2_with fail
                go_quiet (fail)
                go_wp2_with fail
                go_roundw
                case rel => exact ⟨i + 1, by omega, by go_num, Lib.hid (own_on PN.out (below_drewN (Below.refl _ _) _)), Lib.hid (below_drewN QF.out _)⟩
                case measure => simp [intOf]; omega
              · go_wp2_with fail
                go_quiet (fail)
                go_wp2_with fail
                go_roundw
                case rel => exact ⟨i + 1, by omega, by go_num, Lib.hid (own_on PN.out (below_drewN (Below.refl _ _) _)), Lib.hid (below_drewN QF.out _)⟩
                case measure => simp [intOf]; omega
            | true =>
              subst hrb
              have hkk : ¬ ((k : Int) < m) := by rcases hgo' with h | h; exact h; cases h
              clear hgo'
              go_wp2_with fail
              go_quiet (fail)
              go_wp2_with fail
              go_roundw
              case rel => exact ⟨i + 1, by omega, by go_num, Lib.hid (own_on PN.out (below_drewN (Below.refl _ _) _)), Lib.hid (below_drewN QF.out _)⟩
              case measure => simp [intOf]; omega
    · obtain rfl : len0 = i := by omega
      go_wp2_with fail
      go_ret
      exact ⟨rfl, thn B3.out HB.out⟩

set_option maxRecDepth 100000 in
theorem lifted (HC : CellsC GW) (os : Os) (started : os.Started) (H : Type) (enc : TypeId × Value → H) :
    ReturnsInHanded {} Tryd.checked os 8 .any (fun w args => (Rows.cellsNoneSpec.pre enc Tryd.prog Tryd.f8 [] false w args ∧ laidMetH Tryd.prog listed w) ∧ sizedMet enc Tryd.prog Tryd.f8 (OpenSpec.ofChange Rows.cellsNoneSpec) false w args)
      (Rows.cellsNoneSpec.post enc Tryd.prog Tryd.f8 false true false false) := by
  refine returnsInHanded_of_change_and (C := Tryd.checked) (X := fun w _ => laidMetH Tryd.prog listed w) (fun _ _ _ hh h => h.of_heap hh) ownKnob_none started (by kernel_rfl) Tryd.func8
    (ChangeSpec.witness_shaped (enc := enc) (C := Tryd.checked) (os := os) (X := fun w _ => laidMetH Tryd.prog listed w) false (World.doorLaid Tryd.prog 400 os) #[.slice none 0 0] 8 rfl (World.shaped_of_RefB (by kernel_rfl) (by kernel_rfl)) (by kernel_rfl) (by kernel_rfl) (by kernel_rfl) (door_met os _)) ?_
  intro W base args ds gs before hval0 hW _ _ hL _
  have hG : GW W := of_laid hL
  have hval : ∀ (j : Nat) t v, Tryd.f8.params[j]? = some t → args[j]? = some v → Value.okWide Tryd.prog W .any base t v := hval0
  have hW' := hW
  obtain ⟨p, q, hA0, hV, rfl, hfz, hnd⟩ := hW
  have hA : DataW.TrodAll enc Tryd.prog W 0 (fun _ => true) true Tryd.f8.params.toList args.toList ds p := hA0
  rw [Tryd.params8] at hA hval
  obtain ⟨v0, vs0, d0, ds0, p0, q0, hargs, rfl, rfl, h0, r0⟩ := trodAll_cons hA
  obtain ⟨rfl, rfl, rfl⟩ := trodAll_nil r0
  obtain rfl : args = #[v0] := by cases args; simp_all
  obtain ⟨rfl, rfl⟩ := trodVars_none hV
  obtain ⟨a0, len0, cap0, rfl⟩ := okWide_slice Tryd.underlying22 (hval 0 22 v0 rfl rfl)
  have k0 := h0
  have lt0 : ∀ x ∈ p0, x.block < W.heap.size := by obtain ⟨m, hm⟩ := k0; exact DataW.trod_lt m _ _ _ hm
  obtain ⟨z0, w0⟩ := insns_open h0 lt0
  clear hA0 hval0
  refine (walk HC a0 len0 cap0 z0 W hG w0).mono fun e W' ⟨he, bel⟩ => ?_
  subst he
  exact ⟨_, rfl, _, _, _, [], _, [], hW', trodAll_mk1 (shut_bool Tryd.underlying4 _), (trodAll_cons_mk (Below.trod laidOut (by kernel_rfl) (of_decide_eq_true (by kernel_rfl)) k0 bel lt0) trodAll_mk0), rfl, bel.frame _, fun h => by cases h⟩

theorem over (HC : CellsC GW) : Rows.cellsNoneRow.holds Tryd.pinned (OpenSpec.ofChange Rows.cellsNoneSpec) :=
  OpenClaim.holds_of_wide 8 Tryd.f8 rfl rfl rfl rfl rfl rfl rfl ⟨rfl, rfl, rfl, rfl, rfl⟩ rfl rfl rfl rfl rfl (by kernel_rfl) Tryd.func8 (by kernel_rfl)
    (of_decide_eq_true (by kernel_rfl)) (by unfold Func.isWrapper; first | (rw [if_pos (by decide +kernel)]; kernel_rfl) | (rw [if_neg (by decide +kernel)]; exact ⟨rfl, rfl⟩))
    (fun os started H enc _ => lifted HC os started H enc)

/-- The row's statement. -/
theorem row_holds : Rows.CellsNoneSaid := over cellsC
/-- The statement: the row, its table tied to the program's text. -/
theorem proved : Rows.CellsNoneCardSaid :=
  Claim7.holds_tied_plain_at .later [] [.data] true Rows.cellsNoneCard.stood.harness Rows.cellsNoneCard.stood.looks
    row_holds (fun _ h => by cases h) (by kernel_rfl) (fun _ h => by cases h) cellsNone_row_tie rfl ⟨rfl, rfl⟩ (by kernel_rfl) rfl
    (fun f fn hf hfn => by
      obtain rfl : f = 8 := Option.some.inj ((show Tryd.prog.funcNamed "vestibule/vestibulelaw05.CellsNone" = some 8 by kernel_rfl).symm.trans hf) |>.symm
      obtain rfl : fn = Tryd.f8 := (Option.some.inj (Tryd.func8.symm.trans hfn)).symm
      exact ⟨by kernel_rfl, fun j t ht => by
        have hm : t ∈ Tryd.f8.params.toList := by simpa using Array.mem_of_getElem? ht
        have hall : (Tryd.f8.params.toList.all fun u => !Tryd.prog.wantsStandIn u) = true := by kernel_rfl
        exact (show Tryd.prog.wantsStandIn t = false by simpa using List.all_eq_true.1 hall t hm)⟩)
    (by kernel_rfl)
#print axioms proved

end Go.Proofs.YthhfpehngdohhaaDoor.cellsNone
