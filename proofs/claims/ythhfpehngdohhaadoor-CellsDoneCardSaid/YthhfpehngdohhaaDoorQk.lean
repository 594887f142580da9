/- The statement CellsDone holds: whatever a program is run on, the places that it comes to are reached, one behind the other on a way, and what is certain at them was written. Over what the calls have to return. -/
import Derived.Test.YthhfpehngdohhaaDoorRows
import Derived.Test.YthhfpehngdohhaaDoorCards
import Derived.Test.YthhfpehngdohhaaDoorTie
import Derived.SevenTiedAt
import Derived.Test.YthhfpehngdohhaaDoorFr
import Derived.Test.YthhfpehngdohhaaDoorLw
import Derived.Test.YthhfpehngdohhaaDoorQj
import Derived.Test.YthhfpehngdohhaaDoorOg
import Derived.Test.YthhfpehngdohhaaDoorId
import Derived.Deep.RegionHeld3
import Derived.BigQuiet
import Derived.Deep.QuietTactic
import Derived.Test.YthhfpehngdohhaaDoorOn
import Derived.Test.YthhfpehngdohhaaDoorOk
import Derived.Test.YthhfpehngdohhaaDoorNp
import Derived.Laws.BitsAllLaws
import Derived.Laws.Shifts
namespace Go.Proofs.YthhfpehngdohhaaDoor.cellsDone
open Go.ChangeShapes Go.WideShapes Go.ChangeAt Go.RowKit
open Go.ChangeMaps (open_string shut_string)
set_option linter.unusedVariables false
attribute [local go_sem ↓] Go.wp_at_zero Go.wp_at_succ

/-- What vm.Trace has to return. -/
def TraceC (G : World → Prop) : Prop := ∀ (a0 : Option Addr) (len cap : Nat) (p : List Ins) (d : Dat) (w : World), G w → p.length = len → len ≤ 1000 → OkL p → d.Ok → RdI w w.heap.size a0 p → Calls Tryd.prog 21 #[.slice a0 len cap, datV d] w (TraceV (runL p d) w)
theorem nine_of {v w' : World} {Bd : Nat} {a1 : Dat} (h : BoxD v Bd a1) (b : Below v.heap.size v w') : w'.cell? ⟨Bd, 0, none⟩ = some (.int .u32 a1.nr) ∧ w'.cell? ⟨Bd, 1, none⟩ = some (.int .u32 a1.arch) ∧ w'.cell? ⟨Bd, 2, none⟩ = some (.int .u64 a1.ip) ∧ w'.cell? ⟨Bd, 3, none⟩ = some (.int .u64 a1.a0) ∧ w'.cell? ⟨Bd, 4, none⟩ = some (.int .u64 a1.a1) ∧ w'.cell? ⟨Bd, 5, none⟩ = some (.int .u64 a1.a2) ∧ w'.cell? ⟨Bd, 6, none⟩ = some (.int .u64 a1.a3) ∧ w'.cell? ⟨Bd, 7, none⟩ = some (.int .u64 a1.a4) ∧ w'.cell? ⟨Bd, 8, none⟩ = some (.int .u64 a1.a5) ∧ Below v.heap.size v w' := by
  obtain ⟨x0, x1, x2, x3, x4, x5, x6, x7, x8⟩ := (h.on b).cells
  exact ⟨x0, x1, x2, x3, x4, x5, x6, x7, x8, b⟩
theorem keepD {v w w' : World} {Bd : Nat} {a1 : Dat} (h : BoxD v Bd a1) (hb : Below w.heap.size w w') (hs : w.cell? ⟨Bd, 0, none⟩ = some (.int .u32 a1.nr) ∧ w.cell? ⟨Bd, 1, none⟩ = some (.int .u32 a1.arch) ∧ w.cell? ⟨Bd, 2, none⟩ = some (.int .u64 a1.ip) ∧ w.cell? ⟨Bd, 3, none⟩ = some (.int .u64 a1.a0) ∧ w.cell? ⟨Bd, 4, none⟩ = some (.int .u64 a1.a1) ∧ w.cell? ⟨Bd, 5, none⟩ = some (.int .u64 a1.a2) ∧ w.cell? ⟨Bd, 6, none⟩ = some (.int .u64 a1.a3) ∧ w.cell? ⟨Bd, 7, none⟩ = some (.int .u64 a1.a4) ∧ w.cell? ⟨Bd, 8, none⟩ = some (.int .u64 a1.a5) ∧ Below v.heap.size v w) : w'.cell? ⟨Bd, 0, none⟩ = some (.int .u32 a1.nr) ∧ w'.cell? ⟨Bd, 1, none⟩ = some (.int .u32 a1.arch) ∧ w'.cell? ⟨Bd, 2, none⟩ = some (.int .u64 a1.ip) ∧ w'.cell? ⟨Bd, 3, none⟩ = some (.int .u64 a1.a0) ∧ w'.cell? ⟨Bd, 4, none⟩ = some (.int .u64 a1.a1) ∧ w'.cell? ⟨Bd, 5, none⟩ = some (.int .u64 a1.a2) ∧ w'.cell? ⟨Bd, 6, none⟩ = some (.int .u64 a1.a3) ∧ w'.cell? ⟨Bd, 7, none⟩ = some (.int .u64 a1.a4) ∧ w'.cell? ⟨Bd, 8, none⟩ = some (.int .u64 a1.a5) ∧ Below v.heap.size v w' := nine_of h (thn hs.2.2.2.2.2.2.2.2.2 hb)
theorem way_ge {p : List Ins} {l : List Nat} (h : Way p l) : ∀ i, i < l.length → i ≤ l.getD i 0
  | 0, _ => Nat.zero_le _
  | i + 1, hi => by
    have h1 := way_ge h i (by omega)
    have h2 := (nextL_lt (way_next h hi)).1
    omega
theorem way_len {p : List Ins} {l : List Nat} (h : Way p l) : l.length ≤ p.length := by
  by_cases h0 : l.length = 0
  · omega
  · have h1 := way_ge h (l.length - 1) (by omega)
    have h2 := way_lt h (i := l.length - 1) (by omega)
    omega
theorem addBit_at {p : List Ins} {s x : Nat} {y : Ins} (h : p[x]? = some y) : addBit p s x = if ((y.c == 2 || y.c == 3) && decide (y.k < 16)) = true then s ||| 2 ^ y.k.toNat else s := by
  unfold addBit; rw [h]
set_option maxRecDepth 100000 in
set_option maxHeartbeats 32000000 in
theorem walk {G : World → Prop} (HC : CellsC G) (HT : TraceC G) (a0 : Option Addr) (len0 cap0 : Nat) (z0 : List Ins) (a1 : Dat) (w : World) (hG : G w) (w0 : IsInsns w a0 len0 cap0 z0) (w1 : a1.Ok) :
    Calls Tryd.prog 6 #[.slice a0 len0 cap0, datV a1] w fun e w' => e = .returned (.bool true) ∧ Below w.heap.size w w' := by
  have bx := BoxD.new w a1
  have HB0 := Lib.hid (show Below w.heap.size w (w.alloc (.cells (datC a1) 43)) from (Below.refl _ _).alloc (Nat.le_refl _) _)
  have hG1 := HC.al hG (.cells (datC a1) 43)
  have HA := Lib.hid (awake5_any HC (w.alloc (.cells (datC a1) 43)) hG1)
  have HX := Lib.hid bx
  by_cases hbig : (300 : Int) < len0
  · clear HC HT hG w0 w1 bx hG1
    unfold datV datC at *
    go_enter Tryd.func6, Tryd.ntmps6
    go_wp2_with (go_at_call 20; ((with_reducible refine (HA.out).mono ?_); rintro e v1 ⟨rfl, b1⟩))
    go_ret
    exact ⟨rfl, HB0.out.trans (b1.mono (by simp))⟩
  have HON := Lib.hid (fun (w w' : World) => HC.on (w := w) (w' := w'))
  have HG1 := Lib.hid hG1
  have HRE := Lib.hid (fun (W : World) (g : G W) (h : RdI W W.heap.size a0 z0) => HC.reached a0 len0 cap0 z0 W g w0.size w0.ok w0.fits w0.most w0.nil h)
  have HSU := Lib.hid (fun (W : World) (g : G W) (h : RdI W W.heap.size a0 z0) => HC.sure a0 len0 cap0 z0 W g w0.size w0.ok w0.fits w0.most w0.nil h)
  rw [show lenX len0 = len0 from if_pos (by omega)] at HRE HSU
  have HNX := Lib.hid (fun (W : World) (i : Nat) (hi : i < len0) (g : G W) (h : RdI W W.heap.size a0 z0) => show Calls Tryd.prog 13 #[.slice a0 len0 cap0, .int .i64 (i : Int)] W (NextTo (nextL z0 i) W) from by
    have h := HC.next a0 len0 cap0 z0 (i : Int) W g w0.size w0.ok w0.fits w0.most w0.nil (by omega) (by omega) h
    rw [show nextX z0 (i : Int) = nextL z0 i from by unfold nextX; rw [if_pos (by have := w0.size; omega), nextA_nat]] at h
    exact h)
  have HTR := Lib.hid (fun (W : World) (g : G W) (h : RdI W W.heap.size a0 z0) => HT a0 len0 cap0 z0 a1 W g w0.size (by omega) w0.ok w1 h)
  have HW := Lib.hid (runL_way w0.ok a1)
  obtain ⟨pl, hpl⟩ : ∃ pl, pl = (runL z0 a1).pl := ⟨_, rfl⟩
  unfold BoolsTo at HRE
  unfold SetsTo at HSU
  unfold TraceV at HTR
  rw [← hpl] at HTR HW
  obtain ⟨m, hm⟩ : ∃ m, m = pl.length := ⟨_, rfl⟩
  rw [← hm] at HTR
  have HM := Lib.hid hm
  have R0 := Lib.hid (w0.rd.on HB0.out)
  have HL := Lib.hid w0.size
  have HOK := Lib.hid w0.ok
  have e1 : (len0 : Int) ≤ 300 := by omega
  have t4 : ((len0 : Int) != len0) = false := by simp
  clear HC HT hG w0 w1 bx hG1 hpl hm
  have hmono : w.heap.size ≤ (w.alloc (.cells (datC a1) 43)).heap.size := by rw [World.size_alloc]; omega
  unfold datV at HTR ⊢
  unfold datC at HTR HB0 HG1 HA HX R0 hmono ⊢
  go_enter Tryd.func6, Tryd.ntmps6
  go_wp2_with (go_at_call 20; ((with_reducible refine (HA.out).mono ?_); rintro e v1 ⟨rfl, b1⟩); have G1 := Lib.hid (HON.out _ _ HG1.out b1); have R1 := Lib.hid (R0.out.on b1); have B1 := Lib.hid (HB0.out.trans (b1.mono hmono)); have X1 := Lib.hid (BoxD.on (d := a1) HX.out b1); clear b1)
  clear HA HX R0 HG1
  go_region_held3 (fun w' => w'.cell? ⟨w.heap.size, 0, none⟩ = some (.int .u32 a1.nr) ∧ w'.cell? ⟨w.heap.size, 1, none⟩ = some (.int .u32 a1.arch) ∧ w'.cell? ⟨w.heap.size, 2, none⟩ = some (.int .u64 a1.ip) ∧ w'.cell? ⟨w.heap.size, 3, none⟩ = some (.int .u64 a1.a0) ∧ w'.cell? ⟨w.heap.size, 4, none⟩ = some (.int .u64 a1.a1) ∧ w'.cell? ⟨w.heap.size, 5, none⟩ = some (.int .u64 a1.a2) ∧ w'.cell? ⟨w.heap.size, 6, none⟩ = some (.int .u64 a1.a3) ∧ w'.cell? ⟨w.heap.size, 7, none⟩ = some (.int .u64 a1.a4) ∧ w'.cell? ⟨w.heap.size, 8, none⟩ = some (.int .u64 a1.a5) ∧ Below v1.heap.size v1 w') (first | with_reducible assumption | exact nine_of X1.out (Below.refl _ _).drew | exact keepD X1.out (by assumption) (by assumption)) (first
    | (go_at_call 10; refine (HRE.out _ (HON.out _ _ G1.out (by assumption : _ ∧ _ ∧ _ ∧ _ ∧ _ ∧ _ ∧ _ ∧ _ ∧ _ ∧ Below _ _ _).2.2.2.2.2.2.2.2.2) (R1.out.on (by assumption : _ ∧ _ ∧ _ ∧ _ ∧ _ ∧ _ ∧ _ ∧ _ ∧ _ ∧ Below _ _ _).2.2.2.2.2.2.2.2.2)).mono ?_; rintro e v2 ⟨q2, c2, rfl, o2, b2⟩)
    | (go_at_call 16; refine (HSU.out _ (HON.out _ _ G1.out (by assumption : _ ∧ _ ∧ _ ∧ _ ∧ _ ∧ _ ∧ _ ∧ _ ∧ _ ∧ Below _ _ _).2.2.2.2.2.2.2.2.2) (R1.out.on (by assumption : _ ∧ _ ∧ _ ∧ _ ∧ _ ∧ _ ∧ _ ∧ _ ∧ _ ∧ Below _ _ _).2.2.2.2.2.2.2.2.2)).mono ?_; rintro e v3 ⟨q3, c3, rfl, o3, b3⟩; have o23 := own_on o2 b3)
    | (go_at_call 21; refine (HTR.out _ (HON.out _ _ G1.out (by assumption : _ ∧ _ ∧ _ ∧ _ ∧ _ ∧ _ ∧ _ ∧ _ ∧ _ ∧ Below _ _ _).2.2.2.2.2.2.2.2.2) (R1.out.on (by assumption : _ ∧ _ ∧ _ ∧ _ ∧ _ ∧ _ ∧ _ ∧ _ ∧ _ ∧ Below _ _ _).2.2.2.2.2.2.2.2.2)).mono ?_; rintro e v4 ⟨q4, c4, rfl, o4, b4⟩; have o24 := own_on o23 b4; have o34 := own_on o3 b4))
  have B4 := Lib.hid (by assumption : _ ∧ _ ∧ _ ∧ _ ∧ _ ∧ _ ∧ _ ∧ _ ∧ _ ∧ Below _ _ _).2.2.2.2.2.2.2.2.2
  have G4 := Lib.hid (HON.out _ _ G1.out B4.out)
  have R4 := Lib.hid (R1.out.on B4.out)
  have B04 := Lib.hid (thn B1.out B4.out)
  have O2 := Lib.hid o24
  have O3 := Lib.hid o34
  have O4 := Lib.hid o4
  have m1 : (m : Int) ≤ 300 := by
    have h := way_len HW.out
    rw [HL.out, ← HM.out] at h
    omega
  clear o2 b2 o3 b3 o23 o4 b4 o24 o34
  go_wp2_with fail
  go_loopw [8, 9] (fun v8 v9 wr => ∃ i : Nat, i ≤ m ∧ v9 = .int .i64 i ∧ v8 = .int .u16 ((wrote z0 pl i : Nat) : Int) ∧ Hid (Below v4.heap.size v4 wr)) (fun _ v9 _ => m - (intOf v9).toNat)
  case atStart => exact ⟨0, Nat.zero_le _, rfl, rfl, Lib.hid (Below.refl _ _)⟩
  case round =>
    obtain ⟨i, hi, rfl, rfl, HB⟩ := hrel
    obtain ⟨W, rfl⟩ : ∃ wo : World, wo = wr := ⟨_, rfl⟩
    by_cases hlt : i < m
    · have hil : i < pl.length := by rw [← HM.out]; exact hlt
      have hxl := way_lt HW.out hil
      rw [HL.out] at hxl
      have hre := way_reach HW.out hil
      have hsu := done_sure HW.out hil
      have hwl := wrote_lt z0 pl i
      have hWS := Lib.hid (show wrote z0 pl (i + 1) = addBit z0 (wrote z0 pl i) (pl.getD i 0) from rfl)
      have h4 := own_on O4.out HB.out
      rw [HM.out] at h4
      obtain ⟨g4, hq4, hg4, hc4⟩ := pl_cells' h4 (by omega)
      subst hq4
      have c4 := hc4 i hil
      have HWN := Lib.hid (fun h => way_next (i := i) HW.out h)
      have HC4 := Lib.hid hc4
      obtain ⟨x, hx⟩ : ∃ x, x = pl.getD i 0 := ⟨_, rfl⟩
      rw [← hx] at c4 hxl hre hsu hWS HWN
      have h2 := own_on O2.out HB.out
      have h3 := own_on O3.out HB.out
      obtain ⟨g2, d2, e2⟩ := own_some h2 (by omega)
      obtain ⟨g3, d3, e3⟩ := own_some h3 (by omega)
      injection e2 with e21 e22 e23
      injection e3 with e31 e32 e33
      subst e21 e31
      have c2x : W.cell? ⟨g2, x, none⟩ = some (.bool (reachB z0 x)) := (h2.cellAt x (by omega)).trans (rowB_get _ hxl)
      rw [hre] at c2x
      have c3x : W.cell? ⟨g3, x, none⟩ = some (.int .u16 ((sureN z0 x : Nat) : Int)) := (h3.cellAt x (by omega)).trans (rowS_get _ hxl)
      have han := u16_andNot_nat (sureN z0 x) (wrote z0 pl i) (sureN_lt z0 x) hwl
      rw [hsu] at han
      have hkl : x < z0.length := by rw [HL.out]; exact hxl
      obtain ⟨b, o, rfl, hb, hcs⟩ := R4.out (by omega)
      have hat := hcs x hkl
      have hyo := HOK.out.get hkl
      have hyx : z0[x]? = some z0[x] := List.getElem?_eq_getElem hkl
      obtain ⟨y, hy⟩ : ∃ y, y = z0[x] := ⟨_, rfl⟩
      rw [← hy] at hat hyo hyx
      have hnew := hWS.out.trans (addBit_at hyx)
      obtain ⟨c, jt, jf, kk⟩ := y
      have k0 : 0 ≤ kk := hyo.k0
      simp only at hnew
      obtain ⟨kn, rfl⟩ := Int.eq_ofNat_of_zero_le k0
      rw [Int.toNat_natCast] at hnew
      obtain ⟨sv, hsv⟩ : ∃ s, s = sureN z0 x := ⟨_, rfl⟩
      obtain ⟨wv, hwv⟩ : ∃ s, s = wrote z0 pl i := ⟨_, rfl⟩
      rw [← hsv] at c3x han
      rw [← hwv] at han hnew hwl ⊢
      have HAT := Lib.hid hat
      have HNEW := Lib.hid hnew
      have HWL := Lib.hid (show wv < 65536 from hwl)
      have hgW := Lib.hid (HON.out _ _ G4.out HB.out)
      have x1 : (x : Int) < len0 := by omega
      have x0 : (0 : Int) ≤ x := by omega
      have x2 : ¬ (len0 : Int) ≤ x := by omega
      have x3 : decide ((len0 : Int) ≤ x) = false := decide_eq_false x2
      have i1 : (i : Int) < m := by omega
      have i0 : (0 : Int) ≤ i := by omega
      clear hil hre hsu hWS h4 hg4 hc4 hx h2 h3 e22 e23 e32 e33 hkl hb hcs hat hyx hy hnew hyo k0 hsv hwv hwl
      by_cases hnx : i + 1 < m
      · have hyn := HWN.out (by rw [← HM.out]; exact hnx)
        have c5 := HC4.out (i + 1) (by rw [← HM.out]; exact hnx)
        obtain ⟨z, hz⟩ : ∃ z, z = pl.getD (i + 1) 0 := ⟨_, rfl⟩
        rw [← hz] at hyn c5
        have HNX' := Lib.hid (HNX.out W x hxl hgW.out (RdI.on R4.out HB.out))
        obtain ⟨l, hll⟩ : ∃ l, l = nextL z0 x := ⟨_, rfl⟩
        have hl2 : l.length ≤ 2 := by rw [hll]; exact nextL_length z0 x
        rw [← hll] at HNX' hyn
        obtain ⟨mk, hmk⟩ : ∃ m, m = l.length := ⟨_, rfl⟩
        unfold NextTo at HNX'
        rw [← hmk] at HNX' hl2
        have HMK := Lib.hid hmk
        have HYN := Lib.hid (show l.contains z = true from List.contains_iff_mem.2 hyn)
        have j1 : (i : Int) + 1 < m := by omega
        have j2 : (0 : Int) ≤ (i : Int) + 1 := by omega
        have hg4W : g4 < v4.heap.size := (O4.out.lt g4 rfl).2
        have C5 := Lib.hid c5
        clear hyn hll hmk hz HNX HWN
        go_wp2_with (go_at_call 13; ((with_reducible refine (HNX'.out).mono ?_); rintro e w2 ⟨q, cc, rfl, o2, b2⟩); have P2 := Lib.hid o2; have P5 := Lib.hid ((b2.cell (World.block_lt_of_cell? W _ C5.out)).trans C5.out); have P3 := Lib.hid (thn HB.out b2); clear o2 b2)
        go_loopw [12, 13] (fun v12 v13 wr => ∃ (k : Nat) (r : Bool), k ≤ mk ∧ v13 = .int .i64 k ∧ v12 = .bool r ∧ Hid (r = (l.take k).contains z) ∧ Hid (wr.ownsRow W.heap.size 3 1 (.slice q mk cc) mk (plV l)) ∧ Hid (wr.cell? ⟨g4, i + 1, none⟩ = some (.int .i64 z)) ∧ Hid (Below v4.heap.size v4 wr)) (fun _ v13 _ => mk - (intOf v13).toNat)
        case atStart => exact ⟨0, false, Nat.zero_le _, rfl, rfl, Lib.hid (by simp), P2, P5, P3⟩
        case round =>
          clear P2 P5 P3 HB HNX' c2x c3x c4 c5
          obtain ⟨k, r, hk, rfl, rfl, HR, P2, P5, P3⟩ := hrel
          obtain ⟨V, rfl⟩ : ∃ wo : World, wo = wr := ⟨_, rfl⟩
          by_cases hlk : k < mk
          · have h2 := P2.out
            rw [HMK.out] at h2
            obtain ⟨g, hq, hgB, hc⟩ := pl_cells' h2 (by have := HMK.out; omega)
            subst hq
            have c1 := hc k (by have := HMK.out; omega)
            have htk := Lib.hid (take_contains (l := l) (k := k) (by have := HMK.out; omega) z)
            obtain ⟨t, ht⟩ : ∃ t, t = l.getD k 0 := ⟨_, rfl⟩
            rw [← ht, ← HR.out] at htk
            rw [← ht] at c1
            have p5 := P5.out
            have k1 : (k : Int) < mk := by omega
            have k2 : (0 : Int) ≤ k := by omega
            clear h2 hgB hc ht HAT HNEW HR
            cases r with
            | true =>
              go_wp2_with fail
              go_quiet (fail)
              go_wp2_with fail
              go_roundw
              case rel => exact ⟨k + 1, true, by omega, by go_num, rfl, Lib.hid (by rw [htk.out]; rfl), P2, P5, Lib.hid (below_drewN P3.out _)⟩
              case measure => simp [intOf]; omega
            | false =>
              by_cases hzt : t = z
              · subst hzt
                have tt : ((t : Int) == t) = true := by simp
                go_wp2_with fail
                go_quiet (fail)
                go_wp2_with fail
                go_roundw
                case rel => exact ⟨k + 1, true, by omega, by go_num, rfl, Lib.hid (by rw [htk.out]; simp), P2, P5, Lib.hid (below_drewN P3.out _)⟩
                case measure => simp [intOf]; omega
              · have tt : ((t : Int) == z) = false := beq_eq_false_iff_ne.2 (fun e => hzt (by omega))
                have tn : ¬ (t : Int) = z := fun e => hzt (by omega)
                go_wp2_with fail
                go_quiet (fail)
                go_wp2_with fail
                go_roundw
                case rel => exact ⟨k + 1, false, by omega, by go_num, rfl, Lib.hid (by rw [htk.out, Bool.false_or, eq_comm]; exact beq_eq_false_iff_ne.2 (fun e => hzt e.symm)), P2, P5, Lib.hid (below_drewN P3.out _)⟩
                case measure => simp [intOf]; omega
          · obtain rfl : mk = k := by omega
            have hr := HR.out
            rw [List.take_of_length_le (by rw [← HMK.out]; exact Nat.le_refl _), HYN.out] at hr
            subst hr
            clear HR P2 P5
            obtain ⟨q0, q1, q2, q3⟩ := insAt_on HAT.out P3.out
            simp only at q0 q1 q2 q3
            have HQ := Lib.hid P3.out
            by_cases h2 : c = 2
            · have f2 : (c == 2) = true := beq_iff_eq.2 h2
              by_cases hk : kn < 16
              · have hnew := HNEW.out
                have hk1 : (kn : Int) < 16 := by omega
                have hk2 : decide ((kn : Int) < 16) = true := decide_eq_true hk1
                have hk3 : ¬ (16 : Int) ≤ kn := by omega
                rw [show ((c == 2 || c == 3) && decide ((kn : Int) < 16)) = true from by rw [hk2, Bool.and_true]; rcases (Or.inl h2 : c = 2 ∨ c = 3) with h | h <;> rw [h] <;> rfl] at hnew
                have HN2 := Lib.hid hnew
                have hsh := one_shl hk
                have hpl : 2 ^ kn < 65536 := by
                  have : (2 : Nat) ^ kn ≤ 2 ^ 15 := Nat.pow_le_pow_right (by decide) (by omega)
                  omega
                obtain ⟨pw, hpw⟩ : ∃ s : Nat, s = 2 ^ kn := ⟨_, rfl⟩
                have hor := u16_or_nat wv (2 ^ kn) HWL.out hpl
                rw [← hpw] at hsh hor
                have HPW := Lib.hid hpw
                clear hnew HNEW HAT hpl hpw
                go_wp2_with fail
                go_roundw
                case rel => exact ⟨i + 1, by omega, by go_num, by rw [HN2.out, HPW.out]; rfl, HQ⟩
                case measure => simp [intOf]; omega
              · have hnew := HNEW.out
                have hk1 : ¬ (kn : Int) < 16 := by omega
                have hk2 : decide ((kn : Int) < 16) = false := decide_eq_false hk1
                have hk4 : (16 : Int) ≤ kn := by omega
                rw [hk2, Bool.and_false] at hnew
                have HN2 := Lib.hid hnew
                clear hnew HNEW HAT
                go_wp2_with fail
                go_roundw
                case rel => exact ⟨i + 1, by omega, by go_num, by rw [HN2.out]; rfl, HQ⟩
                case measure => simp [intOf]; omega
            · have f2 : (c == 2) = false := beq_eq_false_iff_ne.2 h2
              by_cases h3 : c = 3
              · have f3 : (c == 3) = true := beq_iff_eq.2 h3
                by_cases hk : kn < 16
                · have hnew := HNEW.out
                  have hk1 : (kn : Int) < 16 := by omega
                  have hk2 : decide ((kn : Int) < 16) = true := decide_eq_true hk1
                  have hk3 : ¬ (16 : Int) ≤ kn := by omega
                  rw [show ((c == 2 || c == 3) && decide ((kn : Int) < 16)) = true from by rw [hk2, Bool.and_true]; rcases (Or.inr h3 : c = 2 ∨ c = 3) with h | h <;> rw [h] <;> rfl] at hnew
                  have HN2 := Lib.hid hnew
                  have hsh := one_shl hk
                  have hpl : 2 ^ kn < 65536 := by
                    have : (2 : Nat) ^ kn ≤ 2 ^ 15 := Nat.pow_le_pow_right (by decide) (by omega)
                    omega
                  obtain ⟨pw, hpw⟩ : ∃ s : Nat, s = 2 ^ kn := ⟨_, rfl⟩
                  have hor := u16_or_nat wv (2 ^ kn) HWL.out hpl
                  rw [← hpw] at hsh hor
                  have HPW := Lib.hid hpw
                  clear hnew HNEW HAT hpl hpw
                  go_wp2_with fail
                  go_roundw
                  case rel => exact ⟨i + 1, by omega, by go_num, by rw [HN2.out, HPW.out]; rfl, HQ⟩
                  case measure => simp [intOf]; omega
                · have hnew := HNEW.out
                  have hk1 : ¬ (kn : Int) < 16 := by omega
                  have hk2 : decide ((kn : Int) < 16) = false := decide_eq_false hk1
                  have hk4 : (16 : Int) ≤ kn := by omega
                  rw [hk2, Bool.and_false] at hnew
                  have HN2 := Lib.hid hnew
                  clear hnew HNEW HAT
                  go_wp2_with fail
                  go_roundw
                  case rel => exact ⟨i + 1, by omega, by go_num, by rw [HN2.out]; rfl, HQ⟩
                  case measure => simp [intOf]; omega
              · have f3 : (c == 3) = false := beq_eq_false_iff_ne.2 h3
                have hnew := HNEW.out
                rw [f2, f3] at hnew
                have HN2 := Lib.hid hnew
                clear hnew h2 h3 HNEW HAT
                go_wp2_with fail
                go_roundw
                case rel => exact ⟨i + 1, by omega, by go_num, by rw [HN2.out]; rfl, HQ⟩
                case measure => simp [intOf]; omega
      · have j1 : ¬ (i : Int) + 1 < m := by omega
        obtain ⟨q0, q1, q2, q3⟩ := insAt_on HAT.out HB.out
        simp only at q0 q1 q2 q3
        have HQ := Lib.hid HB.out
        by_cases h2 : c = 2
        · have f2 : (c == 2) = true := beq_iff_eq.2 h2
          by_cases hk : kn < 16
          · have hnew := HNEW.out
            have hk1 : (kn : Int) < 16 := by omega
            have hk2 : decide ((kn : Int) < 16) = true := decide_eq_true hk1
            have hk3 : ¬ (16 : Int) ≤ kn := by omega
            rw [show ((c == 2 || c == 3) && decide ((kn : Int) < 16)) = true from by rw [hk2, Bool.and_true]; rcases (Or.inl h2 : c = 2 ∨ c = 3) with h | h <;> rw [h] <;> rfl] at hnew
            have HN2 := Lib.hid hnew
            have hsh := one_shl hk
            have hpl : 2 ^ kn < 65536 := by
              have : (2 : Nat) ^ kn ≤ 2 ^ 15 := Nat.pow_le_pow_right (by decide) (by omega)
              omega
            obtain ⟨pw, hpw⟩ : ∃ s : Nat, s = 2 ^ kn := ⟨_, rfl⟩
            have hor := u16_or_nat wv (2 ^ kn) HWL.out hpl
            rw [← hpw] at hsh hor
            have HPW := Lib.hid hpw
            clear hnew HNEW HAT hpl hpw
            go_wp2_with fail
            go_roundw
            case rel => exact ⟨i + 1, by omega, by go_num, by rw [HN2.out, HPW.out]; rfl, HQ⟩
            case measure => simp [intOf]; omega
          · have hnew := HNEW.out
            have hk1 : ¬ (kn : Int) < 16 := by omega
            have hk2 : decide ((kn : Int) < 16) = false := decide_eq_false hk1
            have hk4 : (16 : Int) ≤ kn := by omega
            rw [hk2, Bool.and_false] at hnew
            have HN2 := Lib.hid hnew
            clear hnew HNEW HAT
            go_wp2_with fail
            go_roundw
            case rel => exact ⟨i + 1, by omega, by go_num, by rw [HN2.out]; rfl, HQ⟩
            case measure => simp [intOf]; omega
        · have f2 : (c == 2) = false := beq_eq_false_iff_ne.2 h2
          by_cases h3 : c = 3
          · have f3 : (c == 3) = true := beq_iff_eq.2 h3
            by_cases hk : kn < 16
            · have hnew := HNEW.out
              have hk1 : (kn : Int) < 16 := by omega
              have hk2 : decide ((kn : Int) < 16) = true := decide_eq_true hk1
              have hk3 : ¬ (16 : Int) ≤ kn := by omega
              rw [show ((c == 2 || c == 3) && decide ((kn : Int) < 16)) = true from by rw [hk2, Bool.and_true]; rcases (Or.inr h3 : c = 2 ∨ c = 3) with h | h <;> rw [h] <;> rfl] at hnew
              have HN2 := Lib.hid hnew
              have hsh := one_shl hk
              have hpl : 2 ^ kn < 65536 := by
                have : (2 : Nat) ^ kn ≤ 2 ^ 15 := Nat.pow_le_pow_right (by decide) (by omega)
                omega
              obtain ⟨pw, hpw⟩ : ∃ s : Nat, s = 2 ^ kn := ⟨_, rfl⟩
              have hor := u16_or_nat wv (2 ^ kn) HWL.out hpl
              rw [← hpw] at hsh hor
              have HPW := Lib.hid hpw
              clear hnew HNEW HAT hpl hpw
              go_wp2_with fail
              go_roundw
              case rel => exact ⟨i + 1, by omega, by go_num, by rw [HN2.out, HPW.out]; rfl, HQ⟩
              case measure => simp [intOf]; omega
            · have hnew := HNEW.out
              have hk1 : ¬ (kn : Int) < 16 := by omega
              have hk2 : decide ((kn : Int) < 16) = false := decide_eq_false hk1
              have hk4 : (16 : Int) ≤ kn := by omega
              rw [hk2, Bool.and_false] at hnew
              have HN2 := Lib.hid hnew
              clear hnew HNEW HAT
              go_wp2_with fail
              go_roundw
              case rel => exact ⟨i + 1, by omega, by go_num, by rw [HN2.out]; rfl, HQ⟩
              case measure => simp [intOf]; omega
          · have f3 : (c == 3) = false := beq_eq_false_iff_ne.2 h3
            have hnew := HNEW.out
            rw [f2, f3] at hnew
            have HN2 := Lib.hid hnew
            clear hnew h2 h3 HNEW HAT
            go_wp2_with fail
            go_roundw
            case rel => exact ⟨i + 1, by omega, by go_num, by rw [HN2.out]; rfl, HQ⟩
            case measure => simp [intOf]; omega
    · obtain rfl : i = m := by omega
      go_wp2_with fail
      go_ret
      exact ⟨rfl, thn B04.out HB.out⟩
theorem traceC : TraceC GW := fun a0 len cap p d w hG hl hn hp hd hr => lTrace a0 len cap p d w hG hl hn hp hd hr

set_option maxRecDepth 100000 in
theorem lifted (HC : CellsC GW) (HT : TraceC GW) (os : Os) (started : os.Started) (H : Type) (enc : TypeId × Value → H) :
    ReturnsInHanded {} Tryd.checked os 6 .any (fun w args => (Rows.cellsDoneSpec.pre enc Tryd.prog Tryd.f6 [] false w args ∧ laidMetH Tryd.prog listed w) ∧ sizedMet enc Tryd.prog Tryd.f6 (OpenSpec.ofChange Rows.cellsDoneSpec) false w args)
      (Rows.cellsDoneSpec.post enc Tryd.prog Tryd.f6 false true false false) := by
  refine returnsInHanded_of_change_and (C := Tryd.checked) (X := fun w _ => laidMetH Tryd.prog listed w) (fun _ _ _ hh h => h.of_heap hh) ownKnob_none started (by kernel_rfl) Tryd.func6
    (ChangeSpec.witness_shaped (enc := enc) (C := Tryd.checked) (os := os) (X := fun w _ => laidMetH Tryd.prog listed w) false (World.doorLaid Tryd.prog 400 os) #[.slice none 0 0, .agg #[.int .u32 0, .int .u32 0, .int .u64 0, .int .u64 0, .int .u64 0, .int .u64 0, .int .u64 0, .int .u64 0, .int .u64 0]] 8 rfl (World.shaped_of_RefB (by kernel_rfl) (by kernel_rfl)) (by kernel_rfl) (by kernel_rfl) (by kernel_rfl) (door_met os _)) ?_
  intro W base args ds gs before hval0 hW _ _ hL _
  have hG : GW W := of_laid hL
  have hval : ∀ (j : Nat) t v, Tryd.f6.params[j]? = some t → args[j]? = some v → Value.okWide Tryd.prog W .any base t v := hval0
  have hW' := hW
  obtain ⟨p, q, hA0, hV, rfl, hfz, hnd⟩ := hW
  have hA : DataW.TrodAll enc Tryd.prog W 0 (fun _ => true) true Tryd.f6.params.toList args.toList ds p := hA0
  rw [Tryd.params6] at hA hval
  obtain ⟨v0, vs0, d0, ds0, p0, q0, hargs, rfl, rfl, h0, r0⟩ := trodAll_cons hA
  obtain ⟨v1, vs1, d1, ds1, p1, q1, rfl, rfl, rfl, h1, r1⟩ := trodAll_cons r0
  obtain ⟨rfl, rfl, rfl⟩ := trodAll_nil r1
  obtain rfl : args = #[v0, v1] := by cases args; simp_all
  obtain ⟨rfl, rfl⟩ := trodVars_none hV
  obtain ⟨a0, len0, cap0, rfl⟩ := okWide_slice Tryd.underlying22 (hval 0 22 v0 rfl rfl)
  have k0 := h0
  have lt0 : ∀ x ∈ p0, x.block < W.heap.size := by obtain ⟨m, hm⟩ := k0; exact DataW.trod_lt m _ _ _ hm
  obtain ⟨z0, w0⟩ := insns_open h0 lt0
  have k1 := h1
  have lt1 : ∀ x ∈ p1, x.block < W.heap.size := by obtain ⟨m, hm⟩ := k1; exact DataW.trod_lt m _ _ _ hm
  obtain ⟨a1, w1, rfl⟩ := data_open (hval 1 43 v1 rfl rfl) h1
  clear hA0 hval0
  refine (walk HC HT a0 len0 cap0 z0 a1 W hG w0 w1).mono fun e W' ⟨he, bel⟩ => ?_
  subst he
  exact ⟨_, rfl, _, _, _, [], _, [], hW', trodAll_mk1 (shut_bool Tryd.underlying4 _), (trodAll_cons_mk (Below.trod laidOut (by kernel_rfl) (of_decide_eq_true (by kernel_rfl)) k0 bel lt0) (trodAll_cons_mk (Below.trod laidOut (by kernel_rfl) (of_decide_eq_true (by kernel_rfl)) k1 bel lt1) trodAll_mk0)), rfl, bel.frame _, fun h => by cases h⟩

theorem over (HC : CellsC GW) (HT : TraceC GW) : Rows.cellsDoneRow.holds Tryd.pinned (OpenSpec.ofChange Rows.cellsDoneSpec) :=
  OpenClaim.holds_of_wide 6 Tryd.f6 rfl rfl rfl rfl rfl rfl rfl ⟨rfl, rfl, rfl, rfl, rfl⟩ rfl rfl rfl rfl rfl (by kernel_rfl) Tryd.func6 (by kernel_rfl)
    (of_decide_eq_true (by kernel_rfl)) (by unfold Func.isWrapper; first | (rw [if_pos (by decide +kernel)]; kernel_rfl) | (rw [if_neg (by decide +kernel)]; exact ⟨rfl, rfl⟩))
    (fun os started H enc _ => lifted HC HT os started H enc)

/-- The row's statement. -/
theorem row_holds : Rows.CellsDoneSaid := over cellsC traceC
/-- The statement: the row, its table tied to the program's text. -/
theorem proved : Rows.CellsDoneCardSaid :=
  Claim7.holds_tied_plain_at .later [] [.data] true Rows.cellsDoneCard.stood.harness Rows.cellsDoneCard.stood.looks
    row_holds (fun _ h => by cases h) (by kernel_rfl) (fun _ h => by cases h) cellsDone_row_tie rfl ⟨rfl, rfl⟩ (by kernel_rfl) rfl
    (fun f fn hf hfn => by
      obtain rfl : f = 6 := Option.some.inj ((show Tryd.prog.funcNamed "vestibule/vestibulelaw05.CellsDone" = some 6 by kernel_rfl).symm.trans hf) |>.symm
      obtain rfl : fn = Tryd.f6 := (Option.some.inj (Tryd.func6.symm.trans hfn)).symm
      exact ⟨by kernel_rfl, fun j t ht => by
        have hm : t ∈ Tryd.f6.params.toList := by simpa using Array.mem_of_getElem? ht
        have hall : (Tryd.f6.params.toList.all fun u => !Tryd.prog.wantsStandIn u) = true := by kernel_rfl
        exact (show Tryd.prog.wantsStandIn t = false by simpa using List.all_eq_true.1 hall t hm)⟩)
    (by kernel_rfl)
#print axioms proved
end Go.Proofs.YthhfpehngdohhaaDoor.cellsDone
