/- The statement InsnPrint holds: any program has the bytes that the chapter says, and what is told is the caller's own. No condition. -/
import Derived.Test.YtekmbhjdacaphaaRows
import Derived.Test.YtekmbhjdacaphaaFr
import Derived.Test.YtekmbhjdacaphaaIn
import Derived.Test.YtekmbhjdacaphaaWg
import Derived.Deep.RegionHeld3
import Derived.Deep.DrawnRows
import Derived.Test.YtekmbhjdacaphaaFi
namespace Go.Proofs.Ytekmbhjdacaphaa.insnPrint
open Go.ChangeShapes Go.WideShapes Go.ChangeAt Go.RowKit
open Go.ChangeMaps (open_string shut_string)
set_option linter.unusedVariables false
attribute [local go_sem ↓] Go.wp_at_zero Go.wp_at_succ

/-- Bytes that the call owns, whatever they are, in a slice of whatever shape. -/
def MineV (w : World) (B : Nat) (v : Value) (n : Nat) : Prop := ∃ l : List Int, w.ownsRow B 5 1 v n (bv l)
theorem MineV.on {w w' : World} {B n : Nat} {v : Value} (h : MineV w B v n) (hb : Below w.heap.size w w') : MineV w' B v n := by
  obtain ⟨l, h⟩ := h
  exact ⟨l, own_on h hb⟩
theorem MineV.form {w : World} {B n d : Nat} {p : Option Addr} (h : MineV w B (.slice p n d) n) (hn : 0 < n) : ∃ g, p = some ⟨g, 0, none⟩ ∧ B ≤ g := by
  obtain ⟨l, h⟩ := h
  obtain ⟨g, c, e⟩ := own_some h hn
  injection e with e1 e2 e3
  subst e1
  exact ⟨g, rfl, (h.lt g rfl).1⟩
theorem MineV.cell {w : World} {B g n d j : Nat} (m : MineV w B (.slice (some ⟨g, 0, none⟩) n d) n) (hj : j < n) : (∃ v, w.cell? ⟨g, j, none⟩ = some (.int .u8 v)) ∧ w.frozen? ⟨g, j, none⟩ = false := by
  obtain ⟨l, m⟩ := m
  refine ⟨?_, m.frozenAt j⟩
  have hl : l.length = n := by have := m.1; rw [bv_length] at this; omega
  rw [m.cellAt j (by omega)]
  exact ⟨_, bv_get (by omega)⟩
theorem MineV.set_ {w : World} {B g n d : Nat} (m : MineV w B (.slice (some ⟨g, 0, none⟩) n d) n) (j : Nat) (u : Int) : MineV (w.setCell ⟨g, j, none⟩ (.int .u8 u)) B (.slice (some ⟨g, 0, none⟩) n d) n := by
  obtain ⟨l, m⟩ := m
  have := (m.stored j (.int .u8 u)).1
  rw [bv_set] at this
  exact ⟨_, this⟩
theorem below_drewN {B : Nat} {w : World} (n : Nat) : Below B w (w.drewN n) := ⟨rfl, rfl, rfl, Nat.le_refl _, fun _ _ => rfl⟩
theorem sameI_yes (p q : Option Addr) (n c d B B' : Nat) (xs : List Ins) (w : World) (hx : xs.length = n) (hm : n ≤ 9223372036854775807) (h : RdI w B p xs) (k : RdI w B' q xs) :
    Calls Try.prog 10 #[.slice p n c, .slice q n d] w fun e w' => e = .returned (.bool true) ∧ Below w.heap.size w w' :=
  (refSameI_any p q n c n d B B' xs xs w hx hx hm hm h k).mono fun _ _ ⟨h1, j, h2⟩ => ⟨by rw [h1, sameI_true rfl], by rw [h2]; exact below_drewN j⟩
theorem keepS {v w' : World} {p : Addr} {u : Value} (hb : Below v.heap.size v w') (h : v.cell? p = some u) : w'.cell? p = some u := (hb.cell (World.block_lt_of_cell? v p h)).trans h
set_option maxRecDepth 100000 in
set_option maxHeartbeats 8000000 in
theorem walk (HC : InsnB) (a0 : Option Addr) (len0 cap0 : Nat) (z0 : List Ins) (w : World) (w0 : IsInsns w a0 len0 cap0 z0) :
    Calls Try.prog 3 #[.slice a0 len0 cap0] w fun e w' => e = .returned (.bool true) ∧ Below w.heap.size w w' := by
  obtain ⟨hz, hok, hfit, hmost, hr, hnil⟩ := w0
  by_cases hbig : (300 : Int) < len0
  · clear hz hok hr hnil hmost
    go_enter Try.func3, Try.ntmps3
    go_wp2_with fail
    go_ret
    exact ⟨rfl, Below.refl _ _⟩
  · have HZ := Lib.hid hz
    have HO := Lib.hid hok
    have HR := Lib.hid hr
    have H1 := Lib.hid (refCopyI_any a0 len0 cap0 z0 w hz (by omega) hnil hr)
    have HP := Lib.hid (fun p c W h1 h2 h3 h4 => HC.print_ p len0 c z0 W hz hok (by omega) h1 h2 h3 h4)
    have HE := Lib.hid HC.encode
    have hB := Lib.hid (progB_byt hok)
    have hPL := Lib.hid (show (progB z0).length = 8 * len0 by rw [progB_length, hz])
    clear hz hok hr hnil hmost HC
    go_enter Try.func3, Try.ntmps3
    go_wp2_with (first
      | (go_at_call 6; ((with_reducible refine (H1.out).mono ?_); rintro e w1 ⟨q1, d1, rfl, o1, n1, b1⟩))
      | (go_at_call 7; ((with_reducible refine (refPrint_any a0 len0 cap0 z0 w1 HZ.out HO.out (by omega) (HR.out.on b1)).mono ?_); rintro e w2 ⟨q2, d2, rfl, r2, n2, b2⟩)))
    have o2 := own_on o1 b2
    obtain ⟨ri, _, fi, mi⟩ := own_shapeI' o2
    have hbW := thn b1 b2
    have rp := (HR.out.on b1).on b2
    clear o1 o2 b1 b2 H1
    go_loopw [5] (fun i wr => ∃ k : Nat, k ≤ 2 ∧ i = .int .i64 k ∧ Below w2.heap.size w2 wr) (fun i _ => 2 - (intOf i).toNat)
    case atStart => exact ⟨0, by omega, rfl, Below.refl _ _⟩
    case round =>
      obtain ⟨k, hk, rfl, hb⟩ := hrel
      obtain ⟨W, rfl⟩ : ∃ wo : World, wo = wr := ⟨_, rfl⟩
      by_cases hlt : k < 2
      · have ri' := ri.on hb
        have rp' := rp.on hb
        have r2' := r2.on hb
        go_wp2_with (first
          | (go_at_call 8; ((with_reducible refine (HP.out q1 d1 W fi mi n1 ri').mono ?_); rintro e w3 ⟨q3, d3, rfl, o3, b3⟩))
          | (go_at_call 9; ((with_reducible refine (refSame_yes _ _ (8 * len0) _ _ _ _ (progB z0) (progB z0) w3 rfl hPL.out (by omega) (own_shape' o3).1 (r2'.on b3)).mono ?_); rintro e w4 ⟨rfl, b4⟩))
          | (go_at_call 10; ((with_reducible refine (sameI_yes _ _ len0 _ _ _ _ z0 w4 HZ.out (by omega) ((ri'.on b3).on b4) ((rp'.on b3).on b4)).mono ?_); rintro e w5 ⟨rfl, b5⟩)))
        have mine := ((show MineV w3 W.heap.size (.slice q3 (8 * len0) d3) (8 * len0) from ⟨_, o3⟩).on b4).on b5
        have hb5 := thn (thn b3 b4) b5
        clear ri' rp' r2' o3 b3 b4 b5
        go_loopw [8] (fun i wr => ∃ t : Nat, t ≤ 8 * len0 ∧ i = .int .i64 t ∧ MineV wr W.heap.size (.slice q3 (8 * len0) d3) (8 * len0) ∧ Below W.heap.size W wr) (fun i _ => 8 * len0 - (intOf i).toNat)
        case atStart => exact ⟨0, Nat.zero_le _, rfl, mine, hb5⟩
        case round =>
          clear mine hb5
          obtain ⟨t, ht, rfl, mine, hb5⟩ := hrel
          by_cases hlt3 : t < 8 * len0
          · obtain ⟨g, rfl, hg⟩ := mine.form (by omega)
            obtain ⟨⟨v, hv⟩, hf⟩ := mine.cell hlt3
            have t0 : (t : Int) < 8 * (len0 : Int) := by omega
            go_wp2
            go_roundw
            case rel => exact ⟨t + 1, by omega, by go_num, mine.set_ _ _, hb5.setCell hg _⟩
            case measure => simp [intOf]; omega
          · have t0 : ¬ (t : Int) < 8 * (len0 : Int) := by omega
            go_wp2_with fail
            go_roundw
            case rel => exact ⟨k + 1, by omega, by go_num, thn hb hb5⟩
            case measure => simp [intOf]; omega
      · go_wp2_with fail
        clear ri fi mi hlt hk
        go_loopw [9] (fun i wr => ∃ y : Nat, y ≤ len0 ∧ i = .int .i64 y ∧ Below w2.heap.size w2 wr) (fun i _ => len0 - (intOf i).toNat)
        case atStart => exact ⟨0, Nat.zero_le _, rfl, hb⟩
        case round =>
          clear hb
          obtain ⟨y, hy, rfl, hb⟩ := hrel
          by_cases hlt4 : y < len0
          · have kx : y < z0.length := by have := HZ.out; omega
            obtain ⟨b, o, rfl, hbb, hcl⟩ := (rp.on hb) (by omega)
            have hat := hcl y kx
            have hio := HO.out.get kx
            obtain ⟨i, hi⟩ : ∃ i, i = z0[y] := ⟨_, rfl⟩
            rw [← hi] at hat hio
            obtain ⟨x1, x2, x3, x4⟩ := hat
            have HE' := Lib.hid (fun W => HE.out i W hio)
            have HI := Lib.hid (encL_length i)
            have HF := Lib.hid (fun W => refEncode_any i.c i.jt i.jf i.k W hio)
            obtain ⟨ci, ti, fi, ki⟩ := i
            have y0 : (0 : Int) ≤ y := by omega
            have y1 : (y : Int) < len0 := by omega
            clear hi hcl hio kx HE HO
            go_wp2_with fail
            go_region_held3 (fun w' => w'.cell? ⟨b, o + y * 4, none⟩ = some (.int .u16 ci) ∧ w'.cell? ⟨b, o + y * 4 + 1, none⟩ = some (.int .u8 ti) ∧ w'.cell? ⟨b, o + y * 4 + 2, none⟩ = some (.int .u8 fi) ∧ w'.cell? ⟨b, o + y * 4 + 3, none⟩ = some (.int .u32 ki))
              (first | go_keep | exact ⟨keepS (by assumption) (And.left (by assumption)), keepS (by assumption) (And.left (And.right (by assumption))), keepS (by assumption) (And.left (And.right (And.right (by assumption)))), keepS (by assumption) (And.right (And.right (And.right (by assumption))))⟩ | exact ⟨keepS (by assumption) (by assumption), keepS (by assumption) (by assumption), keepS (by assumption) (by assumption), keepS (by assumption) (by assumption)⟩)
              (first
              | (go_at_call 11; refine (HE'.out _).mono ?_; rintro e w3 ⟨q3, d3, rfl, o3, b3⟩; have r3 := (own_shape' o3).1)
              | (go_at_call 12; refine (HF.out _).mono ?_; rintro e w4 ⟨g4, rfl, o4, b4⟩; have r4 := Rd.of_own o4; have r34 := r3.on b4)
              | (go_at_call 9; refine (refSame_yes _ _ 8 _ _ _ _ (encL ⟨ci, ti, fi, ki⟩) (encL ⟨ci, ti, fi, ki⟩) w4 rfl HI.out (by omega) r34 r4).mono ?_; rintro e w5 ⟨rfl, b5⟩))
            go_wp2
            go_roundw
            case rel => exact ⟨y + 1, by omega, by go_num, thn (thn (hb.drew.trans (b3.mono hb.size)) b4) b5⟩
            case measure => simp [intOf]; omega
          · go_wp2_with fail
            go_ret
            exact ⟨rfl, thn hbW hb⟩

set_option maxRecDepth 100000 in
theorem lifted (HC : InsnB) (os : Os) (started : os.Started) (H : Type) (enc : TypeId × Value → H) :
    ReturnsInHanded {} Try.checked os 3 .any (Rows.insnPrintSpec.pre6 enc Try.prog Try.f3 Rows.insnPrintRow.domain false) (Rows.insnPrintSpec.post enc Try.prog Try.f3 false true false false) := by
  refine returnsInHanded_of_change (C := Try.checked) ownKnob_none started (by kernel_rfl) Try.func3
    (ChangeSpec.witness6 (enc := enc) (C := Try.checked) false ⟨#[], #[.slice none 0 0], []⟩ 8 (by kernel_rfl) (by kernel_rfl) (by kernel_rfl) (by kernel_rfl)) ?_
  intro W base args ds gs before hval0 hW hcnd _
  have hval : ∀ (j : Nat) t v, Try.f3.params[j]? = some t → args[j]? = some v → Value.okWide Try.prog W .any base t v := hval0
  have hW' := hW
  obtain ⟨p, q, hA0, hV, rfl, hfz, hnd⟩ := hW
  have hA : DataW.TrodAll enc Try.prog W 0 (fun _ => true) true Try.f3.params.toList args.toList ds p := hA0
  rw [Try.params3] at hA hval
  obtain ⟨v0, vs0, d0, ds0, p0, q0, hargs, rfl, rfl, h0, r0⟩ := trodAll_cons hA
  obtain ⟨rfl, rfl, rfl⟩ := trodAll_nil r0
  obtain rfl : args = #[v0] := by cases args; simp_all
  obtain ⟨rfl, rfl⟩ := trodVars_none hV
  obtain ⟨a0, len0, cap0, rfl⟩ := okWide_slice Try.underlying22 (hval 0 22 v0 rfl rfl)
  have k0 := h0
  have lt0 : ∀ x ∈ p0, x.block < W.heap.size := by obtain ⟨m, hm⟩ := k0; exact DataW.trod_lt m _ _ _ hm
  obtain ⟨z0, w0⟩ := insns_open h0 lt0
  clear hA0 hval0
  refine (walk HC a0 len0 cap0 z0 W w0).mono fun e W' ⟨he, bel⟩ => ?_
  subst he
  exact ⟨_, rfl, _, _, _, [], _, [], hW', trodAll_mk1 (shut_bool Try.underlying4 _), (trodAll_cons_mk (Below.trod laidOut (by kernel_rfl) (of_decide_eq_true (by kernel_rfl)) k0 bel lt0) trodAll_mk0), rfl, bel.frame _, fun h => by cases h⟩

theorem over (HC : InsnB) : Rows.insnPrintRow.holds Try.pinned (OpenSpec.ofChange Rows.insnPrintSpec) :=
  OpenClaim.holds_of_wide 3 Try.f3 rfl rfl rfl rfl rfl rfl rfl ⟨rfl, rfl, rfl, rfl, rfl⟩ rfl rfl rfl rfl rfl (by kernel_rfl) Try.func3 (by kernel_rfl)
    (of_decide_eq_true (by kernel_rfl)) (by unfold Func.isWrapper; first | (rw [if_pos (by decide +kernel)]; kernel_rfl) | (rw [if_neg (by decide +kernel)]; exact ⟨rfl, rfl⟩))
    (fun os started H enc _ => lifted HC os started H enc)

/-- The statement. -/
theorem proved : Rows.InsnPrintSaid := over insnB
#print axioms proved

end Go.Proofs.Ytekmbhjdacaphaa.insnPrint
