/- The statement DataPrint holds: any data has the bytes, and at any place the word, that the chapter says; what is told is the caller's own. No condition. -/
import Derived.Test.YthoichjomfdgjaaRows
import Derived.Test.YthoichjomfdgjaaDd
import Derived.Test.YthoichjomfdgjaaWg
import Derived.Deep.RegionHeld3
import Derived.Test.YthoichjomfdgjaaTf
namespace Go.Proofs.Ythoichjomfdgjaa.dataPrint
open Go.ChangeShapes Go.WideShapes Go.ChangeAt Go.RowKit
open Go.ChangeMaps (open_string shut_string)
set_option linter.unusedVariables false
attribute [local go_sem ↓] Go.wp_at_zero Go.wp_at_succ

/-- Bytes that the call owns, whatever they are. -/
def MineV (w : World) (B : Nat) (v : Value) (n : Nat) : Prop := ∃ l : List Int, w.ownsRow B 5 1 v n (bv l)
theorem MineV.on {w w' : World} {B n : Nat} {v : Value} (h : MineV w B v n) (hb : Below w.heap.size w w') : MineV w' B v n := by
  obtain ⟨l, h⟩ := h
  exact ⟨l, own_on h hb⟩
theorem MineV.form {w : World} {B n d : Nat} {p : Option Addr} (h : MineV w B (.slice p n d) n) (hn : 0 < n) : ∃ g, p = some ⟨g, 0, none⟩ ∧ B ≤ g := by
  obtain ⟨l, h⟩ := h
  obtain ⟨g, c, e⟩ := own_some h hn
  injection e with e1 e2 e3
  subst e1
  exact ⟨g, rfl, (h.lt g rfl).1⟩
theorem MineV.cell {w : World} {B g n d j : Nat} (m : MineV w B (.slice (some ⟨g, 0, none⟩) n d) n) (hj : j < n) : (∃ v, w.cell? ⟨g, j, none⟩ = some (.int .u8 v)) ∧ w.frozen? ⟨g, j, none⟩ = false := by
  obtain ⟨l, m⟩ := m
  refine ⟨?_, m.frozenAt j⟩
  have hl : l.length = n := by have := m.1; rw [bv_length] at this; omega
  rw [m.cellAt j (by omega)]
  exact ⟨_, bv_get (by omega)⟩
theorem MineV.set_ {w : World} {B g n d : Nat} (m : MineV w B (.slice (some ⟨g, 0, none⟩) n d) n) (j : Nat) (u : Int) : MineV (w.setCell ⟨g, j, none⟩ (.int .u8 u)) B (.slice (some ⟨g, 0, none⟩) n d) n := by
  obtain ⟨l, m⟩ := m
  have := (m.stored j (.int .u8 u)).1
  rw [bv_set] at this
  exact ⟨_, this⟩
set_option maxRecDepth 100000 in
set_option maxHeartbeats 8000000 in
theorem walk (HC : DataB) (a0 : Dat) (a1 : Int) (w : World) (w0 : a0.Ok) (w1 : (Lit.int .u32 a1).wf = true) :
    Calls Try.prog 3 #[datV a0, .int .u32 a1] w fun e w' => e = .returned (.bool true) ∧ Below w.heap.size w w' := by
  obtain ⟨c0, c1⟩ := bounds_u32 w1
  have HP := Lib.hid (fun W => HC.print_ a0 W w0)
  have HR := Lib.hid (fun W => refPrint3 a0 W w0)
  have HW := Lib.hid (fun W => HC.word a0 a1 W w0 c0 (by omega))
  have HV := Lib.hid (fun W => refWord3 a0 a1 W w0 c0 (by omega))
  have bx0 := BoxD.new w a0
  have B0 : Below w.heap.size w (w.alloc (.cells (datC a0) 26)) := (Below.refl _ _).alloc (Nat.le_refl _) _
  have hws := word_same a1
  obtain ⟨x, hx⟩ : ∃ x, x = wordV a0 a1 := ⟨_, rfl⟩
  obtain ⟨y, hy⟩ : ∃ y, y = wordE a1 := ⟨_, rfl⟩
  rw [← hx, ← hy] at HW HV
  rw [← hy] at hws
  clear HC w0 w1 c0 c1 hx hy
  unfold datV datC at *
  go_enter Try.func3, Try.ntmps3
  go_wp2_with fail
  go_loopw [5] (fun i wr => ∃ k : Nat, k ≤ 2 ∧ i = .int .i64 k ∧ BoxD wr w.heap.size a0 ∧ Below w.heap.size w wr) (fun i _ => 2 - (intOf i).toNat)
  case atStart => exact ⟨0, by omega, rfl, bx0, B0⟩
  case round =>
    clear bx0 B0
    obtain ⟨k, hk, rfl, hbx, hb⟩ := hrel
    obtain ⟨W, rfl⟩ : ∃ wo : World, wo = wr := ⟨_, rfl⟩
    obtain ⟨x0, x1, x2, x3, x4, x5, x6, x7, x8⟩ := hbx.cells
    by_cases hlt : k < 2
    · go_wp2_with (first
        | (go_at_call 8; ((with_reducible refine (HP.out _).mono ?_); rintro e w3 ⟨p3, c3, rfl, o3, b3⟩); obtain ⟨y0, y1, y2, y3, y4, y5, y6, y7, y8⟩ := (hbx.on b3).cells)
        | (go_at_call 10; ((with_reducible refine (HR.out _).mono ?_); rintro e w4 ⟨p4, c4, rfl, o4, b4⟩); clear y0 y1 y2 y3 y4 y5 y6 y7 y8)
        | (go_at_call 9; ((with_reducible refine (refSame_yes _ _ 64 _ _ _ _ (datB a0) (datB a0) w4 rfl (datB_length a0) (by omega) ((own_rd o3).1.on b4) (own_rd o4).1).mono ?_); rintro e w5 ⟨rfl, b5⟩)))
      have mine := ((show MineV w3 W.heap.size (.slice p3 64 c3) 64 from ⟨_, o3⟩).on b4).on b5
      have hb5 := thn (thn b3 b4) b5
      clear o3 o4 b3 b4 b5 x0 x1 x2 x3 x4 x5 x6 x7 x8
      go_loopw [7] (fun i wr => ∃ t : Nat, t ≤ 64 ∧ i = .int .i64 t ∧ MineV wr W.heap.size (.slice p3 64 c3) 64 ∧ Below W.heap.size W wr) (fun i _ => 64 - (intOf i).toNat)
      case atStart => exact ⟨0, Nat.zero_le _, rfl, mine, hb5⟩
      case round =>
        clear mine hb5
        obtain ⟨t, ht, rfl, mine, hb5⟩ := hrel
        by_cases hlt3 : t < 64
        · obtain ⟨g, rfl, hg⟩ := mine.form (by omega)
          obtain ⟨⟨v, hv⟩, hf⟩ := mine.cell hlt3
          go_wp2
          go_roundw
          case rel => exact ⟨t + 1, by omega, by go_num, mine.set_ _ _, hb5.setCell hg _⟩
          case measure => simp [intOf]; omega
        · obtain rfl : t = 64 := by omega
          go_wp2_with fail
          go_roundw
          case rel => exact ⟨k + 1, by omega, by go_num, hbx.on hb5, thn hb hb5⟩
          case measure => simp [intOf]; omega
    · go_wp2_with (first
        | (go_at_call 11; ((with_reducible refine (HW.out _).mono ?_); rintro e w3 ⟨rfl, b3⟩); obtain ⟨y0, y1, y2, y3, y4, y5, y6, y7, y8⟩ := (hbx.on b3).cells)
        | (go_at_call 12; ((with_reducible refine (HV.out _).mono ?_); rintro e w4 ⟨rfl, b4⟩)))
      go_ret
      exact ⟨rfl, thn (thn hb b3) b4⟩

set_option maxRecDepth 100000 in
theorem lifted (HC : DataB) (os : Os) (started : os.Started) (H : Type) (enc : TypeId × Value → H) :
    ReturnsInHanded {} Try.checked os 3 .any (Rows.dataPrintSpec.pre6 enc Try.prog Try.f3 Rows.dataPrintRow.domain false) (Rows.dataPrintSpec.post enc Try.prog Try.f3 false true false false) := by
  refine returnsInHanded_of_change (C := Try.checked) ownKnob_none started (by kernel_rfl) Try.func3
    (ChangeSpec.witness6 (enc := enc) (C := Try.checked) false ⟨#[], #[.agg #[.int .u32 0, .int .u32 0, .int .u64 0, .int .u64 0, .int .u64 0, .int .u64 0, .int .u64 0, .int .u64 0, .int .u64 0], .int .u32 0], []⟩ 8 (by kernel_rfl) (by kernel_rfl) (by kernel_rfl) (by kernel_rfl)) ?_
  intro W base args ds gs before hval0 hW hcnd _
  have hval : ∀ (j : Nat) t v, Try.f3.params[j]? = some t → args[j]? = some v → Value.okWide Try.prog W .any base t v := hval0
  have hW' := hW
  obtain ⟨p, q, hA0, hV, rfl, hfz, hnd⟩ := hW
  have hA : DataW.TrodAll enc Try.prog W 0 (fun _ => true) true Try.f3.params.toList args.toList ds p := hA0
  rw [Try.params3] at hA hval
  obtain ⟨v0, vs0, d0, ds0, p0, q0, hargs, rfl, rfl, h0, r0⟩ := trodAll_cons hA
  obtain ⟨v1, vs1, d1, ds1, p1, q1, rfl, rfl, rfl, h1, r1⟩ := trodAll_cons r0
  obtain ⟨rfl, rfl, rfl⟩ := trodAll_nil r1
  obtain rfl : args = #[v0, v1] := by cases args; simp_all
  obtain ⟨rfl, rfl⟩ := trodVars_none hV
  have k0 := h0
  have lt0 : ∀ x ∈ p0, x.block < W.heap.size := by obtain ⟨m, hm⟩ := k0; exact DataW.trod_lt m _ _ _ hm
  obtain ⟨a0, w0, rfl⟩ := data_open (hval 0 26 v0 rfl rfl) h0
  obtain ⟨a1, rfl, rfl, rfl, w1⟩ := open_int Try.underlying22 (hval 1 22 v1 rfl rfl) h1
  clear hA0 hval0
  refine (walk HC a0 a1 W w0 w1).mono fun e W' ⟨he, bel⟩ => ?_
  subst he
  exact ⟨_, rfl, _, _, _, [], _, [], hW', trodAll_mk1 (shut_bool Try.underlying4 _), (trodAll_cons_mk (Below.trod laidOut (by kernel_rfl) (of_decide_eq_true (by kernel_rfl)) k0 bel lt0) (trodAll_cons_mk (shut_int Try.underlying22 w1) trodAll_mk0)), rfl, bel.frame _, fun h => by cases h⟩

theorem over (HC : DataB) : Rows.dataPrintRow.holds Try.pinned (OpenSpec.ofChange Rows.dataPrintSpec) :=
  OpenClaim.holds_of_wide 3 Try.f3 rfl rfl rfl rfl rfl rfl rfl ⟨rfl, rfl, rfl, rfl, rfl⟩ rfl rfl rfl rfl rfl (by kernel_rfl) Try.func3 (by kernel_rfl)
    (of_decide_eq_true (by kernel_rfl)) (by unfold Func.isWrapper; first | (rw [if_pos (by decide +kernel)]; kernel_rfl) | (rw [if_neg (by decide +kernel)]; exact ⟨rfl, rfl⟩))
    (fun os started H enc _ => lifted HC os started H enc)

/-- The statement. -/
theorem proved : Rows.DataPrintSaid := over dataB
#print axioms proved

end Go.Proofs.Ythoichjomfdgjaa.dataPrint
