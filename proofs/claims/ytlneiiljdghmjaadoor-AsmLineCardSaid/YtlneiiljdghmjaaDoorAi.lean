/- The statement AsmLine holds, over what the calls have to return: the line of an instruction at a place is what the chapter says. -/
import Derived.Test.YtlneiiljdghmjaaDoorRows
import Derived.Test.YtlneiiljdghmjaaDoorCards
import Derived.Test.YtlneiiljdghmjaaDoorTie
import Derived.SevenTiedAt
import Derived.Test.YtlneiiljdghmjaaDoorWd
import Derived.Test.YtlneiiljdghmjaaDoorLw
import Derived.Test.YtlneiiljdghmjaaDoorHt
import Derived.Test.YtlneiiljdghmjaaDoorLx
import Derived.Test.YtlneiiljdghmjaaDoorAh
import Derived.Test.YtlneiiljdghmjaaDoorFi
import Derived.Test.YtlneiiljdghmjaaDoorId
import Derived.Deep.RegionHeld3
import Derived.BigQuiet
import Derived.Deep.QuietTactic
namespace Go.Proofs.YtlneiiljdghmjaaDoor.asmLine
open Go.ChangeShapes Go.WideShapes Go.ChangeAt Go.RowKit
open Go.ChangeMaps (open_string shut_string)
set_option linter.unusedVariables false
attribute [local go_sem ↓] Go.wp_at_zero Go.wp_at_succ
theorem keepI {w v w' : World} {a0 : Ins} (hb : Below v.heap.size v w') (h : v.cell? ⟨w.heap.size, 0, none⟩ = some (.int .u16 a0.c) ∧ v.cell? ⟨w.heap.size, 1, none⟩ = some (.int .u8 a0.jt) ∧ v.cell? ⟨w.heap.size, 2, none⟩ = some (.int .u8 a0.jf) ∧ v.cell? ⟨w.heap.size, 3, none⟩ = some (.int .u32 a0.k) ∧ Below (w.alloc (.cells #[.int .u16 a0.c, .int .u8 a0.jt, .int .u8 a0.jf, .int .u32 a0.k] 33)).heap.size (w.alloc (.cells #[.int .u16 a0.c, .int .u8 a0.jt, .int .u8 a0.jf, .int .u32 a0.k] 33)) v) : w'.cell? ⟨w.heap.size, 0, none⟩ = some (.int .u16 a0.c) ∧ w'.cell? ⟨w.heap.size, 1, none⟩ = some (.int .u8 a0.jt) ∧ w'.cell? ⟨w.heap.size, 2, none⟩ = some (.int .u8 a0.jf) ∧ w'.cell? ⟨w.heap.size, 3, none⟩ = some (.int .u32 a0.k) ∧ Below (w.alloc (.cells #[.int .u16 a0.c, .int .u8 a0.jt, .int .u8 a0.jf, .int .u32 a0.k] 33)).heap.size (w.alloc (.cells #[.int .u16 a0.c, .int .u8 a0.jt, .int .u8 a0.jf, .int .u32 a0.k] 33)) w' :=
  ⟨(hb.cell (World.block_lt_of_cell? v _ h.1)).trans h.1, (hb.cell (World.block_lt_of_cell? v _ h.2.1)).trans h.2.1, (hb.cell (World.block_lt_of_cell? v _ h.2.2.1)).trans h.2.2.1, (hb.cell (World.block_lt_of_cell? v _ h.2.2.2.1)).trans h.2.2.2.1, thn h.2.2.2.2 hb⟩
theorem newI (w : World) (a0 : Ins) : (w.alloc (.cells #[.int .u16 a0.c, .int .u8 a0.jt, .int .u8 a0.jf, .int .u32 a0.k] 33)).drew.cell? ⟨w.heap.size, 0, none⟩ = some (.int .u16 a0.c) ∧ (w.alloc (.cells #[.int .u16 a0.c, .int .u8 a0.jt, .int .u8 a0.jf, .int .u32 a0.k] 33)).drew.cell? ⟨w.heap.size, 1, none⟩ = some (.int .u8 a0.jt) ∧ (w.alloc (.cells #[.int .u16 a0.c, .int .u8 a0.jt, .int .u8 a0.jf, .int .u32 a0.k] 33)).drew.cell? ⟨w.heap.size, 2, none⟩ = some (.int .u8 a0.jf) ∧ (w.alloc (.cells #[.int .u16 a0.c, .int .u8 a0.jt, .int .u8 a0.jf, .int .u32 a0.k] 33)).drew.cell? ⟨w.heap.size, 3, none⟩ = some (.int .u32 a0.k) ∧ Below (w.alloc (.cells #[.int .u16 a0.c, .int .u8 a0.jt, .int .u8 a0.jf, .int .u32 a0.k] 33)).heap.size (w.alloc (.cells #[.int .u16 a0.c, .int .u8 a0.jt, .int .u8 a0.jf, .int .u32 a0.k] 33)) (w.alloc (.cells #[.int .u16 a0.c, .int .u8 a0.jt, .int .u8 a0.jf, .int .u32 a0.k] 33)).drew := by
  have hx := Below.refl (w.alloc (.cells #[.int .u16 a0.c, .int .u8 a0.jt, .int .u8 a0.jf, .int .u32 a0.k] 33)).heap.size (w.alloc (.cells #[.int .u16 a0.c, .int .u8 a0.jt, .int .u8 a0.jf, .int .u32 a0.k] 33))
  exact ⟨box_cells hx.drew 0 _ rfl, box_cells hx.drew 1 _ rfl, box_cells hx.drew 2 _ rfl, box_cells hx.drew 3 _ rfl, hx.drew⟩
set_option maxRecDepth 100000 in
set_option maxHeartbeats 16000000 in
theorem walk {G : World → Prop} (HC : AsmA G) (a0 : Ins) (a1 : Int) (w : World) (hG : G w) (w0 : a0.Ok) (w1 : (Lit.int .i64 a1).wf = true) :
    Calls Tryd.prog 4 #[.agg #[.int .u16 a0.c, .int .u8 a0.jt, .int .u8 a0.jf, .int .u32 a0.k], .int .i64 a1] w fun e w' => e = .returned (.bool true) ∧ Below w.heap.size w w' := by
  obtain ⟨ha1, ha2⟩ := bounds_i64 w1
  have HB0 := Lib.hid (show Below w.heap.size w (w.alloc (.cells #[.int .u16 a0.c, .int .u8 a0.jt, .int .u8 a0.jf, .int .u32 a0.k] 33)) from (Below.refl _ _).alloc (Nat.le_refl _) _)
  by_cases hbig : (1099511627776 : Int) < a1
  · clear HC hG w0 w1 ha1 ha2
    go_enter Tryd.func4, Tryd.ntmps4
    go_wp2_with fail
    go_ret
    exact ⟨rfl, HB0.out⟩
  have HO := Lib.hid (fun (W : World) (b : Below (w.alloc (.cells #[.int .u16 a0.c, .int .u8 a0.jt, .int .u8 a0.jf, .int .u32 a0.k] 33)).heap.size (w.alloc (.cells #[.int .u16 a0.c, .int .u8 a0.jt, .int .u8 a0.jf, .int .u32 a0.k] 33)) W) => HC.line a0 a1 W (HC.on (HC.al hG _) b) w0 ha1 (by omega))
  have HR := Lib.hid (fun W => refLine a0 w0 a1 (by omega) W)
  obtain ⟨y, hy⟩ : ∃ y, y = bs (lineI a0 a1) := ⟨_, rfl⟩
  rw [← hy] at HO HR
  have HN := Lib.hid (newI w a0)
  have t1 : (y.toList == y.toList) = true := by simp
  have t2 : ¬ (1099511627776 : Int) < a1 := hbig
  clear HC hG w0 w1 hy ha1 ha2 hbig
  go_enter Tryd.func4, Tryd.ntmps4
  go_wp2_with fail
  go_region_held3 (fun w' => w'.cell? ⟨w.heap.size, 0, none⟩ = some (.int .u16 a0.c) ∧ w'.cell? ⟨w.heap.size, 1, none⟩ = some (.int .u8 a0.jt) ∧ w'.cell? ⟨w.heap.size, 2, none⟩ = some (.int .u8 a0.jf) ∧ w'.cell? ⟨w.heap.size, 3, none⟩ = some (.int .u32 a0.k) ∧ Below (w.alloc (.cells #[.int .u16 a0.c, .int .u8 a0.jt, .int .u8 a0.jf, .int .u32 a0.k] 33)).heap.size (w.alloc (.cells #[.int .u16 a0.c, .int .u8 a0.jt, .int .u8 a0.jf, .int .u32 a0.k] 33)) w') (first | with_reducible assumption | exact HN.out | exact keepI (by assumption) (by assumption)) (first
    | (go_at_call 15; refine (HO.out _ (by assumption : _ ∧ _ ∧ _ ∧ _ ∧ Below _ _ _).2.2.2.2).mono ?_; rintro e v1 ⟨rfl, b1⟩)
    | (go_at_call 16; refine (HR.out _).mono ?_; rintro e v2 ⟨rfl, b2⟩))
  have BE := (by assumption : _ ∧ _ ∧ _ ∧ _ ∧ Below _ _ _).2.2.2.2
  go_wp2
  go_ret
  exact ⟨by simp, HB0.out.trans (BE.mono (by simp))⟩

set_option maxRecDepth 100000 in
theorem lifted (HC : AsmA GA) (os : Os) (started : os.Started) (H : Type) (enc : TypeId × Value → H) :
    ReturnsInHanded {} Tryd.checked os 4 .any (fun w args => (Rows.asmLineSpec.pre enc Tryd.prog Tryd.f4 [] false w args ∧ laidMetH Tryd.prog listed4 w) ∧ sizedMet enc Tryd.prog Tryd.f4 (OpenSpec.ofChange Rows.asmLineSpec) false w args)
      (Rows.asmLineSpec.post enc Tryd.prog Tryd.f4 false true false false) := by
  refine returnsInHanded_of_change_and (C := Tryd.checked) (X := fun w _ => laidMetH Tryd.prog listed4 w) (fun _ _ _ hh h => h.of_heap hh) ownKnob_none started (by kernel_rfl) Tryd.func4
    (ChangeSpec.witness_shaped (enc := enc) (C := Tryd.checked) (os := os) (X := fun w _ => laidMetH Tryd.prog listed4 w) false (World.doorLaid Tryd.prog 4000 os) #[.agg #[.int .u16 0, .int .u8 0, .int .u8 0, .int .u32 0], .int .i64 0] 8 rfl (World.shaped_of_RefB (by kernel_rfl) (by kernel_rfl)) (by kernel_rfl) (by kernel_rfl) (by kernel_rfl) (door_met4 os _)) ?_
  intro W base args ds gs before hval0 hW _ _ hL _
  have hG : GA W := of_laid4 hL
  have hval : ∀ (j : Nat) t v, Tryd.f4.params[j]? = some t → args[j]? = some v → Value.okWide Tryd.prog W .any base t v := hval0
  have hW' := hW
  obtain ⟨p, q, hA0, hV, rfl, hfz, hnd⟩ := hW
  have hA : DataW.TrodAll enc Tryd.prog W 0 (fun _ => true) true Tryd.f4.params.toList args.toList ds p := hA0
  rw [Tryd.params4] at hA hval
  obtain ⟨v0, vs0, d0, ds0, p0, q0, hargs, rfl, rfl, h0, r0⟩ := trodAll_cons hA
  obtain ⟨v1, vs1, d1, ds1, p1, q1, rfl, rfl, rfl, h1, r1⟩ := trodAll_cons r0
  obtain ⟨rfl, rfl, rfl⟩ := trodAll_nil r1
  obtain rfl : args = #[v0, v1] := by cases args; simp_all
  obtain ⟨rfl, rfl⟩ := trodVars_none hV
  have k0 := h0
  have lt0 : ∀ x ∈ p0, x.block < W.heap.size := by obtain ⟨m, hm⟩ := k0; exact DataW.trod_lt m _ _ _ hm
  obtain ⟨a0, w0, rfl⟩ := insn_open (hval 0 33 v0 rfl rfl) h0
  obtain ⟨a1, rfl, rfl, rfl, w1⟩ := open_int Tryd.underlying3 (hval 1 3 v1 rfl rfl) h1
  clear hA0 hval0
  refine (walk HC a0 a1 W hG w0 w1).mono fun e W' ⟨he, bel⟩ => ?_
  subst he
  exact ⟨_, rfl, _, _, _, [], _, [], hW', trodAll_mk1 (shut_bool Tryd.underlying4 _), (trodAll_cons_mk (Below.trod laidOut (by kernel_rfl) (of_decide_eq_true (by kernel_rfl)) k0 bel lt0) (trodAll_cons_mk (shut_int Tryd.underlying3 w1) trodAll_mk0)), rfl, bel.frame _, fun h => by cases h⟩

theorem over (HC : AsmA GA) : Rows.asmLineRow.holds Tryd.pinned (OpenSpec.ofChange Rows.asmLineSpec) :=
  OpenClaim.holds_of_wide 4 Tryd.f4 rfl rfl rfl rfl rfl rfl rfl ⟨rfl, rfl, rfl, rfl, rfl⟩ rfl rfl rfl rfl rfl (by kernel_rfl) Tryd.func4 (by kernel_rfl)
    (of_decide_eq_true (by kernel_rfl)) (by unfold Func.isWrapper; first | (rw [if_pos (by decide +kernel)]; kernel_rfl) | (rw [if_neg (by decide +kernel)]; exact ⟨rfl, rfl⟩))
    (fun os started H enc _ => lifted HC os started H enc)

/-- The row's statement. -/
theorem row_holds : Rows.AsmLineSaid := over asmA
/-- The statement: the row, its table tied to the program's text. -/
theorem proved : Rows.AsmLineCardSaid :=
  Claim7.holds_tied_plain_at .later [] [.data, .data, .data, .data] true Rows.asmLineCard.stood.harness Rows.asmLineCard.stood.looks
    row_holds (fun _ h => by cases h) (by kernel_rfl) (fun _ h => by cases h) asmLine_row_tie rfl ⟨rfl, rfl⟩ (by kernel_rfl) rfl
    (fun f fn hf hfn => by
      obtain rfl : f = 4 := Option.some.inj ((show Tryd.prog.funcNamed "vestibule/vestibulelaw07.AsmLine" = some 4 by kernel_rfl).symm.trans hf) |>.symm
      obtain rfl : fn = Tryd.f4 := (Option.some.inj (Tryd.func4.symm.trans hfn)).symm
      exact ⟨by kernel_rfl, fun j t ht => by
        have hm : t ∈ Tryd.f4.params.toList := by simpa using Array.mem_of_getElem? ht
        have hall : (Tryd.f4.params.toList.all fun u => !Tryd.prog.wantsStandIn u) = true := by kernel_rfl
        exact (show Tryd.prog.wantsStandIn t = false by simpa using List.all_eq_true.1 hall t hm)⟩)
    (by kernel_rfl)
#print axioms proved
end Go.Proofs.YtlneiiljdghmjaaDoor.asmLine
