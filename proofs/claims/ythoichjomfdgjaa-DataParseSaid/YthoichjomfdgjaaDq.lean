/- The statement DataParse holds: any bytes are read as the data that the chapter says, or refused. No condition. -/
import Derived.Test.YthoichjomfdgjaaRows
import Derived.Test.YthoichjomfdgjaaDd
import Derived.Test.YthoichjomfdgjaaWg
import Derived.Deep.RegionHeld3
import Derived.Test.YthoichjomfdgjaaTf
namespace Go.Proofs.Ythoichjomfdgjaa.dataParse
open Go.ChangeShapes Go.WideShapes Go.ChangeAt Go.RowKit
open Go.ChangeMaps (open_string shut_string)
set_option linter.unusedVariables false
attribute [local go_sem ↓] Go.wp_at_zero Go.wp_at_succ

set_option maxRecDepth 100000 in
set_option maxHeartbeats 4000000 in
theorem bad (a0 : Option Addr) (len0 cap0 : Nat) (w : World) (nr arch ip a1 a2 a3 a4 a5 a6 : Int) (h2 : ¬ (200 : Int) < len0)
    (HP : Hid (∀ W : World, Below w.heap.size w W → Calls Try.prog 13 #[.slice a0 len0 cap0] W fun e w' => e = .returned (.tuple #[.agg #[.int .u32 0, .int .u32 0, .int .u64 0, .int .u64 0, .int .u64 0, .int .u64 0, .int .u64 0, .int .u64 0, .int .u64 0], .int .i64 30]) ∧ Below W.heap.size W w'))
    (HR : Hid (∀ W : World, Below w.heap.size w W → Calls Try.prog 14 #[.slice a0 len0 cap0] W fun e w' => e = .returned (.tuple #[.agg #[.int .u32 0, .int .u32 0, .int .u64 0, .int .u64 0, .int .u64 0, .int .u64 0, .int .u64 0, .int .u64 0, .int .u64 0], .int .i64 30]) ∧ Below W.heap.size W w')) :
    Calls Try.prog 4 #[.slice a0 len0 cap0] w fun e w' => e = .returned (.bool true) ∧ Below w.heap.size w w' := by
  have hq := eq6
  go_enter Try.func4, Try.ntmps4
  go_wp2_with (first
    | (go_at_call 13; ((with_reducible refine (HP.out _ (Below.refl _ _)).mono ?_); rintro e w1 ⟨rfl, b1⟩))
    | (go_at_call 14
       (with_reducible refine (HR.out _ (b1.alloc b1.size _)).mono ?_)
       rintro e w2 ⟨rfl, b2⟩
       have hlt : w1.heap.size < w2.heap.size := (by have := b2.size; simp at this; omega)
       have x0 := box_cells b2 0 (.int .u32 0) rfl
       have x1 := box_cells b2 1 (.int .u32 0) rfl
       have x2 := box_cells b2 2 (.int .u64 0) rfl
       have x3 := box_cells b2 3 (.int .u64 0) rfl
       have x4 := box_cells b2 4 (.int .u64 0) rfl
       have x5 := box_cells b2 5 (.int .u64 0) rfl
       have x6 := box_cells b2 6 (.int .u64 0) rfl
       have x7 := box_cells b2 7 (.int .u64 0) rfl
       have x8 := box_cells b2 8 (.int .u64 0) rfl))
  go_ret
  exact ⟨rfl, ((b1.alloc b1.size _).trans (b2.mono (by have := b1.size; simp; omega))).alloc (by have := b1.size; have := b2.size; simp at this; omega) _⟩
set_option maxRecDepth 100000 in
set_option maxHeartbeats 4000000 in
theorem good (a0 : Option Addr) (len0 cap0 : Nat) (w : World) (nr arch ip a1 a2 a3 a4 a5 a6 : Int) (h2 : ¬ (200 : Int) < len0)
    (HP : Hid (∀ W : World, Below w.heap.size w W → Calls Try.prog 13 #[.slice a0 len0 cap0] W fun e w' => e = .returned (.tuple #[.agg #[.int .u32 nr, .int .u32 arch, .int .u64 ip, .int .u64 a1, .int .u64 a2, .int .u64 a3, .int .u64 a4, .int .u64 a5, .int .u64 a6], .int .i64 0]) ∧ Below W.heap.size W w'))
    (HR : Hid (∀ W : World, Below w.heap.size w W → Calls Try.prog 14 #[.slice a0 len0 cap0] W fun e w' => e = .returned (.tuple #[.agg #[.int .u32 nr, .int .u32 arch, .int .u64 ip, .int .u64 a1, .int .u64 a2, .int .u64 a3, .int .u64 a4, .int .u64 a5, .int .u64 a6], .int .i64 0]) ∧ Below W.heap.size W w')) :
    Calls Try.prog 4 #[.slice a0 len0 cap0] w fun e w' => e = .returned (.bool true) ∧ Below w.heap.size w w' := by
  have hq := eq6
  go_enter Try.func4, Try.ntmps4
  go_wp2_with (first
    | (go_at_call 13; ((with_reducible refine (HP.out _ (Below.refl _ _)).mono ?_); rintro e w1 ⟨rfl, b1⟩))
    | (go_at_call 14
       (with_reducible refine (HR.out _ (b1.alloc b1.size _)).mono ?_)
       rintro e w2 ⟨rfl, b2⟩
       have hlt : w1.heap.size < w2.heap.size := (by have := b2.size; simp at this; omega)
       have x0 := box_cells b2 0 (.int .u32 nr) rfl
       have x1 := box_cells b2 1 (.int .u32 arch) rfl
       have x2 := box_cells b2 2 (.int .u64 ip) rfl
       have x3 := box_cells b2 3 (.int .u64 a1) rfl
       have x4 := box_cells b2 4 (.int .u64 a2) rfl
       have x5 := box_cells b2 5 (.int .u64 a3) rfl
       have x6 := box_cells b2 6 (.int .u64 a4) rfl
       have x7 := box_cells b2 7 (.int .u64 a5) rfl
       have x8 := box_cells b2 8 (.int .u64 a6) rfl))
  go_ret
  exact ⟨rfl, ((b1.alloc b1.size _).trans (b2.mono (by have := b1.size; simp; omega))).alloc (by have := b1.size; have := b2.size; simp at this; omega) _⟩
theorem walk (HC : DataB) (a0 : Option Addr) (len0 cap0 : Nat) (z0 : List Int) (w : World) (w0 : IsBytes w a0 len0 cap0 z0) :
    Calls Try.prog 4 #[.slice a0 len0 cap0] w fun e w' => e = .returned (.bool true) ∧ Below w.heap.size w w' := by
  obtain ⟨hz, hB, hfit, hmost, hr, hnil⟩ := w0
  by_cases hbig : (200 : Int) < len0
  · clear hz hB hr hnil hmost hfit HC
    go_enter Try.func4, Try.ntmps4
    go_wp2_with fail
    go_ret
    exact ⟨rfl, Below.refl _ _⟩
  · by_cases h : len0 = 64
    · subst h
      exact good a0 64 cap0 w _ _ _ _ _ _ _ _ _ hbig (fun W hb => HC.parse a0 cap0 z0 W hz hB hfit hmost (hr.on hb)) (fun W hb => refParse3 a0 cap0 z0 W hz hB (hr.on hb))
    · exact bad a0 len0 cap0 w 0 0 0 0 0 0 0 0 0 hbig (fun W _ => HC.parseBad a0 len0 cap0 W h (by omega)) (fun W _ => refParse3_bad a0 len0 cap0 W h (by omega))

set_option maxRecDepth 100000 in
theorem lifted (HC : DataB) (os : Os) (started : os.Started) (H : Type) (enc : TypeId × Value → H) :
    ReturnsInHanded {} Try.checked os 4 .any (Rows.dataParseSpec.pre6 enc Try.prog Try.f4 Rows.dataParseRow.domain false) (Rows.dataParseSpec.post enc Try.prog Try.f4 false true false false) := by
  refine returnsInHanded_of_change (C := Try.checked) ownKnob_none started (by kernel_rfl) Try.func4
    (ChangeSpec.witness6 (enc := enc) (C := Try.checked) false ⟨#[], #[.slice none 0 0], []⟩ 8 (by kernel_rfl) (by kernel_rfl) (by kernel_rfl) (by kernel_rfl)) ?_
  intro W base args ds gs before hval0 hW hcnd _
  have hval : ∀ (j : Nat) t v, Try.f4.params[j]? = some t → args[j]? = some v → Value.okWide Try.prog W .any base t v := hval0
  have hW' := hW
  obtain ⟨p, q, hA0, hV, rfl, hfz, hnd⟩ := hW
  have hA : DataW.TrodAll enc Try.prog W 0 (fun _ => true) true Try.f4.params.toList args.toList ds p := hA0
  rw [Try.params4] at hA hval
  obtain ⟨v0, vs0, d0, ds0, p0, q0, hargs, rfl, rfl, h0, r0⟩ := trodAll_cons hA
  obtain ⟨rfl, rfl, rfl⟩ := trodAll_nil r0
  obtain rfl : args = #[v0] := by cases args; simp_all
  obtain ⟨rfl, rfl⟩ := trodVars_none hV
  obtain ⟨a0, len0, cap0, rfl⟩ := okWide_slice Try.underlying27 (hval 0 27 v0 rfl rfl)
  have k0 := h0
  have lt0 : ∀ x ∈ p0, x.block < W.heap.size := by obtain ⟨m, hm⟩ := k0; exact DataW.trod_lt m _ _ _ hm
  obtain ⟨z0, w0⟩ := bytes_open h0 lt0
  clear hA0 hval0
  refine (walk HC a0 len0 cap0 z0 W w0).mono fun e W' ⟨he, bel⟩ => ?_
  subst he
  exact ⟨_, rfl, _, _, _, [], _, [], hW', trodAll_mk1 (shut_bool Try.underlying4 _), (trodAll_cons_mk (Below.trod laidOut (by kernel_rfl) (of_decide_eq_true (by kernel_rfl)) k0 bel lt0) trodAll_mk0), rfl, bel.frame _, fun h => by cases h⟩

theorem over (HC : DataB) : Rows.dataParseRow.holds Try.pinned (OpenSpec.ofChange Rows.dataParseSpec) :=
  OpenClaim.holds_of_wide 4 Try.f4 rfl rfl rfl rfl rfl rfl rfl ⟨rfl, rfl, rfl, rfl, rfl⟩ rfl rfl rfl rfl rfl (by kernel_rfl) Try.func4 (by kernel_rfl)
    (of_decide_eq_true (by kernel_rfl)) (by unfold Func.isWrapper; first | (rw [if_pos (by decide +kernel)]; kernel_rfl) | (rw [if_neg (by decide +kernel)]; exact ⟨rfl, rfl⟩))
    (fun os started H enc _ => lifted HC os started H enc)

/-- The statement. -/
theorem proved : Rows.DataParseSaid := over dataB
#print axioms proved

end Go.Proofs.Ythoichjomfdgjaa.dataParse
