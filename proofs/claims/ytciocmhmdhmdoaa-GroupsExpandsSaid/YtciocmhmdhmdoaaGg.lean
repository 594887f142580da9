/- The statement GroupsExpands holds, over what the calls have to return: what a group has. -/
import Derived.Test.YtciocmhmdhmdoaaRows
import Derived.Test.YtciocmhmdhmdoaaFr
import Derived.Test.YtciocmhmdhmdoaaG6
import Derived.Test.YtciocmhmdhmdoaaGf
namespace Go.Proofs.Ytciocmhmdhmdoaa.groupsExpands
open Go.ChangeShapes Go.WideShapes Go.ChangeAt Go.RowKit
open Go.ChangeMaps (open_string shut_string)
set_option linter.unusedVariables false
attribute [local go_sem ↓] Go.wp_at_zero Go.wp_at_succ
set_option linter.unusedSimpArgs false
theorem exp_le (s : ByteArray) : (expL s).length ≤ 100000 := by
  unfold expL
  split
  · exact Nat.zero_le _
  · have := iter_le s 24
    unfold szE at this
    omega
set_option maxRecDepth 100000 in
set_option maxHeartbeats 8000000 in
theorem walk {G : World → Prop} {kn : ByteArray → Bool} (HC : GroupsC G kn) (a0 : ByteArray) (w : World) (hG : G w) (w0 : a0.size ≤ maxLen) :
    Calls Try.prog 3 #[.string a0] w fun e w' => e = .returned (.bool true) ∧ Below w.heap.size w w' := by
  by_cases hlong : (200 : Int) < a0.size
  · clear HC hG w0
    go_enter Try.func3, Try.ntmps3
    go_wp2_with fail
    go_ret
    exact ⟨rfl, Below.refl _ _⟩
  have hs : (a0.size : Int) ≤ 200 := by omega
  have HON := Lib.hid (fun (w w' : World) => HC.on (w := w) (w' := w'))
  have HG := Lib.hid hG
  have HE := Lib.hid (fun (W : World) (g : G W) => HC.expand a0 W g w0)
  have RE := Lib.hid (fun (W : World) => refExpand a0 W)
  have HA := Lib.hid (fun (W : World) (g : G W) => awake11_any HC W g)
  have hle := exp_le a0
  obtain ⟨L, hL⟩ : ∃ L, L = expL a0 := ⟨_, rfl⟩
  obtain ⟨er, her⟩ : ∃ e, e = expE a0 := ⟨_, rfl⟩
  rw [← hL, ← her] at HE RE
  rw [← hL] at hle
  have HSM := Lib.hid (fun (u v : Value) (W : World) (h : StrsAt W u L) (h2 : StrsAt W v L) => same_yes u v L W h h2 hle)
  have te : (er == er) = true := by simp
  clear HC hG w0 hlong hle hL her
  go_enter Try.func3, Try.ntmps3
  go_wp2_with (first
    | (go_at_call 7; ((with_reducible refine (HE.out _ HG.out).mono ?_); rintro e v1 ⟨l1, rfl, s1, b1⟩); have G1 := HON.out _ _ HG.out b1; have T1 := Lib.hid s1; clear s1)
    | (go_at_call 8; ((with_reducible refine (RE.out _).mono ?_); rintro e v2 ⟨l2, rfl, s2, b2⟩); have G2 := HON.out _ _ G1 b2; have B2 := b1.trans (b2.mono b1.size); have T2 := Lib.hid (T1.out.on b2); have U2 := Lib.hid s2; clear s2)
    | (go_at_call 9; ((with_reducible refine (HSM.out _ _ _ T2.out U2.out).mono ?_); rintro e v3 ⟨rfl, b3⟩); have G3 := HON.out _ _ G2 b3; have B3 := B2.trans (b3.mono B2.size))
    | (go_at_call 10; ((with_reducible refine (HA.out _ G3).mono ?_); rintro e v4 ⟨rfl, b4⟩); have B4 := B3.trans (b4.mono B3.size)))
  go_ret
  exact ⟨by first | rfl | simp, B4⟩

set_option maxRecDepth 100000 in
theorem lifted (HC : GroupsC (fun _ => True) knownR) (os : Os) (started : os.Started) (H : Type) (enc : TypeId × Value → H) :
    ReturnsInHanded {} Try.checked os 3 .any (Rows.groupsExpandsSpec.pre6 enc Try.prog Try.f3 Rows.groupsExpandsRow.domain false) (Rows.groupsExpandsSpec.post enc Try.prog Try.f3 false true false false) := by
  refine returnsInHanded_of_change (C := Try.checked) ownKnob_none started (by kernel_rfl) Try.func3
    (ChangeSpec.witness6 (enc := enc) (C := Try.checked) false ⟨#[], #[.string ⟨#[]⟩], []⟩ 8 (by kernel_rfl) (by kernel_rfl) (by kernel_rfl) (by kernel_rfl)) ?_
  intro W base args ds gs before hval0 hW hcnd _
  have hval : ∀ (j : Nat) t v, Try.f3.params[j]? = some t → args[j]? = some v → Value.okWide Try.prog W .any base t v := hval0
  have hW' := hW
  obtain ⟨p, q, hA0, hV, rfl, hfz, hnd⟩ := hW
  have hA : DataW.TrodAll enc Try.prog W 0 (fun _ => true) true Try.f3.params.toList args.toList ds p := hA0
  rw [Try.params3] at hA hval
  obtain ⟨v0, vs0, d0, ds0, p0, q0, hargs, rfl, rfl, h0, r0⟩ := trodAll_cons hA
  obtain ⟨rfl, rfl, rfl⟩ := trodAll_nil r0
  obtain rfl : args = #[v0] := by cases args; simp_all
  obtain ⟨rfl, rfl⟩ := trodVars_none hV
  obtain ⟨a0, rfl, rfl, rfl, w0⟩ := open_string Try.underlying9 (hval 0 9 v0 rfl rfl) h0
  clear hA0 hval0
  simp only [List.append_nil] at hW'
  refine (walk HC a0 W trivial w0).mono fun e W' ⟨he, bel⟩ => ?_
  subst he
  exact ⟨_, rfl, _, _, _, [], [], [], hW', trodAll_mk1 (shut_bool Try.underlying4 _), (trodAll_cons_mk (shut_string Try.underlying9 w0) trodAll_mk0), rfl, bel.frame _, fun h => by cases h⟩

theorem over (HC : GroupsC (fun _ => True) knownR) : Rows.groupsExpandsRow.holds Try.pinned (OpenSpec.ofChange Rows.groupsExpandsSpec) :=
  OpenClaim.holds_of_wide 3 Try.f3 rfl rfl rfl rfl rfl rfl rfl ⟨rfl, rfl, rfl, rfl, rfl⟩ rfl rfl rfl rfl rfl (by kernel_rfl) Try.func3 (by kernel_rfl)
    (of_decide_eq_true (by kernel_rfl)) (by unfold Func.isWrapper; first | (rw [if_pos (by decide +kernel)]; kernel_rfl) | (rw [if_neg (by decide +kernel)]; exact ⟨rfl, rfl⟩))
    (fun os started H enc _ => lifted HC os started H enc)

/-- The statement. -/
theorem proved : Rows.GroupsExpandsSaid := over groupsC
#print axioms proved
end Go.Proofs.Ytciocmhmdhmdoaa.groupsExpands
