/- The statement NamesNumbers holds, over what the calls have to return: what number a name is. -/
import Derived.Test.YtnjbmccimdlcmaaDoorRows
import Derived.Test.YtnjbmccimdlcmaaDoorCards
import Derived.Test.YtnjbmccimdlcmaaDoorTie
import Derived.SevenTiedAt
import Derived.Test.YtnjbmccimdlcmaaDoorFr
import Derived.Test.YtnjbmccimdlcmaaDoorJr
import Derived.Test.YtnjbmccimdlcmaaDoorJq
import Derived.Test.YtnjbmccimdlcmaaDoorJe
namespace Go.Proofs.YtnjbmccimdlcmaaDoor.namesNumbers
open Go.ChangeShapes Go.WideShapes Go.ChangeAt Go.RowKit
open Go.ChangeMaps (open_string shut_string)
set_option linter.unusedVariables false
attribute [local go_sem ↓] Go.wp_at_zero Go.wp_at_succ
set_option linter.unusedSimpArgs false
theorem find_lt {l : List En10} {s : ByteArray} {B : Nat} : (l.all fun e => decide (e.2 < B)) = true → 0 < B → (findR l s).getD 0 < B := by
  induction l with
  | nil => intro _ h; exact h
  | cons e r ih =>
    intro ha hB
    rw [List.all_cons, Bool.and_eq_true] at ha
    unfold findR
    split
    · exact of_decide_eq_true ha.1
    · exact ih ha.2 hB
theorem thnN {u v w : World} (h : Below u.heap.size u v) (k : Below v.heap.size v w) : Below u.heap.size u w := h.trans (k.mono h.size)
set_option maxRecDepth 100000 in
set_option maxHeartbeats 16000000 in
theorem walk {G : World → Prop} (HC : NamesC G) (a0 : ByteArray) (w : World) (hG : G w) (w0 : a0.size ≤ maxLen) :
    Calls Tryd.prog 3 #[.string a0] w fun e w' => e = .returned (.bool true) ∧ Below w.heap.size w w' := by
  by_cases hlong : (200 : Int) < a0.size
  · clear HC hG w0
    go_enter Tryd.func3, Tryd.ntmps3
    go_wp2_with fail
    go_ret
    exact ⟨rfl, Below.refl _ _⟩
  have hs : (a0.size : Int) ≤ 200 := by omega
  have HON := Lib.hid (fun (w w' : World) => HC.on (w := w) (w' := w'))
  have HG := Lib.hid hG
  have HE := Lib.hid (fun (W : World) (g : G W) => HC.errno a0 W g w0)
  have HF := Lib.hid (fun (W : World) (g : G W) => HC.family a0 W g w0)
  have HS := Lib.hid (fun (W : World) (g : G W) => HC.space a0 W g w0)
  have RE := Lib.hid (fun (W : World) => refErrno a0 w0 W)
  have RT := Lib.hid (fun (W : World) => refFamilies W)
  have RU := Lib.hid (fun (W : World) => refSpaces W)
  have RF := Lib.hid (fun (g : Nat) (W : World) (h : RowsN W g famT) => refFind famT g a0 180 W (by decide) h)
  have RS := Lib.hid (fun (g : Nat) (W : World) (h : RowsN W g spcT) => refFind spcT g a0 181 W (by decide) h)
  have HA := Lib.hid (fun (W : World) (g : G W) => awake10_any HC W g)
  unfold TabTo at RT RU
  have f1 : ((findR famT a0).getD 0) < 4294967296 := find_lt (by decide) (by decide)
  rw [show (if (errnoR a0).isSome = true then (0 : Int) else 160) = errE (errnoR a0) 160 from rfl] at RE
  rw [show (if (findR famT a0).isSome = true then (0 : Int) else 180) = errE (findR famT a0) 180 from rfl] at RF
  rw [show (if (findR spcT a0).isSome = true then (0 : Int) else 181) = errE (findR spcT a0) 181 from rfl] at RS
  obtain ⟨a, ha⟩ : ∃ x, x = ((errnoR a0).getD 0) := ⟨_, rfl⟩
  obtain ⟨ae, hae⟩ : ∃ x, x = errE (errnoR a0) 160 := ⟨_, rfl⟩
  obtain ⟨b, hb⟩ : ∃ x, x = ((findR famT a0).getD 0) := ⟨_, rfl⟩
  obtain ⟨be, hbe⟩ : ∃ x, x = errE (findR famT a0) 180 := ⟨_, rfl⟩
  obtain ⟨c, hc⟩ : ∃ x, x = ((findR spcT a0).getD 0) := ⟨_, rfl⟩
  obtain ⟨ce, hce⟩ : ∃ x, x = errE (findR spcT a0) 181 := ⟨_, rfl⟩
  rw [← ha, ← hae] at HE RE
  rw [← hb, ← hbe] at HF RF
  rw [← hc, ← hce] at HS RS
  rw [← hb] at f1
  have u1 : IntKind.u64.wrap (b : Int) = b := by rw [IntKind.wrap_u64]; omega
  clear HC hG w0 ha hae hb hbe hc hce hlong
  go_enter Tryd.func3, Tryd.ntmps3
  go_wp2_with (first
    | (go_at_call 7; ((with_reducible refine (HE.out _ HG.out).mono ?_); rintro e v1 ⟨rfl, b1⟩); have G1 := HON.out _ _ HG.out b1)
    | (go_at_call 8; ((with_reducible refine (HF.out _ G1).mono ?_); rintro e v2 ⟨rfl, b2⟩); have G2 := HON.out _ _ G1 b2; have B2 := thnN b1 b2)
    | (go_at_call 9; ((with_reducible refine (HS.out _ G2).mono ?_); rintro e v3 ⟨rfl, b3⟩); have G3 := HON.out _ _ G2 b3; have B3 := thnN B2 b3)
    | (go_at_call 10; ((with_reducible refine (RE.out _).mono ?_); rintro e v4 ⟨rfl, b4⟩); have G4 := HON.out _ _ G3 b4; have B4 := thnN B3 b4)
    | (go_at_call 12; ((with_reducible refine (RT.out _).mono ?_); rintro e v5 ⟨rfl, r5, b5⟩); have G5 := HON.out _ _ G4 b5; have B5 := thnN B4 b5; have R5 := Lib.hid r5; clear r5)
    | (go_at_call 11; ((with_reducible refine (RF.out _ _ R5.out).mono ?_); rintro e v6 ⟨rfl, rfl⟩); skip)
    | (go_at_call 13; ((with_reducible refine (RU.out _).mono ?_); rintro e v7 ⟨rfl, r7, b7⟩); have G7 := HON.out _ _ G5 b7; have B7 := thnN B5 b7; have R7 := Lib.hid r7; clear r7)
    | (go_at_call 11; ((with_reducible refine (RS.out _ _ R7.out).mono ?_); rintro e v8 ⟨rfl, rfl⟩); skip)
    | (go_at_call 14; ((with_reducible refine (HA.out _ G7).mono ?_); rintro e v9 ⟨rfl, b9⟩); have B9 := thnN B7 b9))
  go_ret
  exact ⟨by first | rfl | simp, B9⟩

set_option maxRecDepth 100000 in
theorem lifted (HC : NamesC GN) (os : Os) (started : os.Started) (H : Type) (enc : TypeId × Value → H) :
    ReturnsInHanded {} Tryd.checked os 3 .any (fun w args => (Rows.namesNumbersSpec.pre enc Tryd.prog Tryd.f3 [] false w args ∧ laidMetH Tryd.prog listed10 w) ∧ sizedMet enc Tryd.prog Tryd.f3 (OpenSpec.ofChange Rows.namesNumbersSpec) false w args)
      (Rows.namesNumbersSpec.post enc Tryd.prog Tryd.f3 false true false false) := by
  refine returnsInHanded_of_change_and (C := Tryd.checked) (X := fun w _ => laidMetH Tryd.prog listed10 w) (fun _ _ _ hh h => h.of_heap hh) ownKnob_none started (by kernel_rfl) Tryd.func3
    (ChangeSpec.witness_shaped (enc := enc) (C := Tryd.checked) (os := os) (X := fun w _ => laidMetH Tryd.prog listed10 w) false (World.doorLaid Tryd.prog 4000 os) #[.string ⟨#[]⟩] 8 rfl (World.shaped_of_RefB (by kernel_rfl) (by kernel_rfl)) (by kernel_rfl) (by kernel_rfl) (by kernel_rfl) (door_met10 os _)) ?_
  intro W base args ds gs before hval0 hW _ _ hL _
  have hG : GN W := of_laid10 hL
  have hval : ∀ (j : Nat) t v, Tryd.f3.params[j]? = some t → args[j]? = some v → Value.okWide Tryd.prog W .any base t v := hval0
  have hW' := hW
  obtain ⟨p, q, hA0, hV, rfl, hfz, hnd⟩ := hW
  have hA : DataW.TrodAll enc Tryd.prog W 0 (fun _ => true) true Tryd.f3.params.toList args.toList ds p := hA0
  rw [Tryd.params3] at hA hval
  obtain ⟨v0, vs0, d0, ds0, p0, q0, hargs, rfl, rfl, h0, r0⟩ := trodAll_cons hA
  obtain ⟨rfl, rfl, rfl⟩ := trodAll_nil r0
  obtain rfl : args = #[v0] := by cases args; simp_all
  obtain ⟨rfl, rfl⟩ := trodVars_none hV
  obtain ⟨a0, rfl, rfl, rfl, w0⟩ := open_string Tryd.underlying9 (hval 0 9 v0 rfl rfl) h0
  clear hA0 hval0
  simp only [List.append_nil] at hW'
  refine (walk HC a0 W hG w0).mono fun e W' ⟨he, bel⟩ => ?_
  subst he
  exact ⟨_, rfl, _, _, _, [], [], [], hW', trodAll_mk1 (shut_bool Tryd.underlying4 _), (trodAll_cons_mk (shut_string Tryd.underlying9 w0) trodAll_mk0), rfl, bel.frame _, fun h => by cases h⟩

theorem over (HC : NamesC GN) : Rows.namesNumbersRow.holds Tryd.pinned (OpenSpec.ofChange Rows.namesNumbersSpec) :=
  OpenClaim.holds_of_wide 3 Tryd.f3 rfl rfl rfl rfl rfl rfl rfl ⟨rfl, rfl, rfl, rfl, rfl⟩ rfl rfl rfl rfl rfl (by kernel_rfl) Tryd.func3 (by kernel_rfl)
    (of_decide_eq_true (by kernel_rfl)) (by unfold Func.isWrapper; first | (rw [if_pos (by decide +kernel)]; kernel_rfl) | (rw [if_neg (by decide +kernel)]; exact ⟨rfl, rfl⟩))
    (fun os started H enc _ => lifted HC os started H enc)

/-- The row's statement. -/
theorem row_holds : Rows.NamesNumbersSaid := over namesC
/-- The statement: the row, its table tied to the program's text. -/
theorem proved : Rows.NamesNumbersCardSaid :=
  Claim7.holds_tied_plain_at .later [] [.data, .data, .data, .sentinel, .sentinel, .data, .data, .data] true Rows.namesNumbersCard.stood.harness Rows.namesNumbersCard.stood.looks
    row_holds (fun _ h => by cases h) (by kernel_rfl) (fun _ h => by cases h) namesNumbers_row_tie rfl ⟨rfl, rfl⟩ (by kernel_rfl) rfl
    (fun f fn hf hfn => by
      obtain rfl : f = 3 := Option.some.inj ((show Tryd.prog.funcNamed "vestibule/vestibulelaw10.NamesNumbers" = some 3 by kernel_rfl).symm.trans hf) |>.symm
      obtain rfl : fn = Tryd.f3 := (Option.some.inj (Tryd.func3.symm.trans hfn)).symm
      exact ⟨by kernel_rfl, fun j t ht => by
        have hm : t ∈ Tryd.f3.params.toList := by simpa using Array.mem_of_getElem? ht
        have hall : (Tryd.f3.params.toList.all fun u => !Tryd.prog.wantsStandIn u) = true := by kernel_rfl
        exact (show Tryd.prog.wantsStandIn t = false by simpa using List.all_eq_true.1 hall t hm)⟩)
    (by kernel_rfl)
#print axioms proved
end Go.Proofs.YtnjbmccimdlcmaaDoor.namesNumbers
