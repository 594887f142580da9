/- The statement InsnCodes holds: any code is known, or not, has the class, the name, takes X as the chapter says; so any name has a code. No condition. -/
import Derived.Test.YtekmbhjdacaphaaDoorRows
import Derived.Test.YtekmbhjdacaphaaDoorCards
import Derived.Test.YtekmbhjdacaphaaDoorTie
import Derived.SevenTiedAt
import Derived.Test.YtekmbhjdacaphaaDoorFr
import Derived.Test.YtekmbhjdacaphaaDoorLw
import Derived.Test.YtekmbhjdacaphaaDoorIs
import Derived.Deep.RegionHeld3
import Derived.Deep.DrawnRows
namespace Go.Proofs.YtekmbhjdacaphaaDoor.insnCodes
open Go.ChangeShapes Go.WideShapes Go.ChangeAt Go.RowKit
open Go.ChangeMaps (open_string shut_string)
set_option linter.unusedVariables false
attribute [local go_sem ↓] Go.wp_at_zero Go.wp_at_succ

theorem keep3 {v w' : World} {p q : Addr} {u y : Value} (hb : Below v.heap.size v w') (h : v.cell? p = some u ∧ v.cell? q = some y ∧ GW v) : w'.cell? p = some u ∧ w'.cell? q = some y ∧ GW w' :=
  ⟨(hb.cell (World.block_lt_of_cell? v p h.1)).trans h.1, (hb.cell (World.block_lt_of_cell? v q h.2.1)).trans h.2.1, h.2.2.on hb⟩
theorem keepS {v w' : World} {p : Addr} {u : Value} (hb : Below v.heap.size v w') (h : v.cell? p = some u) : w'.cell? p = some u := (hb.cell (World.block_lt_of_cell? v p h)).trans h
set_option maxRecDepth 100000 in
set_option maxHeartbeats 4000000 in
theorem walk (HC : InsnC) (a0 : Int) (a1 : ByteArray) (w : World) (hG : GW w) (w0 : (Lit.int .u16 a0).wf = true) (w1 : a1.size ≤ maxLen) :
    Calls Tryd.prog 3 #[.int .u16 a0, .string a1] w fun e w' => e = .returned (.bool true) ∧ Below w.heap.size w w' := by
  obtain ⟨c0, c1⟩ := bounds_u16 w0
  unfold maxLen at w1
  by_cases hbig : (100 : Int) < a1.size
  · clear w0
    go_enter Tryd.func3, Tryd.ntmps3
    go_wp2_with fail
    go_ret
    exact ⟨rfl, Below.refl _ _⟩
  · have c2 : a0 < 65536 := by omega
    have hs : a1.size ≤ maxLen := by unfold maxLen; omega
    have HK := Lib.hid (fun W hG => HC.known a0 W hG c0 c2)
    have HK' := Lib.hid (refKnown_any a0)
    have HO := Lib.hid (fun W hG => HC.of_ a0 W hG c0 c2)
    have HO' := Lib.hid (refOf_any a0)
    have HN := Lib.hid (fun W hG => HC.name_ a0 W hG c0 c2)
    have HX := Lib.hid (fun W hG => HC.withX a0 W hG c0 c2)
    have HX' := Lib.hid (refWithX_any a0)
    have HD := Lib.hid (fun W hG => HC.code a1 W hG hs)
    have HD' := Lib.hid (refCode_any a1)
    obtain ⟨x, hx⟩ : ∃ x, x = ofL allL a0 := ⟨_, rfl⟩
    rw [← hx] at HO HO' HN
    obtain ⟨kb, hkb⟩ : ∃ b, b = knownB a0 := ⟨_, rfl⟩
    rw [← hkb] at HK HK'
    obtain ⟨xb, hxb⟩ : ∃ b, b = withXB a0 := ⟨_, rfl⟩
    rw [← hxb] at HX HX'
    obtain ⟨cv, hcv⟩ : ∃ b, b = codeV a1 := ⟨_, rfl⟩
    obtain ⟨cb, hcb⟩ : ∃ b, b = codeB a1 := ⟨_, rfl⟩
    rw [← hcv, ← hcb] at HD HD'
    obtain ⟨xc, xn, xk⟩ := x
    have HG := Lib.hid hG
    clear hx hkb hxb hcv hcb HC c0 c1 c2 hs w0 w1 hG
    go_enter Tryd.func3, Tryd.ntmps3
    go_wp2_with (first
      | (go_at_call 7; ((with_reducible refine (HO'.out _).mono ?_); rintro e w1 ⟨rfl, b1⟩))
      | (go_at_call 8; ((with_reducible refine (HD.out _ ((HG.out.on b1).alloc _)).mono ?_); rintro e w2 ⟨rfl, b2⟩))
      | (go_at_call 9; ((with_reducible refine (HD'.out _).mono ?_); rintro e w3 ⟨rfl, b3⟩)))
    have q1 := box_cells (b2.trans (b3.mono b2.size)) 1 (.string xn) rfl
    have q2 := box_cells (b2.trans (b3.mono b2.size)) 2 (.int .u8 xk) rfl
    have hb3 : Below w.heap.size w w3 := (b1.alloc b1.size _).trans ((b2.trans (b3.mono b2.size)).mono (by have := b1.size; simp; omega))
    have hlt : w1.heap.size < w3.heap.size := by have := b2.size; have := b3.size; simp at *; omega
    have G3 := (((HG.out.on b1).alloc _).on b2).on b3
    clear b1 b2 b3
    go_region_held3 (fun w' => w'.cell? ⟨w1.heap.size, 1, none⟩ = some (.string xn) ∧ w'.cell? ⟨w1.heap.size, 2, none⟩ = some (.int .u8 xk) ∧ GW w') (first | assumption | exact ⟨q1, q2, G3.drew⟩ | exact keep3 (by assumption) (by assumption)) (first
      | (go_at_call 10; refine (HK.out _ (by assumption : _ ∧ _ ∧ GW _).2.2).mono ?_; rintro e w4 ⟨rfl, b4⟩)
      | (go_at_call 11; refine (HK'.out _).mono ?_; rintro e w5 ⟨rfl, b5⟩)
      | (go_at_call 12; refine (HO.out _ (by assumption : _ ∧ _ ∧ GW _).2.2).mono ?_; rintro e w6 ⟨rfl, b6⟩)
      | (go_at_call 13; refine (HN.out _ (by assumption : _ ∧ _ ∧ GW _).2.2).mono ?_; rintro e w7 ⟨rfl, b7⟩)
      | (go_at_call 14; refine (HX.out _ (by assumption : _ ∧ _ ∧ GW _).2.2).mono ?_; rintro e w8 ⟨rfl, b8⟩)
      | (go_at_call 15; refine (HX'.out _).mono ?_; rintro e w9 ⟨rfl, b9⟩))
    go_wp2
    go_ret
    exact ⟨rfl, thn (thn (thn (thn (thn (hb3.drew.trans (b4.mono hb3.size)) b5) b6) b7) b8) b9⟩

set_option maxRecDepth 100000 in
theorem lifted (HC : InsnC) (os : Os) (started : os.Started) (H : Type) (enc : TypeId × Value → H) :
    ReturnsInHanded {} Tryd.checked os 3 .any (fun w args => (Rows.insnCodesSpec.pre enc Tryd.prog Tryd.f3 [] false w args ∧ laidMetH Tryd.prog listed w) ∧ sizedMet enc Tryd.prog Tryd.f3 (OpenSpec.ofChange Rows.insnCodesSpec) false w args)
      (Rows.insnCodesSpec.post enc Tryd.prog Tryd.f3 false true false false) := by
  refine returnsInHanded_of_change_and (C := Tryd.checked) (X := fun w _ => laidMetH Tryd.prog listed w) (fun _ _ _ hh h => h.of_heap hh) ownKnob_none started (by kernel_rfl) Tryd.func3
    (ChangeSpec.witness_shaped (enc := enc) (C := Tryd.checked) (os := os) (X := fun w _ => laidMetH Tryd.prog listed w) false (World.doorLaid Tryd.prog 400 os) #[.int .u16 0, .string ⟨#[]⟩] 8 rfl (World.shaped_of_RefB (by kernel_rfl) (by kernel_rfl)) (by kernel_rfl) (by kernel_rfl) (by kernel_rfl) (door_met os _)) ?_
  intro W base args ds gs before hval0 hW _ _ hL _
  have hG : GW W := of_laid hL
  have hval : ∀ (j : Nat) t v, Tryd.f3.params[j]? = some t → args[j]? = some v → Value.okWide Tryd.prog W .any base t v := hval0
  have hW' := hW
  obtain ⟨p, q, hA0, hV, rfl, hfz, hnd⟩ := hW
  have hA : DataW.TrodAll enc Tryd.prog W 0 (fun _ => true) true Tryd.f3.params.toList args.toList ds p := hA0
  rw [Tryd.params3] at hA hval
  obtain ⟨v0, vs0, d0, ds0, p0, q0, hargs, rfl, rfl, h0, r0⟩ := trodAll_cons hA
  obtain ⟨v1, vs1, d1, ds1, p1, q1, rfl, rfl, rfl, h1, r1⟩ := trodAll_cons r0
  obtain ⟨rfl, rfl, rfl⟩ := trodAll_nil r1
  obtain rfl : args = #[v0, v1] := by cases args; simp_all
  obtain ⟨rfl, rfl⟩ := trodVars_none hV
  obtain ⟨a0, rfl, rfl, rfl, w0⟩ := open_int Tryd.underlying22 (hval 0 22 v0 rfl rfl) h0
  obtain ⟨a1, rfl, rfl, rfl, w1⟩ := open_string Tryd.underlying9 (hval 1 9 v1 rfl rfl) h1
  clear hA0 hval0
  simp only [List.append_nil] at hW'
  refine (walk HC a0 a1 W hG w0 w1).mono fun e W' ⟨he, bel⟩ => ?_
  subst he
  exact ⟨_, rfl, _, _, _, [], [], [], hW', trodAll_mk1 (shut_bool Tryd.underlying4 _), (trodAll_cons_mk (shut_int Tryd.underlying22 w0) (trodAll_cons_mk (shut_string Tryd.underlying9 w1) trodAll_mk0)), rfl, bel.frame _, fun h => by cases h⟩

theorem over (HC : InsnC) : Rows.insnCodesRow.holds Tryd.pinned (OpenSpec.ofChange Rows.insnCodesSpec) :=
  OpenClaim.holds_of_wide 3 Tryd.f3 rfl rfl rfl rfl rfl rfl rfl ⟨rfl, rfl, rfl, rfl, rfl⟩ rfl rfl rfl rfl rfl (by kernel_rfl) Tryd.func3 (by kernel_rfl)
    (of_decide_eq_true (by kernel_rfl)) (by unfold Func.isWrapper; first | (rw [if_pos (by decide +kernel)]; kernel_rfl) | (rw [if_neg (by decide +kernel)]; exact ⟨rfl, rfl⟩))
    (fun os started H enc _ => lifted HC os started H enc)

/-- The row's statement. -/
theorem row_holds : Rows.InsnCodesSaid := over insnC
/-- The statement: the row, its table tied to the program's text. -/
theorem proved : Rows.InsnCodesCardSaid :=
  Claim7.holds_tied_plain_at .later [] [.data] true Rows.insnCodesCard.stood.harness Rows.insnCodesCard.stood.looks
    row_holds (fun _ h => by cases h) (by kernel_rfl) (fun _ h => by cases h) insnCodes_row_tie rfl ⟨rfl, rfl⟩ (by kernel_rfl) rfl
    (fun f fn hf hfn => by
      obtain rfl : f = 3 := Option.some.inj ((show Tryd.prog.funcNamed "vestibule/vestibulelaw02.InsnCodes" = some 3 by kernel_rfl).symm.trans hf) |>.symm
      obtain rfl : fn = Tryd.f3 := (Option.some.inj (Tryd.func3.symm.trans hfn)).symm
      exact ⟨by kernel_rfl, fun j t ht => by
        have hm : t ∈ Tryd.f3.params.toList := by simpa using Array.mem_of_getElem? ht
        have hall : (Tryd.f3.params.toList.all fun u => !Tryd.prog.wantsStandIn u) = true := by kernel_rfl
        exact (show Tryd.prog.wantsStandIn t = false by simpa using List.all_eq_true.1 hall t hm)⟩)
    (by kernel_rfl)
#print axioms proved

end Go.Proofs.YtekmbhjdacaphaaDoor.insnCodes
