/- The statement ValuesEntries holds, over what the calls have to return: what entry a word is, and an entry's text. -/
import Derived.Test.YtfmfjnnbldmdlaaDoorRows
import Derived.Test.YtfmfjnnbldmdlaaDoorCards
import Derived.Test.YtfmfjnnbldmdlaaDoorTie
import Derived.SevenTiedAt
import Derived.Test.YtfmfjnnbldmdlaaDoorFr
import Derived.Test.YtfmfjnnbldmdlaaDoorKy
import Derived.Test.YtfmfjnnbldmdlaaDoorKh
import Derived.BigQuiet
import Derived.Deep.QuietTactic
import Derived.Test.YtfmfjnnbldmdlaaDoorKm
import Derived.Deep.RegionHeld3
namespace Go.Proofs.YtfmfjnnbldmdlaaDoor.valuesEntries
open Go.ChangeShapes Go.WideShapes Go.ChangeAt Go.RowKit
open Go.ChangeMaps (open_string shut_string)
set_option linter.unusedVariables false
attribute [local go_sem ↓] Go.wp_at_zero Go.wp_at_succ
theorem three {W W' : World} {b : Nat} {n : ByteArray} {x : Int} {h : Bool} (hc : W.cell? ⟨b, 0, none⟩ = some (.string n) ∧ W.cell? ⟨b, 1, none⟩ = some (.int .u32 x) ∧ W.cell? ⟨b, 2, none⟩ = some (.bool h)) (hb : Below W.heap.size W W') : W'.cell? ⟨b, 0, none⟩ = some (.string n) ∧ W'.cell? ⟨b, 1, none⟩ = some (.int .u32 x) ∧ W'.cell? ⟨b, 2, none⟩ = some (.bool h) :=
  ⟨(hb.cell (World.block_lt_of_cell? W _ hc.1)).trans hc.1, (hb.cell (World.block_lt_of_cell? W _ hc.2.1)).trans hc.2.1, (hb.cell (World.block_lt_of_cell? W _ hc.2.2)).trans hc.2.2⟩
theorem fresh {w : World} {n : ByteArray} {x : Int} {h : Bool} {t : TypeId} : (w.alloc (.cells #[.string n, .int .u32 x, .bool h] t)).cell? ⟨w.heap.size, 0, none⟩ = some (.string n) ∧ (w.alloc (.cells #[.string n, .int .u32 x, .bool h] t)).cell? ⟨w.heap.size, 1, none⟩ = some (.int .u32 x) ∧ (w.alloc (.cells #[.string n, .int .u32 x, .bool h] t)).cell? ⟨w.heap.size, 2, none⟩ = some (.bool h) := by
  refine ⟨?_, ?_, ?_⟩ <;> · rw [cell_of_row _ _ _ _ _ (0, 0) (heap_alloc_new w _)]; rfl
set_option maxRecDepth 100000 in
set_option maxHeartbeats 16000000 in
theorem walk {G : World → Prop} (HC : ValuesC G) (a0 : ByteArray) (a1 : Ent) (w : World) (hG : G w) (w0 : a0.size ≤ maxLen) (w1 : a1.nm.size ≤ maxLen ∧ a1.act < 4294967296) :
    Calls Tryd.prog 4 #[.string a0, entV a1] w fun e w' => e = .returned (.bool true) ∧ Below w.heap.size w w' := by
  obtain ⟨n1, act, h1⟩ := a1
  obtain ⟨wn, wa⟩ := w1
  simp only at wn wa
  have hent : entV ⟨n1, act, h1⟩ = .agg #[.string n1, .int .u32 ((act : Nat) : Int), .bool h1] := rfl
  have HX := Lib.hid hent
  rw [hent]
  obtain ⟨x1, hx1⟩ : ∃ x, x = ((act : Nat) : Int) := ⟨_, rfl⟩
  rw [← hx1]
  by_cases hlong : (2000 : Int) < a0.size
  · clear HC hG w0 hent HX hx1 wn wa
    go_enter Tryd.func4, Tryd.ntmps4
    go_wp2_with fail
    go_ret
    exact ⟨rfl, (Below.refl _ _).alloc (Nat.le_refl _) _⟩
  have hs : (a0.size : Int) ≤ 2000 := by omega
  by_cases hln : (200 : Int) < n1.size
  · clear HC hG w0 hent HX hx1 wn wa hlong
    go_enter Tryd.func4, Tryd.ntmps4
    go_wp2_with fail
    go_ret
    exact ⟨rfl, (Below.refl _ _).alloc (Nat.le_refl _) _⟩
  have hn : (n1.size : Int) ≤ 200 := by omega
  have HON := Lib.hid (fun (w w' : World) => HC.on (w := w) (w' := w'))
  have HG := Lib.hid hG
  have HR := Lib.hid (fun (W : World) (g : G W) => HC.read a0 W g (by omega))
  have RR := Lib.hid (fun (W : World) => refRead a0 (by omega) W)
  have HT := Lib.hid (fun (W : World) (g : G W) => HC.text ⟨n1, act, h1⟩ W g (by show n1.size ≤ 1000000; omega) wa)
  have RT := Lib.hid (fun (W : World) => refText ⟨n1, act, h1⟩ (by show n1.size ≤ 1000000; omega) wa W)
  have HA := Lib.hid (fun (W : World) (g : G W) => awake15_any HC W g)
  rw [HX.out, ← hx1] at HT RT
  obtain ⟨t, ht⟩ : ∃ t, t = textR ⟨n1, act, h1⟩ := ⟨_, rfl⟩
  rw [← ht] at HT RT
  have HI := Lib.hid (fun (W : World) => is_same (rdE a0).1 W)
  obtain ⟨E, hE⟩ : ∃ e, e = (rdE a0).1 := ⟨_, rfl⟩
  obtain ⟨f, hf⟩ : ∃ f, f = (rdE a0).2 := ⟨_, rfl⟩
  rw [← hE, ← hf] at HR RR
  rw [← hE] at HI
  obtain ⟨n2, act2, h2⟩ := E
  unfold entV at HR RR HI
  simp only at HR RR HI
  obtain ⟨x2, hx2⟩ : ∃ x, x = ((act2 : Nat) : Int) := ⟨_, rfl⟩
  rw [← hx2] at HR RR HI
  have t1 : (f == f) = true := by simp
  have t2 : (t.toList == t.toList) = true := by simp
  clear HC hG w0 hent HX hx1 wn wa hlong hln ht hE hf hx2
  go_enter Tryd.func4, Tryd.ntmps4
  go_wp2_with (first
    | (go_at_call 14
       with_reducible refine (HR.out _ (HON.out _ _ HG.out ((Below.refl _ _).alloc (Nat.le_refl _) _))).mono ?_
       rintro e v1 ⟨rfl, b1⟩
       have B1 := Lib.hid (thn ((Below.refl _ _).alloc (Nat.le_refl _) _) b1)
       have S1 := Lib.hid (three (fresh (w := w) (n := n1) (x := x1) (h := h1) (t := 35)) b1)
       clear b1)
    | (go_at_call 15
       with_reducible refine (RR.out _).mono ?_
       rintro e v2 ⟨rfl, b2⟩
       have B2 := Lib.hid (thn (B1.out.alloc B1.out.size _) b2)
       have S2 := Lib.hid (three (fresh (w := v1) (n := n2) (x := x2) (h := h2) (t := 36)) b2)
       have S3 := Lib.hid (three (three S1.out (show Below v1.heap.size v1 (v1.alloc (.cells #[.string n2, .int .u32 x2, .bool h2] 36)) from (Below.refl _ _).alloc (Nat.le_refl _) _)) b2)
       clear b2))
  have BB := Lib.hid (show Below v2.heap.size v2 (v2.alloc (.cells #[.string n2, .int .u32 x2, .bool h2] 35)) from (Below.refl _ _).alloc (Nat.le_refl _) _)
  have q1 := three S3.out BB.out
  have q2 := three S2.out BB.out
  have q3 := fresh (w := v2) (n := n2) (x := x2) (h := h2) (t := 35)
  have B3 := Lib.hid (thn B2.out BB.out)
  have GG := Lib.hid (HON.out _ _ HG.out B3.out)
  have keep := Lib.hid (show ∀ (W W' : World), (W.cell? ⟨w.heap.size, 0, none⟩ = some (.string n1) ∧ W.cell? ⟨w.heap.size, 1, none⟩ = some (.int .u32 x1) ∧ W.cell? ⟨w.heap.size, 2, none⟩ = some (.bool h1) ∧ W.cell? ⟨v1.heap.size, 0, none⟩ = some (.string n2) ∧ W.cell? ⟨v1.heap.size, 1, none⟩ = some (.int .u32 x2) ∧ W.cell? ⟨v1.heap.size, 2, none⟩ = some (.bool h2) ∧ W.cell? ⟨v2.heap.size, 0, none⟩ = some (.string n2) ∧ W.cell? ⟨v2.heap.size, 1, none⟩ = some (.int .u32 x2) ∧ W.cell? ⟨v2.heap.size, 2, none⟩ = some (.bool h2) ∧ G W) → Below W.heap.size W W' → (W'.cell? ⟨w.heap.size, 0, none⟩ = some (.string n1) ∧ W'.cell? ⟨w.heap.size, 1, none⟩ = some (.int .u32 x1) ∧ W'.cell? ⟨w.heap.size, 2, none⟩ = some (.bool h1) ∧ W'.cell? ⟨v1.heap.size, 0, none⟩ = some (.string n2) ∧ W'.cell? ⟨v1.heap.size, 1, none⟩ = some (.int .u32 x2) ∧ W'.cell? ⟨v1.heap.size, 2, none⟩ = some (.bool h2) ∧ W'.cell? ⟨v2.heap.size, 0, none⟩ = some (.string n2) ∧ W'.cell? ⟨v2.heap.size, 1, none⟩ = some (.int .u32 x2) ∧ W'.cell? ⟨v2.heap.size, 2, none⟩ = some (.bool h2) ∧ G W') from fun W W' h b => by
    obtain ⟨h0, h1, h2, h3, h4, h5, h6, h7, h8, hg⟩ := h
    obtain ⟨p0, p1, p2⟩ := three ⟨h0, h1, h2⟩ b
    obtain ⟨p3, p4, p5⟩ := three ⟨h3, h4, h5⟩ b
    obtain ⟨p6, p7, p8⟩ := three ⟨h6, h7, h8⟩ b
    exact ⟨p0, p1, p2, p3, p4, p5, p6, p7, p8, HON.out _ _ hg b⟩)
  have Q := Lib.hid (show (v2.alloc (.cells #[.string n2, .int .u32 x2, .bool h2] 35)).cell? ⟨w.heap.size, 0, none⟩ = some (.string n1) ∧ (v2.alloc (.cells #[.string n2, .int .u32 x2, .bool h2] 35)).cell? ⟨w.heap.size, 1, none⟩ = some (.int .u32 x1) ∧ (v2.alloc (.cells #[.string n2, .int .u32 x2, .bool h2] 35)).cell? ⟨w.heap.size, 2, none⟩ = some (.bool h1) ∧ (v2.alloc (.cells #[.string n2, .int .u32 x2, .bool h2] 35)).cell? ⟨v1.heap.size, 0, none⟩ = some (.string n2) ∧ (v2.alloc (.cells #[.string n2, .int .u32 x2, .bool h2] 35)).cell? ⟨v1.heap.size, 1, none⟩ = some (.int .u32 x2) ∧ (v2.alloc (.cells #[.string n2, .int .u32 x2, .bool h2] 35)).cell? ⟨v1.heap.size, 2, none⟩ = some (.bool h2) ∧ (v2.alloc (.cells #[.string n2, .int .u32 x2, .bool h2] 35)).cell? ⟨v2.heap.size, 0, none⟩ = some (.string n2) ∧ (v2.alloc (.cells #[.string n2, .int .u32 x2, .bool h2] 35)).cell? ⟨v2.heap.size, 1, none⟩ = some (.int .u32 x2) ∧ (v2.alloc (.cells #[.string n2, .int .u32 x2, .bool h2] 35)).cell? ⟨v2.heap.size, 2, none⟩ = some (.bool h2) ∧ G (v2.alloc (.cells #[.string n2, .int .u32 x2, .bool h2] 35)) from ⟨q1.1, q1.2.1, q1.2.2, q2.1, q2.2.1, q2.2.2, q3.1, q3.2.1, q3.2.2, GG.out⟩)
  obtain ⟨W3, hW3⟩ : ∃ W, W = v2.alloc (.cells #[.string n2, .int .u32 x2, .bool h2] 35) := ⟨_, rfl⟩
  rw [← hW3] at B3 Q ⊢
  have Q2 := Lib.hid (keep.out _ _ Q.out (show Below W3.heap.size W3 W3.drew from (Below.refl _ _).drew))
  clear q1 q2 q3 BB GG S1 S2 S3 B1 B2 hW3
  go_region_held3 (fun W => W.cell? ⟨w.heap.size, 0, none⟩ = some (.string n1) ∧ W.cell? ⟨w.heap.size, 1, none⟩ = some (.int .u32 x1) ∧ W.cell? ⟨w.heap.size, 2, none⟩ = some (.bool h1) ∧ W.cell? ⟨v1.heap.size, 0, none⟩ = some (.string n2) ∧ W.cell? ⟨v1.heap.size, 1, none⟩ = some (.int .u32 x2) ∧ W.cell? ⟨v1.heap.size, 2, none⟩ = some (.bool h2) ∧ W.cell? ⟨v2.heap.size, 0, none⟩ = some (.string n2) ∧ W.cell? ⟨v2.heap.size, 1, none⟩ = some (.int .u32 x2) ∧ W.cell? ⟨v2.heap.size, 2, none⟩ = some (.bool h2) ∧ G W) (first | assumption | exact Q2.out | exact Q.out | exact keep.out _ _ (by assumption) (by assumption)) (first
    | (go_at_call 16; refine (HI.out _).mono ?_; rintro e w4 ⟨rfl, b4⟩)
    | (go_at_call 17; refine (HT.out _ (by assumption : _ ∧ _ ∧ _ ∧ _ ∧ _ ∧ _ ∧ _ ∧ _ ∧ _ ∧ G _).2.2.2.2.2.2.2.2.2).mono ?_; rintro e w5 ⟨rfl, b5⟩)
    | (go_at_call 18; refine (RT.out _).mono ?_; rintro e w6 ⟨rfl, b6⟩)
    | (go_at_call 13; refine (HA.out _ (by assumption : _ ∧ _ ∧ _ ∧ _ ∧ _ ∧ _ ∧ _ ∧ _ ∧ _ ∧ G _).2.2.2.2.2.2.2.2.2).mono ?_; rintro e w7 ⟨rfl, b7⟩))
  all_goals
    go_wp2
    go_ret
    exact ⟨rfl, thn (thn (thn (thn (B3.out.drew) b4) b5) b6) b7⟩

set_option maxRecDepth 100000 in
theorem lifted (HC : ValuesC G15) (os : Os) (started : os.Started) (H : Type) (enc : TypeId × Value → H) :
    ReturnsInHanded {} Tryd.checked os 4 .any (fun w args => (Rows.valuesEntriesSpec.pre enc Tryd.prog Tryd.f4 [] false w args ∧ laidMetH Tryd.prog listed15 w) ∧ sizedMet enc Tryd.prog Tryd.f4 (OpenSpec.ofChange Rows.valuesEntriesSpec) false w args)
      (Rows.valuesEntriesSpec.post enc Tryd.prog Tryd.f4 false true false false) := by
  refine returnsInHanded_of_change_and (C := Tryd.checked) (X := fun w _ => laidMetH Tryd.prog listed15 w) (fun _ _ _ hh h => h.of_heap hh) ownKnob_none started (by kernel_rfl) Tryd.func4
    (ChangeSpec.witness_shaped (enc := enc) (C := Tryd.checked) (os := os) (X := fun w _ => laidMetH Tryd.prog listed15 w) false (World.doorLaid Tryd.prog 4000 os) #[.string ⟨#[]⟩, .agg #[.string ⟨#[]⟩, .int .u32 0, .bool false]] 8 rfl (World.shaped_of_RefB (by kernel_rfl) (by kernel_rfl)) (by kernel_rfl) (by kernel_rfl) (by kernel_rfl) (door_met15 os _)) ?_
  intro W base args ds gs before hval0 hW _ _ hL _
  have hG : G15 W := of_laid15 hL
  have hval : ∀ (j : Nat) t v, Tryd.f4.params[j]? = some t → args[j]? = some v → Value.okWide Tryd.prog W .any base t v := hval0
  have hW' := hW
  obtain ⟨p, q, hA0, hV, rfl, hfz, hnd⟩ := hW
  have hA : DataW.TrodAll enc Tryd.prog W 0 (fun _ => true) true Tryd.f4.params.toList args.toList ds p := hA0
  rw [Tryd.params4] at hA hval
  obtain ⟨v0, vs0, d0, ds0, p0, q0, hargs, rfl, rfl, h0, r0⟩ := trodAll_cons hA
  obtain ⟨v1, vs1, d1, ds1, p1, q1, rfl, rfl, rfl, h1, r1⟩ := trodAll_cons r0
  obtain ⟨rfl, rfl, rfl⟩ := trodAll_nil r1
  obtain rfl : args = #[v0, v1] := by cases args; simp_all
  obtain ⟨rfl, rfl⟩ := trodVars_none hV
  obtain ⟨a0, rfl, rfl, rfl, w0⟩ := open_string Tryd.underlying9 (hval 0 9 v0 rfl rfl) h0
  have k1 := h1
  have lt1 : ∀ x ∈ p1, x.block < W.heap.size := by obtain ⟨m, hm⟩ := k1; exact DataW.trod_lt m _ _ _ hm
  obtain ⟨a1, w1, rfl⟩ := entry_open (hval 1 35 v1 rfl rfl) h1
  clear hA0 hval0
  refine (walk HC a0 a1 W hG w0 w1).mono fun e W' ⟨he, bel⟩ => ?_
  subst he
  exact ⟨_, rfl, _, _, _, [], _, [], hW', trodAll_mk1 (shut_bool Tryd.underlying4 _), (trodAll_cons_mk (shut_string Tryd.underlying9 w0) (trodAll_cons_mk (Below.trod laidOut (by kernel_rfl) (of_decide_eq_true (by kernel_rfl)) k1 bel lt1) trodAll_mk0)), rfl, bel.frame _, fun h => by cases h⟩

theorem over (HC : ValuesC G15) : Rows.valuesEntriesRow.holds Tryd.pinned (OpenSpec.ofChange Rows.valuesEntriesSpec) :=
  OpenClaim.holds_of_wide 4 Tryd.f4 rfl rfl rfl rfl rfl rfl rfl ⟨rfl, rfl, rfl, rfl, rfl⟩ rfl rfl rfl rfl rfl (by kernel_rfl) Tryd.func4 (by kernel_rfl)
    (of_decide_eq_true (by kernel_rfl)) (by unfold Func.isWrapper; first | (rw [if_pos (by decide +kernel)]; kernel_rfl) | (rw [if_neg (by decide +kernel)]; exact ⟨rfl, rfl⟩))
    (fun os started H enc _ => lifted HC os started H enc)

/-- The row's statement. -/
theorem row_holds : Rows.ValuesEntriesSaid := over valuesC
/-- The statement: the row, its table tied to the program's text. -/
theorem proved : Rows.ValuesEntriesCardSaid :=
  Claim7.holds_tied_plain_at .later [] [.data, .data, .data, .sentinel, .sentinel, .data, .data] true Rows.valuesEntriesCard.stood.harness Rows.valuesEntriesCard.stood.looks
    row_holds (fun _ h => by cases h) (by kernel_rfl) (fun _ h => by cases h) valuesEntries_row_tie rfl ⟨rfl, rfl⟩ (by kernel_rfl) rfl
    (fun f fn hf hfn => by
      obtain rfl : f = 4 := Option.some.inj ((show Tryd.prog.funcNamed "vestibule/vestibulelaw15.ValuesEntries" = some 4 by kernel_rfl).symm.trans hf) |>.symm
      obtain rfl : fn = Tryd.f4 := (Option.some.inj (Tryd.func4.symm.trans hfn)).symm
      exact ⟨by kernel_rfl, fun j t ht => by
        have hm : t ∈ Tryd.f4.params.toList := by simpa using Array.mem_of_getElem? ht
        have hall : (Tryd.f4.params.toList.all fun u => !Tryd.prog.wantsStandIn u) = true := by kernel_rfl
        exact (show Tryd.prog.wantsStandIn t = false by simpa using List.all_eq_true.1 hall t hm)⟩)
    (by kernel_rfl)
#print axioms proved
end Go.Proofs.YtfmfjnnbldmdlaaDoor.valuesEntries
