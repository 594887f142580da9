/- The statement FilterOwn holds: nothing of a policy changes but what the key names; each note has the file and the line of the assignment. Conditions: the library's table of powers of ten, its two errors, and the names' table of errnos lie in their variables, as the program's text lays them. -/
import Derived.Test.YtanifiobfbfehaaGreatDoorPh
import Derived.Test.YtanifiobfbfehaaGreatDoorPi
import Derived.Test.YtanifiobfbfehaaGreatDoorPj
import Derived.Test.YtanifiobfbfehaaGreatDoorPk
import Derived.Test.YtanifiobfbfehaaGreatDoorRows
import Derived.Test.YtanifiobfbfehaaGreatDoorCards
import Derived.Test.YtanifiobfbfehaaGreatDoorTie
import Derived.SevenTiedAt
import Derived.Test.YtanifiobfbfehaaGreatDoorWd
import Derived.Test.YtanifiobfbfehaaGreatDoorTz
import Derived.Test.YtanifiobfbfehaaGreatDoorQ7
import Derived.Test.YtanifiobfbfehaaGreatDoorP9
import Derived.Test.YtanifiobfbfehaaGreatDoorPd
namespace Go.Proofs.YtanifiobfbfehaaGreatDoor.filterOwn
open Go.RowKit Go.Proofs.YtanifiobfbfehaaGreatDoor.filterSets
set_option linter.unusedVariables false
set_option linter.unusedSimpArgs false
attribute [local go_sem ↓] Go.wp_at_zero Go.wp_at_succ

set_option maxRecDepth 100000 in
set_option maxHeartbeats 16000000 in
theorem walk {G : World → Prop} (HC : FilterC G) (HAWK : ∀ (W : World), G W → Calls Tryz.prog 14 #[] W fun e w' => e = .returned (.bool true) ∧ Below W.heap.size W w') (p : Pls) (P : Pol) (a : As) (w : World) (hG : G w) (ok : P.Ok) (hP : PolAt w p P) : Calls Tryz.prog 5 #[plV p P, asV a] w fun e w' => e = .returned (.bool true) ∧ Below w.heap.size w w' := by
  by_cases hgr : GreatB p a
  · by_cases h1 : a.key = kFil
    · exact walk_fil HC HAWK p P a w hG ok hP hgr h1
    by_cases h2 : a.key = kLog
    · exact walk_log HC HAWK p P a w hG ok hP hgr h1 h2
    by_cases h3 : a.key = kErr
    · exact walk_err HC HAWK p P a w hG ok hP hgr h1 h2 h3
    · exact walk_oth HC HAWK p P a w hG ok hP hgr h1 h2 h3
  obtain ⟨af, al, ax, ak, av⟩ := a
  have HON := Lib.hid (fun (w w' : World) => HC.on (w := w) (w' := w'))
  have HG := Lib.hid hG
  have HAW := Lib.hid (fun (W : World) (g : G W) => HAWK W g)
  have HP0 := Lib.hid hP
  obtain ⟨W, hW⟩ : ∃ W, W = (w.alloc (.cells #[.slice p.aq p.an p.ac, .int .u8 (P.fl.1 : Nat), .slice p.fq p.fn p.fc, .int .u32 (P.dn : Nat), .int .u8 (P.lg.1 : Nat), .slice p.lq p.ln p.lc, .slice p.mq p.mn p.mc, .int .u8 (P.fm : Nat), .int .u64 (P.sp : Nat), .bool P.b1, .bool P.b2, .bool P.b3, .bool P.b4] 30)).alloc (.cells #[.string af, .int .i64 al, .string ax, .string ak, .string av] 32) := ⟨_, rfl⟩
  have X0 := Lib.hid (show W.heap[w.heap.size]? = some (.cells (plC p P).toArray 30 (0, 0)) by rw [hW]; exact (Below.heap_alloc _ _ _ (by rw [World.size_alloc]; exact Nat.lt_succ_self _)).trans (heap_alloc_new w _))
  have Y0 := Lib.hid (show W.heap[w.heap.size + 1]? = some (.cells #[.string af, .int .i64 al, .string ax, .string ak, .string av] 32 (0, 0)) by rw [hW, ← World.size_alloc w]; exact heap_alloc_new _ _)
  have B0 := Lib.hid (show Below w.heap.size w W from hW ▸ ((Below.refl _ _).alloc (Nat.le_refl _) _).alloc (by rw [World.size_alloc]; exact Nat.le_succ _) _)
  have HWW := Lib.hid hW
  clear hW
  have HGR := Lib.hid (fun (X : World) => great_yes17 p P ⟨af, al, ax, ak, av⟩ hgr X)
  simp only [plV_eq, asV] at HGR ⊢
  clear hgr hG hP HC HAWK
  go_enter Tryz.func5, Tryz.ntmps5
  go_wp2_with (first
    | (go_at_call 7; rw [← HWW.out]; ((with_reducible refine (HGR.out _).mono ?_); rintro e v1 ⟨rfl, b1⟩); have B1 := Lib.hid (thn16 B0.out b1))
    | (go_at_call 14; ((with_reducible refine (HAW.out _ (HON.out _ _ HG.out B1.out)).mono ?_); rintro e v2 ⟨rfl, b2⟩)))
  go_ret
  exact ⟨rfl, thn16 B1.out b2⟩
end Go.Proofs.YtanifiobfbfehaaGreatDoor.filterOwn
namespace Go.Proofs.YtanifiobfbfehaaGreatDoor.filterOwnF
open Go.ChangeShapes Go.WideShapes Go.ChangeAt Go.RowKit
open Go.ChangeMaps (open_string shut_string)
set_option linter.unusedVariables false
set_option linter.unusedSimpArgs false

theorem walk {G : World → Prop} (HC : FilterC G) (a0 : Pls) (P0 : Pol) (a1 : As) (w : World) (hG : G w) (x0 : P0.Ok) (w0 : PolAt w a0 P0) (w1 : a1.file.size ≤ maxLen ∧ a1.sec.size ≤ maxLen ∧ a1.key.size ≤ maxLen ∧ a1.val.size ≤ maxLen ∧ (Lit.int .i64 a1.line).wf = true) :
    Calls Tryz.prog 5 #[plV a0 P0, asV a1] w fun e w' => e = .returned (.bool true) ∧ Below w.heap.size w w' :=
  filterOwn.walk HC (fun W g => awake17_any HC W g) a0 P0 a1 w hG x0 w0

set_option maxRecDepth 100000 in
theorem lifted (HC : FilterC GN) (os : Os) (started : os.Started) (H : Type) (enc : TypeId × Value → H) :
    ReturnsInHanded {} Tryz.checked os 5 .any (fun w args => (Rows.filterOwnSpec.pre enc Tryz.prog Tryz.f5 [] false w args ∧ laidMetH Tryz.prog listed16 w) ∧ sizedMet enc Tryz.prog Tryz.f5 (OpenSpec.ofChange Rows.filterOwnSpec) false w args)
      (Rows.filterOwnSpec.post enc Tryz.prog Tryz.f5 false true false false) := by
  refine returnsInHanded_of_change_and (C := Tryz.checked) (X := fun w _ => laidMetH Tryz.prog listed16 w) (fun _ _ _ hh h => h.of_heap hh) ownKnob_none started (by kernel_rfl) Tryz.func5
    (ChangeSpec.witness_shaped (enc := enc) (C := Tryz.checked) (os := os) (X := fun w _ => laidMetH Tryz.prog listed16 w) false (World.doorLaid Tryz.prog 4000 os) #[.agg #[.slice none 0 0, .int .u8 0, .slice none 0 0, .int .u32 0, .int .u8 0, .slice none 0 0, .slice none 0 0, .int .u8 0, .int .u64 0, .bool false, .bool false, .bool false, .bool false], .agg #[.string ⟨#[]⟩, .int .i64 0, .string ⟨#[]⟩, .string ⟨#[]⟩, .string ⟨#[]⟩]] 8 rfl (World.shaped_of_RefB (by kernel_rfl) (by kernel_rfl)) (by kernel_rfl) (by kernel_rfl) (by kernel_rfl) (door_met16 os _)) ?_
  intro W base args ds gs before hval0 hW _ _ hL _
  have hG : GN W := of_laid16 hL
  have hval : ∀ (j : Nat) t v, Tryz.f5.params[j]? = some t → args[j]? = some v → Value.okWide Tryz.prog W .any base t v := hval0
  have hW' := hW
  obtain ⟨p, q, hA0, hV, rfl, hfz, hnd⟩ := hW
  have hA : DataW.TrodAll enc Tryz.prog W 0 (fun _ => true) true Tryz.f5.params.toList args.toList ds p := hA0
  rw [Tryz.params5] at hA hval
  obtain ⟨v0, vs0, d0, ds0, p0, q0, hargs, rfl, rfl, h0, r0⟩ := trodAll_cons hA
  obtain ⟨v1, vs1, d1, ds1, p1, q1, rfl, rfl, rfl, h1, r1⟩ := trodAll_cons r0
  obtain ⟨rfl, rfl, rfl⟩ := trodAll_nil r1
  obtain rfl : args = #[v0, v1] := by cases args; simp_all
  obtain ⟨rfl, rfl⟩ := trodVars_none hV
  have k0 := h0
  have lt0 : ∀ x ∈ p0, x.block < W.heap.size := by obtain ⟨m, hm⟩ := k0; exact DataW.trod_lt m _ _ _ hm
  obtain ⟨a0, P0, w0, x0, rfl⟩ := policy_open (hval 0 30 v0 rfl rfl) h0 lt0
  have k1 := h1
  have lt1 : ∀ x ∈ p1, x.block < W.heap.size := by obtain ⟨m, hm⟩ := k1; exact DataW.trod_lt m _ _ _ hm
  obtain ⟨a1, w1, rfl⟩ := assign_open (hval 1 32 v1 rfl rfl) h1
  clear hA0 hval0
  refine (walk HC a0 P0 a1 W hG x0 w0 w1).mono fun e W' ⟨he, bel⟩ => ?_
  subst he
  exact ⟨_, rfl, _, _, _, [], _, [], hW', trodAll_mk1 (shut_bool Tryz.underlying4 _), (trodAll_cons_mk (Below.trod laidOut (by kernel_rfl) (of_decide_eq_true (by kernel_rfl)) k0 bel lt0) (trodAll_cons_mk (Below.trod laidOut (by kernel_rfl) (of_decide_eq_true (by kernel_rfl)) k1 bel lt1) trodAll_mk0)), rfl, bel.frame _, fun h => by cases h⟩

theorem over (HC : FilterC GN) : Rows.filterOwnRow.holds Tryz.pinned (OpenSpec.ofChange Rows.filterOwnSpec) :=
  OpenClaim.holds_of_wide 5 Tryz.f5 rfl rfl rfl rfl rfl rfl rfl ⟨rfl, rfl, rfl, rfl, rfl⟩ rfl rfl rfl rfl rfl (by kernel_rfl) Tryz.func5 (by kernel_rfl)
    (of_decide_eq_true (by kernel_rfl)) (by unfold Func.isWrapper; first | (rw [if_pos (by decide +kernel)]; kernel_rfl) | (rw [if_neg (by decide +kernel)]; exact ⟨rfl, rfl⟩))
    (fun os started H enc _ => lifted HC os started H enc)

/-- The row's statement. -/
theorem row_holds : Rows.FilterOwnSaid := over filterC
/-- The statement: the row, its table tied to the program's text. -/
theorem proved : Rows.FilterOwnCardSaid :=
  Claim7.holds_tied_plain_at .later [] [.data, .data, .data, .sentinel, .sentinel, .data] true Rows.filterOwnCard.stood.harness Rows.filterOwnCard.stood.looks
    row_holds (fun _ h => by cases h) (by kernel_rfl) (fun _ h => by cases h) filterOwn_row_tie rfl ⟨rfl, rfl⟩ (by kernel_rfl) rfl
    (fun f fn hf hfn => by
      obtain rfl : f = 5 := Option.some.inj ((show Tryz.prog.funcNamed "vestibule/vestibulelaw17.FilterOwn" = some 5 by kernel_rfl).symm.trans hf) |>.symm
      obtain rfl : fn = Tryz.f5 := (Option.some.inj (Tryz.func5.symm.trans hfn)).symm
      exact ⟨by kernel_rfl, fun j t ht => by
        have hm : t ∈ Tryz.f5.params.toList := by simpa using Array.mem_of_getElem? ht
        have hall : (Tryz.f5.params.toList.all fun u => !Tryz.prog.wantsStandIn u) = true := by kernel_rfl
        exact (show Tryz.prog.wantsStandIn t = false by simpa using List.all_eq_true.1 hall t hm)⟩)
    (by kernel_rfl)
#print axioms proved
end Go.Proofs.YtanifiobfbfehaaGreatDoor.filterOwnF
