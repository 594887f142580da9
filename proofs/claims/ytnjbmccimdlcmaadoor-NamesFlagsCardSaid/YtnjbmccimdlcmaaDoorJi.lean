/- The statement NamesFlags holds, over what the calls have to return: the flags in a number are one bit each, rise, and are all that it has of them. -/
import Derived.Test.YtnjbmccimdlcmaaDoorRows
import Derived.Test.YtnjbmccimdlcmaaDoorCards
import Derived.Test.YtnjbmccimdlcmaaDoorTie
import Derived.SevenTiedAt
import Derived.Test.YtnjbmccimdlcmaaDoorFr
import Derived.Test.YtnjbmccimdlcmaaDoorJr
import Derived.Test.YtnjbmccimdlcmaaDoorJq
import Derived.Test.YtnjbmccimdlcmaaDoorJe
import Derived.Deep.RegionWith
import Derived.BigQuiet
import Derived.Deep.QuietTactic
import Derived.WalkSmall
import Derived.Laws.BitsAllLaws
namespace Go.Proofs.YtnjbmccimdlcmaaDoor.namesFlags
open Go.ChangeShapes Go.WideShapes Go.ChangeAt Go.RowKit
open Go.ChangeMaps (open_string shut_string)
set_option linter.unusedVariables false
attribute [local go_sem ↓] Go.wp_at_zero Go.wp_at_succ
set_option linter.unusedSimpArgs false
set_option linter.unusedVariables false
theorem thnN {u v w : World} (h : Below u.heap.size u v) (k : Below v.heap.size v w) : Below u.heap.size u w := h.trans (k.mono h.size)
theorem ownOnN {w w' : World} {B n s : Nat} {e : TypeId} {v : Value} {xs : List Value} (h : w.ownsRow B e s v n xs) (b : Below w.heap.size w w') : w'.ownsRow B e s v n xs := by
  refine ⟨h.1, ?_⟩
  rcases h.2 with h2 | ⟨g, cap, cur, hv, hgB, hg, r⟩
  · exact Or.inl h2
  · exact Or.inr ⟨g, cap, cur, hv, hgB, (b.block g (Array.getElem?_eq_some_iff.1 hg).1).trans hg, r⟩
def spcN : List Nat := spcT.map (·.2)
theorem flags_sub (x : Nat) : (flagsR x).Sublist spcN := by
  show (((spcT.take 8).filter (fun e => x / e.2 % 2 == 1)).map (·.2)).Sublist (spcT.map (·.2))
  exact List.filter_sublist.map _
theorem spcN_up : spcN.Pairwise (· < ·) := by decide
theorem flags_up (x : Nat) : (flagsR x).Pairwise (· < ·) := spcN_up.sublist (flags_sub x)
theorem flags_ok : (spcN.all fun y => decide (0 < y) && decide (y < 4294967296) && decide (y &&& (y - 1) = 0) && !(nmS (nameR spcT y)).toList.isEmpty) = true := by kernel_rfl
theorem flag_ok {x y : Nat} (h : y ∈ flagsR x) : 0 < y ∧ y < 4294967296 ∧ y &&& (y - 1) = 0 ∧ (nmS (nameR spcT y)).toList.isEmpty = false := by
  have := List.all_eq_true.1 flags_ok y ((flags_sub x).subset h)
  simp only [Bool.and_eq_true, decide_eq_true_eq, Bool.not_eq_true'] at this
  exact ⟨this.1.1.1, this.1.1.2, this.1.2, this.2⟩
theorem spc_pow : (spcT.all fun e => decide (e.2 = 2 ^ e.2.log2)) = true := by kernel_rfl
theorem or_filter (x : Nat) : ∀ (l : List En10), (∀ e ∈ l, e.2 = 2 ^ e.2.log2) → ∀ a, ((l.filter fun e => x / e.2 % 2 == 1).map (·.2)).foldl (· ||| ·) a = a ||| (x &&& (l.map (·.2)).foldr (· ||| ·) 0)
  | [], _, a => by simp
  | e :: r, h, a => by
    have hb : x &&& e.2 = x / e.2 % 2 * e.2 := by
      have := nat_bit e.2.log2 x
      rw [← h e (List.mem_cons_self ..)] at this
      exact this
    have ih := or_filter x r (fun e he => h e (List.mem_cons_of_mem _ he))
    show _ = a ||| (x &&& (e.2 ||| (r.map (·.2)).foldr (· ||| ·) 0))
    rw [Nat.and_or_distrib_left, hb, List.filter_cons]
    by_cases hc : x / e.2 % 2 = 1
    · rw [if_pos (by rw [hc]; rfl), List.map_cons, List.foldl_cons, ih, hc, Nat.one_mul, Nat.or_assoc]
    · rw [if_neg (by simpa using hc), ih, show x / e.2 % 2 = 0 by omega, Nat.zero_mul, Nat.zero_or]
theorem or_flags (x : Nat) : (flagsR x).foldl (· ||| ·) 0 = x &&& allN := by
  have := or_filter x spcT (fun e he => of_decide_eq_true (List.all_eq_true.1 spc_pow e he)) 0
  rw [Nat.zero_or, show (spcT.map (·.2)).foldr (· ||| ·) 0 = allN by decide] at this
  exact this
theorem or_lt32 : ∀ (l : List Nat), (∀ y ∈ l, y < 4294967296) → ∀ a, a < 4294967296 → l.foldl (· ||| ·) a < 4294967296
  | [], _, a, h => h
  | y :: r, h, a, ha => or_lt32 r (fun z hz => h z (List.mem_cons_of_mem _ hz)) _ (Nat.or_lt_two_pow (n := 32) ha (h y (List.mem_cons_self ..)))
def orS (x k : Nat) : Nat := ((flagsR x).take k).foldl (· ||| ·) 0
theorem orS_lt (x k : Nat) : orS x k < 4294967296 := or_lt32 _ (fun y hy => (flag_ok (List.mem_of_mem_take hy)).2.1) 0 (by decide)
theorem orS_step {x k y : Nat} (h : (flagsR x)[k]? = some y) : orS x (k + 1) = orS x k ||| y := by
  unfold orS
  rw [List.take_add_one, h, List.foldl_append]; rfl
theorem flags_all : (flagsR allN).length = 8 := by kernel_rfl
set_option maxRecDepth 100000 in
set_option maxHeartbeats 16000000 in
theorem walk {G : World → Prop} (HC : NamesC G) (a0 : Int) (w : World) (hG : G w) (w0 : (Lit.int .u64 a0).wf = true) :
    Calls Tryd.prog 6 #[.int .u64 a0] w fun e w' => e = .returned (.bool true) ∧ Below w.heap.size w w' := by
  obtain ⟨m0, m1⟩ := bounds_u64 w0
  obtain ⟨x, rfl⟩ := Int.eq_ofNat_of_zero_le m0
  have hx : x < 18446744073709551616 := by omega
  have HON := Lib.hid (fun (w w' : World) => HC.on (w := w) (w' := w'))
  have HG := Lib.hid hG
  have HL := Lib.hid (fun (W : World) (g : G W) => HC.flags x W g hx)
  have HS := Lib.hid (fun (W : World) (g : G W) => HC.spaces W g)
  have HQ := Lib.hid (fun (W : World) (g : G W) => HC.flags allN W g (by decide))
  have HN := Lib.hid (fun (y : Nat) (hy : y < 18446744073709551616) (W : World) (g : G W) => HC.spaceName y W g hy)
  have HA := Lib.hid (fun (W : World) (g : G W) => awake10_any HC W g)
  rw [flags_all] at HQ
  have hand : bits .and .u64 (x : Int) (allN : Int) = ((x &&& allN : Nat) : Int) := u64_and_nat x allN hx (by decide)
  obtain ⟨L, hL⟩ : ∃ t, t = flagsR x := ⟨_, rfl⟩
  have hle : L.length ≤ 8 := by rw [hL]; exact flags_le x 8
  have HOK := Lib.hid (fun (y : Nat) (h : y ∈ L) => flag_ok (x := x) (y := y) (by rw [← hL]; exact h))
  have HUP := Lib.hid (show L.Pairwise (· < ·) by rw [hL]; exact flags_up x)
  have HST := Lib.hid (fun (k y : Nat) (h : L[k]? = some y) => orS_step (x := x) (k := k) (y := y) (by rw [← hL]; exact h))
  have HLT := Lib.hid (orS_lt x)
  have HFIN := Lib.hid (show orS x L.length = x &&& allN by unfold orS; rw [hL, List.take_length]; exact or_flags x)
  have HZ := Lib.hid (show orS x 0 = 0 from rfl)
  rw [← hL] at HL
  obtain ⟨S, hS⟩ : ∃ S : Nat → Nat, S = orS x := ⟨_, rfl⟩
  rw [← hS] at HST HLT HFIN HZ
  obtain ⟨T, hT⟩ : ∃ T, T = x &&& allN := ⟨_, rfl⟩
  rw [← hT] at HFIN hand
  obtain ⟨al, hal⟩ : ∃ a, a = allN := ⟨_, rfl⟩
  rw [← hal] at HS HQ hand
  obtain ⟨c, hc⟩ : ∃ c, c = L.length := ⟨_, rfl⟩
  rw [← hc] at HL hle HFIN
  have HCL := Lib.hid hc
  clear HC hG w0 m0 m1 hL hS hT hal hc hx
  go_enter Tryd.func6, Tryd.ntmps6
  go_wp2_with ((go_at_call 15; ((with_reducible refine (HL.out _ HG.out).mono ?_); rintro e v1 ⟨q1, c1, rfl, o1, b1⟩); have G1 := Lib.hid (HON.out _ _ HG.out b1); have O1 := Lib.hid o1; have B1 := Lib.hid b1; clear o1 b1))
  go_loopw [4, 5] (fun v4 v5 wr => ∃ (k : Nat), k ≤ c ∧ v5 = .int .i64 k ∧ v4 = .int .u64 (S k : Nat) ∧ Hid (Below v1.heap.size v1 wr)) (fun _ v5 _ => c - (intOf v5).toNat)
  case atStart => exact ⟨0, by omega, rfl, by rw [HZ.out]; rfl, Lib.hid (Below.refl _ _)⟩
  case round =>
    obtain ⟨k, hk, rfl, rfl, PB⟩ := hrel
    obtain ⟨V, rfl⟩ : ∃ wo : World, wo = wr := ⟨_, rfl⟩
    by_cases hlt : k < c
    · have hkl : L[k]? = some (L[k]'(by rw [← HCL.out]; exact hlt)) := List.getElem?_eq_getElem _
      obtain ⟨y, hy⟩ : ∃ y, y = L[k]'(by rw [← HCL.out]; exact hlt) := ⟨_, rfl⟩
      rw [← hy] at hkl
      obtain ⟨f1, f2, f3, f4⟩ := HOK.out y (List.mem_of_getElem? hkl)
      obtain ⟨g1, d1, e1, f5, h1⟩ := O1.out.form (by omega)
      injection e1 with e11 e12 e13
      subst e11 e13
      have o := ownOnN O1.out PB.out
      have c0 := (o.cellAt k (by omega)).trans (u64N_get hkl)
      have HP := Lib.hid (HN.out y (by omega))
      have HSS := Lib.hid (HST.out k y hkl)
      obtain ⟨nm, hnm⟩ : ∃ t, t = nmS (nameR spcT y) := ⟨_, rfl⟩
      rw [← hnm] at HP f4
      have hsl := HLT.out k
      have hor : bits .or .u64 (S k : Int) (y : Int) = ((S k ||| y : Nat) : Int) := u64_or_nat _ _ (by omega) (by omega)
      rw [← HSS.out] at hor
      have hpd : bits .and .u64 (y : Int) ((y - 1 : Nat) : Int) = ((y &&& (y - 1) : Nat) : Int) := u64_and_nat _ _ (by omega) (by omega)
      rw [f3] at hpd
      have hpw : IntKind.u64.wrap ((y : Int) - 1) = ((y - 1 : Nat) : Int) := by rw [IntKind.wrap_u64]; omega
      obtain ⟨p, hp⟩ : ∃ p, p = y - 1 := ⟨_, rfl⟩
      rw [← hp] at hpd hpw
      have y0 : ¬ (y : Int) = 0 := by omega
      have y1 : ((y : Int) == 0) = false := beq_eq_false_iff_ne.2 y0
      have k1 : (k : Int) < (c : Int) := by omega
      have k0 : (0 : Int) ≤ k := by omega
      have hw1 : IntKind.i64.wrap ((k : Int) + 1) = k + 1 := by rw [IntKind.wrap_i64]; omega
      obtain ⟨s, hs⟩ : ∃ s, s = S k := ⟨_, rfl⟩
      obtain ⟨s', hs'⟩ : ∃ s, s = S (k + 1) := ⟨_, rfl⟩
      have HS0 := Lib.hid hs'
      rw [← hs'] at HSS hor
      rw [← hs] at hor ⊢
      cases k with
      | zero =>
        have kz : ((0 : Nat) : Int) = 0 := rfl
        clear hy e12 h1 hnm hp hs hs' f1 f2 f3 hsl hkl
        go_wp2_with (go_at_call 23; ((with_reducible refine (HP.out _ (HON.out _ _ G1.out PB.out)).mono ?_); rintro e v2 ⟨rfl, b2⟩; have B2 := Lib.hid (thnN PB.out b2); clear b2))
        go_roundw
        case rel => exact ⟨1, by omega, by go_num, congrArg (fun t : Nat => Value.int .u64 (t : Int)) HS0.out, B2⟩
        case measure => simp [intOf]; omega
      | succ m =>
        have hml : L[m]? = some (L[m]'(by rw [← HCL.out]; omega)) := List.getElem?_eq_getElem _
        obtain ⟨z, hz⟩ : ∃ y, y = L[m]'(by rw [← HCL.out]; omega) := ⟨_, rfl⟩
        have hzy : z < y := by rw [hz, hy]; exact List.pairwise_iff_getElem.1 HUP.out m (m + 1) _ _ (by omega)
        rw [← hz] at hml
        have c2 := (o.cellAt m (by omega)).trans (u64N_get hml)
        have hm1 : IntKind.i64.wrap ((m : Int) + 1 - 1) = m := by rw [IntKind.wrap_i64]; omega
        have hm0 : (0 : Int) < (m : Int) + 1 := by omega
        have hm2 : (0 : Int) ≤ (m : Int) := by omega
        have hm3 : (m : Int) < (c : Int) := by omega
        have hmj : ((m + 1 : Nat) : Int) = (m : Int) + 1 := by omega
        have hm4 : (0 : Int) ≤ (m : Int) + 1 := by omega
        have hm5 : (m : Int) + 1 < (c : Int) := by omega
        have hm6 : ((m : Int) + 1).toNat = m + 1 := by omega
        have hm7 : IntKind.i64.wrap (m : Int) = m := by rw [IntKind.wrap_i64]; omega
        have z1 : ¬ (y : Int) ≤ (z : Int) := by omega
        have z2 : (z : Int) < (y : Int) := by omega
        rw [hmj] at hw1 k0 k1
        clear hy e12 h1 hnm hp hs hs' f1 f2 f3 hsl hkl hml hz hzy
        go_wp2_with (go_at_call 23; ((with_reducible refine (HP.out _ (HON.out _ _ G1.out PB.out)).mono ?_); rintro e v2 ⟨rfl, b2⟩; have B2 := Lib.hid (thnN PB.out b2); clear b2))
        go_roundw
        case rel => exact ⟨m + 1 + 1, by omega, by go_num, congrArg (fun t : Nat => Value.int .u64 (t : Int)) HS0.out, B2⟩
        case measure => simp [intOf]; omega
    · obtain rfl : k = c := by omega
      have k1 : ¬ (k : Int) < (k : Int) := by omega
      have G2 := Lib.hid (HON.out _ _ G1.out PB.out)
      have tt : ((T : Int) == (T : Int)) = true := by simp
      rw [HFIN.out]
      go_wp2_with (first
        | (go_at_call 17; ((with_reducible refine (HS.out _ G2.out).mono ?_); rintro e v3 ⟨rfl, b3⟩); have G3 := HON.out _ _ G2.out b3)
        | (go_at_call 17; ((with_reducible refine (HS.out _ G3).mono ?_); rintro e v4 ⟨rfl, b4⟩); have G4 := HON.out _ _ G3 b4; have B4 := thnN b3 b4)
        | (go_at_call 15; ((with_reducible refine (HQ.out _ G4).mono ?_); rintro e v5 ⟨q5, c5, rfl, o5, b5⟩); have G5 := HON.out _ _ G4 b5; have B5 := thnN B4 b5; clear o5)
        | (go_at_call 14; ((with_reducible refine (HA.out _ G5).mono ?_); rintro e v6 ⟨rfl, b6⟩); have B6 := thnN B5 b6))
      go_ret
      exact ⟨by first | rfl | simp, thnN B1.out (thnN PB.out B6)⟩

set_option maxRecDepth 100000 in
theorem lifted (HC : NamesC GN) (os : Os) (started : os.Started) (H : Type) (enc : TypeId × Value → H) :
    ReturnsInHanded {} Tryd.checked os 6 .any (fun w args => (Rows.namesFlagsSpec.pre enc Tryd.prog Tryd.f6 [] false w args ∧ laidMetH Tryd.prog listed10 w) ∧ sizedMet enc Tryd.prog Tryd.f6 (OpenSpec.ofChange Rows.namesFlagsSpec) false w args)
      (Rows.namesFlagsSpec.post enc Tryd.prog Tryd.f6 false true false false) := by
  refine returnsInHanded_of_change_and (C := Tryd.checked) (X := fun w _ => laidMetH Tryd.prog listed10 w) (fun _ _ _ hh h => h.of_heap hh) ownKnob_none started (by kernel_rfl) Tryd.func6
    (ChangeSpec.witness_shaped (enc := enc) (C := Tryd.checked) (os := os) (X := fun w _ => laidMetH Tryd.prog listed10 w) false (World.doorLaid Tryd.prog 4000 os) #[.int .u64 0] 8 rfl (World.shaped_of_RefB (by kernel_rfl) (by kernel_rfl)) (by kernel_rfl) (by kernel_rfl) (by kernel_rfl) (door_met10 os _)) ?_
  intro W base args ds gs before hval0 hW _ _ hL _
  have hG : GN W := of_laid10 hL
  have hval : ∀ (j : Nat) t v, Tryd.f6.params[j]? = some t → args[j]? = some v → Value.okWide Tryd.prog W .any base t v := hval0
  have hW' := hW
  obtain ⟨p, q, hA0, hV, rfl, hfz, hnd⟩ := hW
  have hA : DataW.TrodAll enc Tryd.prog W 0 (fun _ => true) true Tryd.f6.params.toList args.toList ds p := hA0
  rw [Tryd.params6] at hA hval
  obtain ⟨v0, vs0, d0, ds0, p0, q0, hargs, rfl, rfl, h0, r0⟩ := trodAll_cons hA
  obtain ⟨rfl, rfl, rfl⟩ := trodAll_nil r0
  obtain rfl : args = #[v0] := by cases args; simp_all
  obtain ⟨rfl, rfl⟩ := trodVars_none hV
  obtain ⟨a0, rfl, rfl, rfl, w0⟩ := open_int Tryd.underlying26 (hval 0 26 v0 rfl rfl) h0
  clear hA0 hval0
  simp only [List.append_nil] at hW'
  refine (walk HC a0 W hG w0).mono fun e W' ⟨he, bel⟩ => ?_
  subst he
  exact ⟨_, rfl, _, _, _, [], [], [], hW', trodAll_mk1 (shut_bool Tryd.underlying4 _), (trodAll_cons_mk (shut_int Tryd.underlying26 w0) trodAll_mk0), rfl, bel.frame _, fun h => by cases h⟩

theorem over (HC : NamesC GN) : Rows.namesFlagsRow.holds Tryd.pinned (OpenSpec.ofChange Rows.namesFlagsSpec) :=
  OpenClaim.holds_of_wide 6 Tryd.f6 rfl rfl rfl rfl rfl rfl rfl ⟨rfl, rfl, rfl, rfl, rfl⟩ rfl rfl rfl rfl rfl (by kernel_rfl) Tryd.func6 (by kernel_rfl)
    (of_decide_eq_true (by kernel_rfl)) (by unfold Func.isWrapper; first | (rw [if_pos (by decide +kernel)]; kernel_rfl) | (rw [if_neg (by decide +kernel)]; exact ⟨rfl, rfl⟩))
    (fun os started H enc _ => lifted HC os started H enc)

/-- The row's statement. -/
theorem row_holds : Rows.NamesFlagsSaid := over namesC
/-- The statement: the row, its table tied to the program's text. -/
theorem proved : Rows.NamesFlagsCardSaid :=
  Claim7.holds_tied_plain_at .later [] [.data, .data, .data, .sentinel, .sentinel, .data, .data, .data] true Rows.namesFlagsCard.stood.harness Rows.namesFlagsCard.stood.looks
    row_holds (fun _ h => by cases h) (by kernel_rfl) (fun _ h => by cases h) namesFlags_row_tie rfl ⟨rfl, rfl⟩ (by kernel_rfl) rfl
    (fun f fn hf hfn => by
      obtain rfl : f = 6 := Option.some.inj ((show Tryd.prog.funcNamed "vestibule/vestibulelaw10.NamesFlags" = some 6 by kernel_rfl).symm.trans hf) |>.symm
      obtain rfl : fn = Tryd.f6 := (Option.some.inj (Tryd.func6.symm.trans hfn)).symm
      exact ⟨by kernel_rfl, fun j t ht => by
        have hm : t ∈ Tryd.f6.params.toList := by simpa using Array.mem_of_getElem? ht
        have hall : (Tryd.f6.params.toList.all fun u => !Tryd.prog.wantsStandIn u) = true := by kernel_rfl
        exact (show Tryd.prog.wantsStandIn t = false by simpa using List.all_eq_true.1 hall t hm)⟩)
    (by kernel_rfl)
#print axioms proved
end Go.Proofs.YtnjbmccimdlcmaaDoor.namesFlags
