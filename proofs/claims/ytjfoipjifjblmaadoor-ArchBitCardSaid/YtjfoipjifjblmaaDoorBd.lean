/- The statement ArchBit holds, over what the calls have to return: the bit tells x32 from x86-64, and nothing else of any other token. -/
import Derived.Test.YtjfoipjifjblmaaDoorRows
import Derived.Test.YtjfoipjifjblmaaDoorCards
import Derived.Test.YtjfoipjifjblmaaDoorTie
import Derived.SevenTiedAt
import Derived.Test.YtjfoipjifjblmaaDoorWd
import Derived.Test.YtjfoipjifjblmaaDoorLy
import Derived.Test.YtjfoipjifjblmaaDoorBj
import Derived.Test.YtjfoipjifjblmaaDoorBc
import Derived.Laws.BitsAllLaws
namespace Go.Proofs.YtjfoipjifjblmaaDoor.archBit
open Go.ChangeShapes Go.WideShapes Go.ChangeAt Go.RowKit
open Go.ChangeMaps (open_string shut_string)
set_option linter.unusedVariables false
attribute [local go_sem ↓] Go.wp_at_zero Go.wp_at_succ
theorem bit_or (n : Nat) : (n ||| 1073741824) / 1073741824 % 2 = 1 := by
  have h : (n ||| 1073741824).testBit 30 = true := by rw [Nat.testBit_or]; simp [show Nat.testBit 1073741824 30 = true from by decide]
  rw [Nat.testBit_eq_decide_div_mod_eq] at h
  exact of_decide_eq_true h
theorem bit_not (n : Nat) : (n &&& 3221225471) / 1073741824 % 2 = 0 := by
  have h : (n &&& 3221225471).testBit 30 = false := by rw [Nat.testBit_and, show Nat.testBit 3221225471 30 = false from by decide, Bool.and_false]
  rw [Nat.testBit_eq_decide_div_mod_eq] at h
  have := of_decide_eq_false h
  omega
theorem or_lt (n : Nat) (h : n < 4294967296) : n ||| 1073741824 < 4294967296 := Nat.or_lt_two_pow (n := 32) h (by decide)
theorem and_lt (n : Nat) (h : n < 4294967296) : n &&& 3221225471 < 4294967296 := Nat.lt_of_le_of_lt Nat.and_le_left h
theorem findT_some {t : Int} {k : Nat} (h : findT t = some k) (ht : t ≠ 3221225534) : k = 1 ∨ k = 3 ∨ k = 4 ∨ k = 5 := by
  unfold findT at h
  rw [List.findIdx?_eq_some_iff_getElem] at h
  obtain ⟨hk, h1, _⟩ := h
  have hl : archT.length = 6 := rfl
  have h2 : archT[k] = t := of_decide_eq_true h1
  match k, hk, h2 with
  | 0, _, h2 => exact absurd h2.symm ht
  | 1, _, _ => simp
  | 2, _, h2 => exact absurd h2.symm ht
  | 3, _, _ => simp
  | 4, _, _ => simp
  | 5, _, _ => simp
  | k + 6, hk, _ => omega
theorem ofR_some {t : Int} {k : Nat} (h0 : t ≠ 3221225534) (h : findT t = some k) (nr : Int) : ofR t nr = (((k : Nat) : Int), true) := by unfold ofR; rw [if_neg h0, h]
theorem ofR_none {t : Int} (h0 : t ≠ 3221225534) (h : findT t = none) (nr : Int) : ofR t nr = (0, false) := by unfold ofR; rw [if_neg h0, h]
theorem core_t0 {G : World → Prop} (HON : ∀ (w w' : World), G w → Below w.heap.size w w' → G w') (t n y z : Int) (w : World) (hG : G w) (hy : bits .or .u32 n 1073741824 = y) (hz : bits .andNot .u32 n 1073741824 = z)
    (HY : ∀ W, G W → Calls Tryd.prog 16 #[.int .u32 t, .int .u32 y] W fun e w' => e = .returned (.tuple #[.int .i64 2, .bool true]) ∧ Below W.heap.size W w')
    (HZ : ∀ W, G W → Calls Tryd.prog 16 #[.int .u32 t, .int .u32 z] W fun e w' => e = .returned (.tuple #[.int .i64 0, .bool true]) ∧ Below W.heap.size W w')
    (HA : ∀ W, G W → Calls Tryd.prog 12 #[] W fun e w' => e = .returned (.bool true) ∧ Below W.heap.size W w') :
    Calls Tryd.prog 6 #[.int .u32 t, .int .u32 n] w fun e w' => e = .returned (.bool true) ∧ Below w.heap.size w w' := by
  have HON := Lib.hid HON
  have HG := Lib.hid hG
  have HY := Lib.hid HY
  have HZ := Lib.hid HZ
  have HA := Lib.hid HA
  clear hG
  go_enter Tryd.func6, Tryd.ntmps6
  go_wp2_with (first
    | (go_at_call 16; ((with_reducible refine (HY.out _ HG.out).mono ?_); rintro e v1 ⟨rfl, b1⟩); have G1 := HON.out _ _ HG.out b1)
    | (go_at_call 16; ((with_reducible refine (HZ.out _ G1).mono ?_); rintro e v2 ⟨rfl, b2⟩); have G2 := HON.out _ _ G1 b2; have B2 := thn b1 b2)
    | (go_at_call 12; ((with_reducible refine (HA.out _ G2).mono ?_); rintro e v3 ⟨rfl, b3⟩); have B3 := thn B2 b3))
  go_ret
  exact ⟨rfl, B3⟩
theorem core_k1 {G : World → Prop} (HON : ∀ (w w' : World), G w → Below w.heap.size w w' → G w') (t n y z : Int) (w : World) (hG : G w) (hy : bits .or .u32 n 1073741824 = y) (hz : bits .andNot .u32 n 1073741824 = z)
    (HY : ∀ W, G W → Calls Tryd.prog 16 #[.int .u32 t, .int .u32 y] W fun e w' => e = .returned (.tuple #[.int .i64 1, .bool true]) ∧ Below W.heap.size W w')
    (HZ : ∀ W, G W → Calls Tryd.prog 16 #[.int .u32 t, .int .u32 z] W fun e w' => e = .returned (.tuple #[.int .i64 1, .bool true]) ∧ Below W.heap.size W w')
    (HA : ∀ W, G W → Calls Tryd.prog 12 #[] W fun e w' => e = .returned (.bool true) ∧ Below W.heap.size W w') :
    Calls Tryd.prog 6 #[.int .u32 t, .int .u32 n] w fun e w' => e = .returned (.bool true) ∧ Below w.heap.size w w' := by
  have HON := Lib.hid HON
  have HG := Lib.hid hG
  have HY := Lib.hid HY
  have HZ := Lib.hid HZ
  have HA := Lib.hid HA
  clear hG
  go_enter Tryd.func6, Tryd.ntmps6
  go_wp2_with (first
    | (go_at_call 16; ((with_reducible refine (HY.out _ HG.out).mono ?_); rintro e v1 ⟨rfl, b1⟩); have G1 := HON.out _ _ HG.out b1)
    | (go_at_call 16; ((with_reducible refine (HZ.out _ G1).mono ?_); rintro e v2 ⟨rfl, b2⟩); have G2 := HON.out _ _ G1 b2; have B2 := thn b1 b2)
    | (go_at_call 12; ((with_reducible refine (HA.out _ G2).mono ?_); rintro e v3 ⟨rfl, b3⟩); have B3 := thn B2 b3))
  go_ret
  exact ⟨rfl, B3⟩
theorem core_k3 {G : World → Prop} (HON : ∀ (w w' : World), G w → Below w.heap.size w w' → G w') (t n y z : Int) (w : World) (hG : G w) (hy : bits .or .u32 n 1073741824 = y) (hz : bits .andNot .u32 n 1073741824 = z)
    (HY : ∀ W, G W → Calls Tryd.prog 16 #[.int .u32 t, .int .u32 y] W fun e w' => e = .returned (.tuple #[.int .i64 3, .bool true]) ∧ Below W.heap.size W w')
    (HZ : ∀ W, G W → Calls Tryd.prog 16 #[.int .u32 t, .int .u32 z] W fun e w' => e = .returned (.tuple #[.int .i64 3, .bool true]) ∧ Below W.heap.size W w')
    (HA : ∀ W, G W → Calls Tryd.prog 12 #[] W fun e w' => e = .returned (.bool true) ∧ Below W.heap.size W w') :
    Calls Tryd.prog 6 #[.int .u32 t, .int .u32 n] w fun e w' => e = .returned (.bool true) ∧ Below w.heap.size w w' := by
  have HON := Lib.hid HON
  have HG := Lib.hid hG
  have HY := Lib.hid HY
  have HZ := Lib.hid HZ
  have HA := Lib.hid HA
  clear hG
  go_enter Tryd.func6, Tryd.ntmps6
  go_wp2_with (first
    | (go_at_call 16; ((with_reducible refine (HY.out _ HG.out).mono ?_); rintro e v1 ⟨rfl, b1⟩); have G1 := HON.out _ _ HG.out b1)
    | (go_at_call 16; ((with_reducible refine (HZ.out _ G1).mono ?_); rintro e v2 ⟨rfl, b2⟩); have G2 := HON.out _ _ G1 b2; have B2 := thn b1 b2)
    | (go_at_call 12; ((with_reducible refine (HA.out _ G2).mono ?_); rintro e v3 ⟨rfl, b3⟩); have B3 := thn B2 b3))
  go_ret
  exact ⟨rfl, B3⟩
theorem core_k4 {G : World → Prop} (HON : ∀ (w w' : World), G w → Below w.heap.size w w' → G w') (t n y z : Int) (w : World) (hG : G w) (hy : bits .or .u32 n 1073741824 = y) (hz : bits .andNot .u32 n 1073741824 = z)
    (HY : ∀ W, G W → Calls Tryd.prog 16 #[.int .u32 t, .int .u32 y] W fun e w' => e = .returned (.tuple #[.int .i64 4, .bool true]) ∧ Below W.heap.size W w')
    (HZ : ∀ W, G W → Calls Tryd.prog 16 #[.int .u32 t, .int .u32 z] W fun e w' => e = .returned (.tuple #[.int .i64 4, .bool true]) ∧ Below W.heap.size W w')
    (HA : ∀ W, G W → Calls Tryd.prog 12 #[] W fun e w' => e = .returned (.bool true) ∧ Below W.heap.size W w') :
    Calls Tryd.prog 6 #[.int .u32 t, .int .u32 n] w fun e w' => e = .returned (.bool true) ∧ Below w.heap.size w w' := by
  have HON := Lib.hid HON
  have HG := Lib.hid hG
  have HY := Lib.hid HY
  have HZ := Lib.hid HZ
  have HA := Lib.hid HA
  clear hG
  go_enter Tryd.func6, Tryd.ntmps6
  go_wp2_with (first
    | (go_at_call 16; ((with_reducible refine (HY.out _ HG.out).mono ?_); rintro e v1 ⟨rfl, b1⟩); have G1 := HON.out _ _ HG.out b1)
    | (go_at_call 16; ((with_reducible refine (HZ.out _ G1).mono ?_); rintro e v2 ⟨rfl, b2⟩); have G2 := HON.out _ _ G1 b2; have B2 := thn b1 b2)
    | (go_at_call 12; ((with_reducible refine (HA.out _ G2).mono ?_); rintro e v3 ⟨rfl, b3⟩); have B3 := thn B2 b3))
  go_ret
  exact ⟨rfl, B3⟩
theorem core_k5 {G : World → Prop} (HON : ∀ (w w' : World), G w → Below w.heap.size w w' → G w') (t n y z : Int) (w : World) (hG : G w) (hy : bits .or .u32 n 1073741824 = y) (hz : bits .andNot .u32 n 1073741824 = z)
    (HY : ∀ W, G W → Calls Tryd.prog 16 #[.int .u32 t, .int .u32 y] W fun e w' => e = .returned (.tuple #[.int .i64 5, .bool true]) ∧ Below W.heap.size W w')
    (HZ : ∀ W, G W → Calls Tryd.prog 16 #[.int .u32 t, .int .u32 z] W fun e w' => e = .returned (.tuple #[.int .i64 5, .bool true]) ∧ Below W.heap.size W w')
    (HA : ∀ W, G W → Calls Tryd.prog 12 #[] W fun e w' => e = .returned (.bool true) ∧ Below W.heap.size W w') :
    Calls Tryd.prog 6 #[.int .u32 t, .int .u32 n] w fun e w' => e = .returned (.bool true) ∧ Below w.heap.size w w' := by
  have HON := Lib.hid HON
  have HG := Lib.hid hG
  have HY := Lib.hid HY
  have HZ := Lib.hid HZ
  have HA := Lib.hid HA
  clear hG
  go_enter Tryd.func6, Tryd.ntmps6
  go_wp2_with (first
    | (go_at_call 16; ((with_reducible refine (HY.out _ HG.out).mono ?_); rintro e v1 ⟨rfl, b1⟩); have G1 := HON.out _ _ HG.out b1)
    | (go_at_call 16; ((with_reducible refine (HZ.out _ G1).mono ?_); rintro e v2 ⟨rfl, b2⟩); have G2 := HON.out _ _ G1 b2; have B2 := thn b1 b2)
    | (go_at_call 12; ((with_reducible refine (HA.out _ G2).mono ?_); rintro e v3 ⟨rfl, b3⟩); have B3 := thn B2 b3))
  go_ret
  exact ⟨rfl, B3⟩
theorem core_no {G : World → Prop} (HON : ∀ (w w' : World), G w → Below w.heap.size w w' → G w') (t n y z : Int) (w : World) (hG : G w) (hy : bits .or .u32 n 1073741824 = y) (hz : bits .andNot .u32 n 1073741824 = z)
    (HY : ∀ W, G W → Calls Tryd.prog 16 #[.int .u32 t, .int .u32 y] W fun e w' => e = .returned (.tuple #[.int .i64 0, .bool false]) ∧ Below W.heap.size W w')
    (HZ : ∀ W, G W → Calls Tryd.prog 16 #[.int .u32 t, .int .u32 z] W fun e w' => e = .returned (.tuple #[.int .i64 0, .bool false]) ∧ Below W.heap.size W w')
    (HA : ∀ W, G W → Calls Tryd.prog 12 #[] W fun e w' => e = .returned (.bool true) ∧ Below W.heap.size W w') :
    Calls Tryd.prog 6 #[.int .u32 t, .int .u32 n] w fun e w' => e = .returned (.bool true) ∧ Below w.heap.size w w' := by
  have HON := Lib.hid HON
  have HG := Lib.hid hG
  have HY := Lib.hid HY
  have HZ := Lib.hid HZ
  have HA := Lib.hid HA
  clear hG
  go_enter Tryd.func6, Tryd.ntmps6
  go_wp2_with (first
    | (go_at_call 16; ((with_reducible refine (HY.out _ HG.out).mono ?_); rintro e v1 ⟨rfl, b1⟩); have G1 := HON.out _ _ HG.out b1)
    | (go_at_call 16; ((with_reducible refine (HZ.out _ G1).mono ?_); rintro e v2 ⟨rfl, b2⟩); have G2 := HON.out _ _ G1 b2; have B2 := thn b1 b2)
    | (go_at_call 12; ((with_reducible refine (HA.out _ G2).mono ?_); rintro e v3 ⟨rfl, b3⟩); have B3 := thn B2 b3))
  go_ret
  exact ⟨rfl, B3⟩
theorem walk {G : World → Prop} (HC : ArchC G) (a0 : Int) (a1 : Int) (w : World) (hG : G w) (w0 : (Lit.int .u32 a0).wf = true) (w1 : (Lit.int .u32 a1).wf = true) :
    Calls Tryd.prog 6 #[.int .u32 a0, .int .u32 a1] w fun e w' => e = .returned (.bool true) ∧ Below w.heap.size w w' := by
  obtain ⟨t0, t1⟩ := bounds_u32 w0
  obtain ⟨n0, n1⟩ := bounds_u32 w1
  obtain ⟨n, rfl⟩ := Int.eq_ofNat_of_zero_le n0
  have nn : n < 4294967296 := by omega
  have hy : bits .or .u32 (n : Int) 1073741824 = ((n ||| 1073741824 : Nat) : Int) := u32_or_nat n 1073741824 nn (by decide)
  have hz : bits .andNot .u32 (n : Int) 1073741824 = ((n &&& 3221225471 : Nat) : Int) := u32_andNot_nat n 1073741824 nn (by decide)
  have ly := or_lt n nn
  have lz := and_lt n nn
  have by_ := bit_or n
  have bz := bit_not n
  have HY := fun (W : World) (g : G W) => HC.of_ a0 ((n ||| 1073741824 : Nat) : Int) W g (by omega) (by omega) (by omega) (by omega)
  have HZ := fun (W : World) (g : G W) => HC.of_ a0 ((n &&& 3221225471 : Nat) : Int) W g (by omega) (by omega) (by omega) (by omega)
  have HA := fun (W : World) (g : G W) => awake8_any HC W g
  have HON := fun (w w' : World) => HC.on (w := w) (w' := w')
  by_cases h0 : a0 = 3221225534
  · rw [show ofR a0 ((n ||| 1073741824 : Nat) : Int) = (2, true) from by unfold ofR; rw [if_pos h0, if_pos (by omega)]] at HY
    rw [show ofR a0 ((n &&& 3221225471 : Nat) : Int) = (0, true) from by unfold ofR; rw [if_pos h0, if_neg (by omega)]] at HZ
    exact core_t0 HON a0 n _ _ w hG hy hz HY HZ HA
  · cases hk : findT a0 with
    | none =>
      rw [ofR_none h0 hk] at HY HZ
      exact core_no HON a0 n _ _ w hG hy hz HY HZ HA
    | some k =>
      rw [ofR_some h0 hk] at HY HZ
      rcases findT_some hk h0 with rfl | rfl | rfl | rfl
      · exact core_k1 HON a0 n _ _ w hG hy hz HY HZ HA
      · exact core_k3 HON a0 n _ _ w hG hy hz HY HZ HA
      · exact core_k4 HON a0 n _ _ w hG hy hz HY HZ HA
      · exact core_k5 HON a0 n _ _ w hG hy hz HY HZ HA

set_option maxRecDepth 100000 in
theorem lifted (HC : ArchC GA8) (os : Os) (started : os.Started) (H : Type) (enc : TypeId × Value → H) :
    ReturnsInHanded {} Tryd.checked os 6 .any (fun w args => (Rows.archBitSpec.pre enc Tryd.prog Tryd.f6 [] false w args ∧ laidMetH Tryd.prog listed8 w) ∧ sizedMet enc Tryd.prog Tryd.f6 (OpenSpec.ofChange Rows.archBitSpec) false w args)
      (Rows.archBitSpec.post enc Tryd.prog Tryd.f6 false true false false) := by
  refine returnsInHanded_of_change_and (C := Tryd.checked) (X := fun w _ => laidMetH Tryd.prog listed8 w) (fun _ _ _ hh h => h.of_heap hh) ownKnob_none started (by kernel_rfl) Tryd.func6
    (ChangeSpec.witness_shaped (enc := enc) (C := Tryd.checked) (os := os) (X := fun w _ => laidMetH Tryd.prog listed8 w) false (World.doorLaid Tryd.prog 4000 os) #[.int .u32 0, .int .u32 0] 8 rfl (World.shaped_of_RefB (by kernel_rfl) (by kernel_rfl)) (by kernel_rfl) (by kernel_rfl) (by kernel_rfl) (door_met8 os _)) ?_
  intro W base args ds gs before hval0 hW _ _ hL _
  have hG : GA8 W := of_laid8 hL
  have hval : ∀ (j : Nat) t v, Tryd.f6.params[j]? = some t → args[j]? = some v → Value.okWide Tryd.prog W .any base t v := hval0
  have hW' := hW
  obtain ⟨p, q, hA0, hV, rfl, hfz, hnd⟩ := hW
  have hA : DataW.TrodAll enc Tryd.prog W 0 (fun _ => true) true Tryd.f6.params.toList args.toList ds p := hA0
  rw [Tryd.params6] at hA hval
  obtain ⟨v0, vs0, d0, ds0, p0, q0, hargs, rfl, rfl, h0, r0⟩ := trodAll_cons hA
  obtain ⟨v1, vs1, d1, ds1, p1, q1, rfl, rfl, rfl, h1, r1⟩ := trodAll_cons r0
  obtain ⟨rfl, rfl, rfl⟩ := trodAll_nil r1
  obtain rfl : args = #[v0, v1] := by cases args; simp_all
  obtain ⟨rfl, rfl⟩ := trodVars_none hV
  obtain ⟨a0, rfl, rfl, rfl, w0⟩ := open_int Tryd.underlying32 (hval 0 32 v0 rfl rfl) h0
  obtain ⟨a1, rfl, rfl, rfl, w1⟩ := open_int Tryd.underlying32 (hval 1 32 v1 rfl rfl) h1
  clear hA0 hval0
  simp only [List.append_nil] at hW'
  refine (walk HC a0 a1 W hG w0 w1).mono fun e W' ⟨he, bel⟩ => ?_
  subst he
  exact ⟨_, rfl, _, _, _, [], [], [], hW', trodAll_mk1 (shut_bool Tryd.underlying4 _), (trodAll_cons_mk (shut_int Tryd.underlying32 w0) (trodAll_cons_mk (shut_int Tryd.underlying32 w1) trodAll_mk0)), rfl, bel.frame _, fun h => by cases h⟩

theorem over (HC : ArchC GA8) : Rows.archBitRow.holds Tryd.pinned (OpenSpec.ofChange Rows.archBitSpec) :=
  OpenClaim.holds_of_wide 6 Tryd.f6 rfl rfl rfl rfl rfl rfl rfl ⟨rfl, rfl, rfl, rfl, rfl⟩ rfl rfl rfl rfl rfl (by kernel_rfl) Tryd.func6 (by kernel_rfl)
    (of_decide_eq_true (by kernel_rfl)) (by unfold Func.isWrapper; first | (rw [if_pos (by decide +kernel)]; kernel_rfl) | (rw [if_neg (by decide +kernel)]; exact ⟨rfl, rfl⟩))
    (fun os started H enc _ => lifted HC os started H enc)

/-- The row's statement. -/
theorem row_holds : Rows.ArchBitSaid := over archC
/-- The statement: the row, its table tied to the program's text. -/
theorem proved : Rows.ArchBitCardSaid :=
  Claim7.holds_tied_plain_at .later [] [.data] true Rows.archBitCard.stood.harness Rows.archBitCard.stood.looks
    row_holds (fun _ h => by cases h) (by kernel_rfl) (fun _ h => by cases h) archBit_row_tie rfl ⟨rfl, rfl⟩ (by kernel_rfl) rfl
    (fun f fn hf hfn => by
      obtain rfl : f = 6 := Option.some.inj ((show Tryd.prog.funcNamed "vestibule/vestibulelaw08.ArchBit" = some 6 by kernel_rfl).symm.trans hf) |>.symm
      obtain rfl : fn = Tryd.f6 := (Option.some.inj (Tryd.func6.symm.trans hfn)).symm
      exact ⟨by kernel_rfl, fun j t ht => by
        have hm : t ∈ Tryd.f6.params.toList := by simpa using Array.mem_of_getElem? ht
        have hall : (Tryd.f6.params.toList.all fun u => !Tryd.prog.wantsStandIn u) = true := by kernel_rfl
        exact (show Tryd.prog.wantsStandIn t = false by simpa using List.all_eq_true.1 hall t hm)⟩)
    (by kernel_rfl)
#print axioms proved
end Go.Proofs.YtjfoipjifjblmaaDoor.archBit
