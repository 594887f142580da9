/- The statement NamesBack holds, over what the calls have to return: a number's name is that number's. -/
import Derived.Test.YtnjbmccimdlcmaaDoorRows
import Derived.Test.YtnjbmccimdlcmaaDoorCards
import Derived.Test.YtnjbmccimdlcmaaDoorTie
import Derived.SevenTiedAt
import Derived.Test.YtnjbmccimdlcmaaDoorFr
import Derived.Test.YtnjbmccimdlcmaaDoorJr
import Derived.Test.YtnjbmccimdlcmaaDoorJq
import Derived.Test.YtnjbmccimdlcmaaDoorJe
namespace Go.Proofs.YtnjbmccimdlcmaaDoor.namesBack
open Go.ChangeShapes Go.WideShapes Go.ChangeAt Go.RowKit
open Go.ChangeMaps (open_string shut_string)
set_option linter.unusedVariables false
attribute [local go_sem ↓] Go.wp_at_zero Go.wp_at_succ
set_option linter.unusedSimpArgs false
set_option linter.unusedVariables false
theorem thnN {u v w : World} (h : Below u.heap.size u v) (k : Below v.heap.size v w) : Below u.heap.size u w := h.trans (k.mono h.size)
theorem named {l : List En10} {n : Nat} {t : ByteArray} (h : nameR l n = some t) : ∃ e ∈ l, e.2 = n ∧ e.1 = t := by
  induction l with
  | nil => cases h
  | cons e r ih =>
    unfold nameR at h
    split at h
    · rename_i hh; injection h with h; exact ⟨e, List.mem_cons_self .., hh, h⟩
    · obtain ⟨x, hx, p⟩ := ih h; exact ⟨x, List.mem_cons_of_mem _ hx, p⟩
theorem found {l : List En10} {n : Nat} {s : ByteArray} (h : findR l s = some n) : ∃ e ∈ l, e.2 = n ∧ e.1 = s := by
  induction l with
  | nil => cases h
  | cons e r ih =>
    unfold findR at h
    split at h
    · rename_i hh; injection h with h; exact ⟨e, List.mem_cons_self .., h, hh⟩
    · obtain ⟨x, hx, p⟩ := ih h; exact ⟨x, List.mem_cons_of_mem _ hx, p⟩
def okT (l : List En10) (B : Nat) : Bool := l.all fun e => decide (findR l e.1 = some e.2) && decide (nameR l e.2 = some e.1) && decide (e.1.size ≤ 20) && decide (0 < e.1.size) && decide (e.2 < B)
theorem okT_at {l : List En10} {B : Nat} (h : okT l B = true) {e : En10} (he : e ∈ l) : findR l e.1 = some e.2 ∧ nameR l e.2 = some e.1 ∧ e.1.size ≤ 20 ∧ 0 < e.1.size ∧ e.2 < B := by
  have := List.all_eq_true.1 h e he
  simp only [Bool.and_eq_true, decide_eq_true_eq] at this
  exact ⟨this.1.1.1.1, this.1.1.1.2, this.1.1.2, this.1.2, this.2⟩
theorem full {t : ByteArray} (h : 0 < t.size) : t.toList.isEmpty = false := by
  cases hc : t.toList.isEmpty with
  | false => rfl
  | true =>
    rw [List.isEmpty_iff, ByteArray.toList_eq] at hc
    have := congrArg List.length hc
    rw [Array.length_toList, List.length_nil] at this
    exact absurd this (by show ¬ t.size = 0; omega)
/-- A number's name is that of the number, or there is none. -/
theorem name_back {l : List En10} {B : Nat} (h : okT l B = true) (n : Nat) : ∃ t x e, nmS (nameR l n) = t ∧ (findR l t).getD 0 = x ∧ (findR l t).isSome = e ∧ t.size ≤ 20 ∧ (t.toList.isEmpty = false ∧ x = n ∧ e = true ∨ t = ⟨#[]⟩) := by
  refine ⟨_, _, _, rfl, rfl, rfl, ?_⟩
  cases hn : nameR l n with
  | none => exact ⟨by show (0 : Nat) ≤ 20; omega, Or.inr rfl⟩
  | some t =>
    obtain ⟨e, he, rfl, rfl⟩ := named hn
    obtain ⟨q1, q2, q3, q4, q5⟩ := okT_at h he
    refine ⟨q3, Or.inl ⟨full q4, ?_, ?_⟩⟩
    · show (findR l e.1).getD 0 = _; rw [q1]; rfl
    · show (findR l e.1).isSome = _; rw [q1]; rfl
/-- A name that is known is that of its number. -/
theorem find_back {l : List En10} {B : Nat} (h : okT l B = true) (hB : 0 < B) (s : ByteArray) : ∃ x e, (findR l s).getD 0 = x ∧ (findR l s).isSome = e ∧ x < B ∧ (e = true ∧ nmS (nameR l x) = s ∨ e = false) := by
  refine ⟨_, _, rfl, rfl, ?_⟩
  cases hn : findR l s with
  | none => exact ⟨hB, Or.inr rfl⟩
  | some x =>
    obtain ⟨e, he, rfl, rfl⟩ := found hn
    obtain ⟨q1, q2, q3, q4, q5⟩ := okT_at h he
    exact ⟨q5, Or.inl ⟨rfl, by show nmS (nameR l e.2) = _; rw [q2]; rfl⟩⟩
theorem okF : okT famT 4294967296 = true := by kernel_rfl
theorem okS : okT spcT 18446744073709551616 = true := by kernel_rfl
def okE (n : Nat) : Bool := decide (errnoR (errnoNameR n) = some n) && decide ((errnoNameR n).size ≤ 20) && decide (0 < (errnoNameR n).size)
theorem okE_all : ((List.range 64).all fun i => (List.range 64).all fun j => okE (i * 64 + j)) = true := by kernel_rfl
theorem okE_at {n : Nat} (h : n < 4096) : errnoR (errnoNameR n) = some n ∧ (errnoNameR n).size ≤ 20 ∧ 0 < (errnoNameR n).size := by
  have a := List.all_eq_true.1 okE_all (n / 64) (List.mem_range.2 (by omega))
  have b := List.all_eq_true.1 a (n % 64) (List.mem_range.2 (by omega))
  rw [show n / 64 * 64 + n % 64 = n by omega] at b
  simp only [okE, Bool.and_eq_true, decide_eq_true_eq] at b
  exact ⟨b.1.1, b.1.2, b.2⟩
theorem nameE_le : (errnoT.all fun e => decide (e.2 < 4096)) = true := by kernel_rfl
theorem errno_back (n : Nat) : ∃ t x e, errnoNameR n = t ∧ (errnoR t).getD 0 = x ∧ (errnoR t).isSome = e ∧ t.size ≤ 20 ∧ (t.toList.isEmpty = false ∧ (n : Int) ≤ 4095 ∧ x = n ∧ e = true ∨ t = ⟨#[]⟩ ∧ ¬ (n : Int) ≤ 4095) := by
  refine ⟨_, _, _, rfl, rfl, rfl, ?_⟩
  by_cases h : n < 4096
  · obtain ⟨q1, q2, q3⟩ := okE_at h
    refine ⟨q2, Or.inl ⟨full q3, by omega, by rw [q1]; rfl, by rw [q1]; rfl⟩⟩
  · have : errnoNameR n = ⟨#[]⟩ := by
      unfold errnoNameR
      cases hn : nameR errnoT n with
      | none => show (if n < 4096 then _ else _) = _; rw [if_neg h]
      | some t =>
        obtain ⟨e, he, rfl, rfl⟩ := named hn
        exact absurd (of_decide_eq_true (List.all_eq_true.1 nameE_le e he)) h
    rw [this]
    exact ⟨by show (0 : Nat) ≤ 20; omega, Or.inr ⟨rfl, by omega⟩⟩
set_option maxRecDepth 100000 in
set_option maxHeartbeats 64000000 in
theorem walk {G : World → Prop} (HC : NamesC G) (a0 : Int) (a1 : Int) (a2 : ByteArray) (w : World) (hG : G w) (w0 : (Lit.int .u32 a0).wf = true) (w1 : (Lit.int .u64 a1).wf = true) (w2 : a2.size ≤ maxLen) :
    Calls Tryd.prog 5 #[.int .u32 a0, .int .u64 a1, .string a2] w fun e w' => e = .returned (.bool true) ∧ Below w.heap.size w w' := by
  obtain ⟨n0, n1⟩ := bounds_u32 w0
  obtain ⟨m0, m1⟩ := bounds_u64 w1
  obtain ⟨n, rfl⟩ := Int.eq_ofNat_of_zero_le n0
  obtain ⟨f, rfl⟩ := Int.eq_ofNat_of_zero_le m0
  have hn : n < 4294967296 := by omega
  have hf : f < 18446744073709551616 := by omega
  have HON := Lib.hid (fun (w w' : World) => HC.on (w := w) (w' := w'))
  have HG := Lib.hid hG
  have HA := Lib.hid (fun (W : World) (g : G W) => awake10_any HC W g)
  by_cases hlong : (200 : Int) < a2.size
  · clear HC hG w0 w1 w2 n0 n1 m0 m1
    go_enter Tryd.func5, Tryd.ntmps5
    go_wp2_with (go_at_call 14; ((with_reducible refine (HA.out _ HG.out).mono ?_); rintro e v1 ⟨rfl, b1⟩))
    go_ret
    exact ⟨by first | rfl | simp, b1⟩
  have hs : (a2.size : Int) ≤ 200 := by omega
  have hs9 : a2.size ≤ maxLen := w2
  have h20 : (20 : Nat) ≤ maxLen := by unfold maxLen; omega
  obtain ⟨t, x, xe, e1, e2, e3, e4, hE⟩ := errno_back n
  obtain ⟨u, y, ye, f1, f2, f3, f4, hF⟩ := name_back okF n
  obtain ⟨v, z, ze, g1, g2, g3, g4, hS⟩ := name_back okS f
  obtain ⟨a, ae, a1, a2', a3, hFs⟩ := find_back okF (by decide) a2
  obtain ⟨b, be, b1, b2, b3, hSs⟩ := find_back okS (by decide) a2
  have H1 := Lib.hid (fun (W : World) (g : G W) => HC.errnoName n W g hn)
  have H2 := Lib.hid (fun (W : World) (g : G W) => HC.errno t W g (by omega))
  have H3 := Lib.hid (fun (W : World) (g : G W) => HC.familyName n W g hn)
  have H4 := Lib.hid (fun (W : World) (g : G W) => HC.familyName a W g a3)
  have H5 := Lib.hid (fun (W : World) (g : G W) => HC.family u W g (by omega))
  have H6 := Lib.hid (fun (W : World) (g : G W) => HC.family a2 W g hs9)
  have H7 := Lib.hid (fun (W : World) (g : G W) => HC.spaceName f W g hf)
  have H8 := Lib.hid (fun (W : World) (g : G W) => HC.spaceName b W g b3)
  have H9 := Lib.hid (fun (W : World) (g : G W) => HC.space v W g (by omega))
  have H0 := Lib.hid (fun (W : World) (g : G W) => HC.space a2 W g hs9)
  simp only [errE] at H2 H5 H6 H9 H0
  rw [e1] at H1; rw [e2, e3] at H2
  rw [f1] at H3; rw [f2, f3] at H5
  rw [g1] at H7; rw [g2, g3] at H9
  rw [a1, a2'] at H6; rw [b1, b2] at H0
  obtain ⟨ua, hua⟩ : ∃ q, q = nmS (nameR famT a) := ⟨_, rfl⟩
  obtain ⟨ub, hub⟩ : ∃ q, q = nmS (nameR spcT b) := ⟨_, rfl⟩
  rw [← hua] at H4 hFs
  rw [← hub] at H8 hSs
  clear e1 e2 e3 e4 f1 f2 f3 f4 g1 g2 g3 g4 a1 a2' a3 b1 b2 b3 hua hub
  have tn : ((n : Int) != (n : Int)) = false := by simp
  have tf : ((f : Int) != (f : Int)) = false := by simp
  have ts : (a2.toList == a2.toList) = true := by simp
  clear HC hG w0 w1 w2 n0 n1 m0 m1 hlong hn hf hs9 h20
  rcases hE with ⟨i1, i2, rfl, rfl⟩ | ⟨rfl, i2⟩ <;> rcases hF with ⟨j1, rfl, rfl⟩ | rfl <;> rcases hS with ⟨k1, rfl, rfl⟩ | rfl <;> rcases hFs with ⟨rfl, rfl⟩ | rfl <;> rcases hSs with ⟨rfl, rfl⟩ | rfl
  all_goals (try generalize (if xe = true then (0 : Int) else 160) = qx at H2)
  all_goals (try generalize (if ye = true then (0 : Int) else 180) = qy at H5)
  all_goals (try generalize (if ze = true then (0 : Int) else 181) = qz at H9)
  all_goals
    try simp only [if_true, if_false, Bool.false_eq_true] at H2 H5 H6 H9 H0
    go_enter Tryd.func5, Tryd.ntmps5
    go_wp2_with (first
      | (go_at_call 19; ((with_reducible refine (H1.out _ HG.out).mono ?_); rintro e v1 ⟨rfl, b1⟩); have G1 := HON.out _ _ HG.out b1)
      | (go_at_call 7; ((with_reducible refine (H2.out _ G1).mono ?_); rintro e v2 ⟨rfl, b2⟩); have G2 := HON.out _ _ G1 b2; have B2 := thnN b1 b2)
      | (go_at_call 21; (first | ((with_reducible refine (H3.out _ G2).mono ?_); rintro e v3 ⟨rfl, b3⟩; have G3 := HON.out _ _ G2 b3; have B3 := thnN B2 b3) | ((with_reducible refine (H4.out _ G8).mono ?_); rintro e v9 ⟨rfl, b9⟩; have G9 := HON.out _ _ G8 b9; have B9 := thnN B8 b9)))
      | (go_at_call 8; (first | ((with_reducible refine (H5.out _ G3).mono ?_); rintro e v4 ⟨rfl, b4⟩; have G4 := HON.out _ _ G3 b4; have B4 := thnN B3 b4) | ((with_reducible refine (H6.out _ G6).mono ?_); rintro e v7 ⟨rfl, b7⟩; have G7 := HON.out _ _ G6 b7; have B7 := thnN B6 b7)))
      | (go_at_call 23; (first | ((with_reducible refine (H7.out _ G4).mono ?_); rintro e v5 ⟨rfl, b5⟩; have G5 := HON.out _ _ G4 b5; have B5 := thnN B4 b5) | ((with_reducible refine (H8.out _ G9).mono ?_); rintro e v10 ⟨rfl, b10⟩; have G10 := HON.out _ _ G9 b10; have B10 := thnN B9 b10) | ((with_reducible refine (H8.out _ G8).mono ?_); rintro e v10 ⟨rfl, b10⟩; have G10 := HON.out _ _ G8 b10; have B10 := thnN B8 b10)))
      | (go_at_call 9; (first | ((with_reducible refine (H9.out _ G5).mono ?_); rintro e v6 ⟨rfl, b6⟩; have G6 := HON.out _ _ G5 b6; have B6 := thnN B5 b6) | ((with_reducible refine (H0.out _ G7).mono ?_); rintro e v8 ⟨rfl, b8⟩; have G8 := HON.out _ _ G7 b8; have B8 := thnN B7 b8)))
      | (go_at_call 14; (first | ((with_reducible refine (HA.out _ G10).mono ?_); rintro e v11 ⟨rfl, b11⟩; have B11 := thnN B10 b11) | ((with_reducible refine (HA.out _ G9).mono ?_); rintro e v11 ⟨rfl, b11⟩; have B11 := thnN B9 b11) | ((with_reducible refine (HA.out _ G8).mono ?_); rintro e v11 ⟨rfl, b11⟩; have B11 := thnN B8 b11))))
    go_ret
    exact ⟨by first | rfl | simp, B11⟩

set_option maxRecDepth 100000 in
theorem lifted (HC : NamesC GN) (os : Os) (started : os.Started) (H : Type) (enc : TypeId × Value → H) :
    ReturnsInHanded {} Tryd.checked os 5 .any (fun w args => (Rows.namesBackSpec.pre enc Tryd.prog Tryd.f5 [] false w args ∧ laidMetH Tryd.prog listed10 w) ∧ sizedMet enc Tryd.prog Tryd.f5 (OpenSpec.ofChange Rows.namesBackSpec) false w args)
      (Rows.namesBackSpec.post enc Tryd.prog Tryd.f5 false true false false) := by
  refine returnsInHanded_of_change_and (C := Tryd.checked) (X := fun w _ => laidMetH Tryd.prog listed10 w) (fun _ _ _ hh h => h.of_heap hh) ownKnob_none started (by kernel_rfl) Tryd.func5
    (ChangeSpec.witness_shaped (enc := enc) (C := Tryd.checked) (os := os) (X := fun w _ => laidMetH Tryd.prog listed10 w) false (World.doorLaid Tryd.prog 4000 os) #[.int .u32 0, .int .u64 0, .string ⟨#[]⟩] 8 rfl (World.shaped_of_RefB (by kernel_rfl) (by kernel_rfl)) (by kernel_rfl) (by kernel_rfl) (by kernel_rfl) (door_met10 os _)) ?_
  intro W base args ds gs before hval0 hW _ _ hL _
  have hG : GN W := of_laid10 hL
  have hval : ∀ (j : Nat) t v, Tryd.f5.params[j]? = some t → args[j]? = some v → Value.okWide Tryd.prog W .any base t v := hval0
  have hW' := hW
  obtain ⟨p, q, hA0, hV, rfl, hfz, hnd⟩ := hW
  have hA : DataW.TrodAll enc Tryd.prog W 0 (fun _ => true) true Tryd.f5.params.toList args.toList ds p := hA0
  rw [Tryd.params5] at hA hval
  obtain ⟨v0, vs0, d0, ds0, p0, q0, hargs, rfl, rfl, h0, r0⟩ := trodAll_cons hA
  obtain ⟨v1, vs1, d1, ds1, p1, q1, rfl, rfl, rfl, h1, r1⟩ := trodAll_cons r0
  obtain ⟨v2, vs2, d2, ds2, p2, q2, rfl, rfl, rfl, h2, r2⟩ := trodAll_cons r1
  obtain ⟨rfl, rfl, rfl⟩ := trodAll_nil r2
  obtain rfl : args = #[v0, v1, v2] := by cases args; simp_all
  obtain ⟨rfl, rfl⟩ := trodVars_none hV
  obtain ⟨a0, rfl, rfl, rfl, w0⟩ := open_int Tryd.underlying22 (hval 0 22 v0 rfl rfl) h0
  obtain ⟨a1, rfl, rfl, rfl, w1⟩ := open_int Tryd.underlying26 (hval 1 26 v1 rfl rfl) h1
  obtain ⟨a2, rfl, rfl, rfl, w2⟩ := open_string Tryd.underlying9 (hval 2 9 v2 rfl rfl) h2
  clear hA0 hval0
  simp only [List.append_nil] at hW'
  refine (walk HC a0 a1 a2 W hG w0 w1 w2).mono fun e W' ⟨he, bel⟩ => ?_
  subst he
  exact ⟨_, rfl, _, _, _, [], [], [], hW', trodAll_mk1 (shut_bool Tryd.underlying4 _), (trodAll_cons_mk (shut_int Tryd.underlying22 w0) (trodAll_cons_mk (shut_int Tryd.underlying26 w1) (trodAll_cons_mk (shut_string Tryd.underlying9 w2) trodAll_mk0))), rfl, bel.frame _, fun h => by cases h⟩

theorem over (HC : NamesC GN) : Rows.namesBackRow.holds Tryd.pinned (OpenSpec.ofChange Rows.namesBackSpec) :=
  OpenClaim.holds_of_wide 5 Tryd.f5 rfl rfl rfl rfl rfl rfl rfl ⟨rfl, rfl, rfl, rfl, rfl⟩ rfl rfl rfl rfl rfl (by kernel_rfl) Tryd.func5 (by kernel_rfl)
    (of_decide_eq_true (by kernel_rfl)) (by unfold Func.isWrapper; first | (rw [if_pos (by decide +kernel)]; kernel_rfl) | (rw [if_neg (by decide +kernel)]; exact ⟨rfl, rfl⟩))
    (fun os started H enc _ => lifted HC os started H enc)

/-- The row's statement. -/
theorem row_holds : Rows.NamesBackSaid := over namesC
/-- The statement: the row, its table tied to the program's text. -/
theorem proved : Rows.NamesBackCardSaid :=
  Claim7.holds_tied_plain_at .later [] [.data, .data, .data, .sentinel, .sentinel, .data, .data, .data] true Rows.namesBackCard.stood.harness Rows.namesBackCard.stood.looks
    row_holds (fun _ h => by cases h) (by kernel_rfl) (fun _ h => by cases h) namesBack_row_tie rfl ⟨rfl, rfl⟩ (by kernel_rfl) rfl
    (fun f fn hf hfn => by
      obtain rfl : f = 5 := Option.some.inj ((show Tryd.prog.funcNamed "vestibule/vestibulelaw10.NamesBack" = some 5 by kernel_rfl).symm.trans hf) |>.symm
      obtain rfl : fn = Tryd.f5 := (Option.some.inj (Tryd.func5.symm.trans hfn)).symm
      exact ⟨by kernel_rfl, fun j t ht => by
        have hm : t ∈ Tryd.f5.params.toList := by simpa using Array.mem_of_getElem? ht
        have hall : (Tryd.f5.params.toList.all fun u => !Tryd.prog.wantsStandIn u) = true := by kernel_rfl
        exact (show Tryd.prog.wantsStandIn t = false by simpa using List.all_eq_true.1 hall t hm)⟩)
    (by kernel_rfl)
#print axioms proved
end Go.Proofs.YtnjbmccimdlcmaaDoor.namesBack
