/- The statement GroupsTells holds, over what the calls have to return: names, what a group names, how deep it is; and what is written into a list that was returned changes no later answer. -/
import Derived.Test.YtciocmhmdhmdoaaRows
import Derived.Test.YtciocmhmdhmdoaaFr
import Derived.Test.YtciocmhmdhmdoaaG6
import Derived.Test.YtciocmhmdhmdoaaGf
namespace Go.Proofs.Ytciocmhmdhmdoaa.groupsTells
open Go.ChangeShapes Go.WideShapes Go.ChangeAt Go.RowKit
open Go.ChangeMaps (open_string shut_string)
set_option linter.unusedVariables false
attribute [local go_sem ↓] Go.wp_at_zero Go.wp_at_succ
set_option linter.unusedSimpArgs false
theorem own_form11 {w : World} {B n s : Nat} {t : TypeId} {v : Value} {xs : List Value} (h : w.ownsRow B t s v n xs) : ∃ q c, v = .slice q n c := by
  rcases h.2 with ⟨rfl, e⟩ | ⟨g, cap, cur, rfl, _⟩
  · exact ⟨none, 0, by rw [e]⟩
  · exact ⟨_, _, rfl⟩
theorem nam_len : (grpT.map (·.1)).length = 18 := rfl
theorem nam_at {j : Nat} (hj : j < 18) : (grpT.map (·.1))[j]? = some (gN j) := by rw [List.getElem?_map, gT_at hj]; rfl
theorem names18 {G : World → Prop} {kn : ByteArray → Bool} (HC : GroupsC G kn) (w : World) (g : G w) : Calls Try.prog 12 #[] w fun e w' => ∃ b o c, e = .returned (.slice (some ⟨b, o, none⟩) 18 c) ∧ (∀ k, k < 18 → w'.cell? ⟨b, o + k, none⟩ = some (.string (gN k))) ∧ Below w.heap.size w w' := by
  refine (HC.names w g).mono ?_
  rintro e w' ⟨v, rfl, hs, hb⟩
  obtain ⟨b, o, c, rfl, hc⟩ := hs.form (by rw [nam_len]; omega)
  rw [nam_len]
  exact ⟨b, o, c, rfl, fun k hk => hc k _ (nam_at hk), hb⟩
/-- A list of the call's own, whatever it holds. -/
def OwnStr (w : World) (B : Nat) (v : Value) (m : Nat) : Prop := ∃ xs, w.ownsRow B 9 1 v m xs
set_option maxRecDepth 100000 in
set_option maxHeartbeats 16000000 in
theorem walk {G : World → Prop} {kn : ByteArray → Bool} (HC : GroupsC G kn) (a0 : ByteArray) (w : World) (hG : G w) (w0 : a0.size ≤ maxLen) :
    Calls Try.prog 4 #[.string a0] w fun e w' => e = .returned (.bool true) ∧ Below w.heap.size w w' := by
  by_cases hlong : (200 : Int) < a0.size
  · clear HC hG w0
    go_enter Try.func4, Try.ntmps4
    go_wp2_with fail
    go_ret
    exact ⟨rfl, Below.refl _ _⟩
  have hs : (a0.size : Int) ≤ 200 := by omega
  have HON := Lib.hid (fun (w w' : World) => HC.on (w := w) (w' := w'))
  have HG := Lib.hid hG
  have HT := Lib.hid (fun (W : World) => table_g W)
  have HN := Lib.hid (fun (W : World) (g : G W) => names18 HC W g)
  have HD := Lib.hid (fun (W : World) (g : G W) => HC.deep a0 W g w0)
  have RD := Lib.hid (fun (W : World) => refDeep a0 W)
  have HA := Lib.hid (fun (W : World) (g : G W) => awake11_any HC W g)
  have hM8 := mem_le a0
  obtain ⟨M, hM⟩ : ∃ M, M = memR a0 := ⟨_, rfl⟩
  obtain ⟨m, hm⟩ : ∃ m, m = M.length := ⟨_, rfl⟩
  have HK := Lib.hid (fun (W : World) (g : G W) => (HC.known a0 W g w0).mono (fun e w' (h : e = .returned (.bool (!(memR a0).isEmpty)) ∧ Below W.heap.size W w') => (⟨h.1.trans (by
    rw [← hM, hm]; cases M <;> simp), h.2⟩ : e = .returned (.bool (decide ((0 : Int) < (m : Int)))) ∧ Below W.heap.size W w')))
  have HM := Lib.hid (fun (W : World) (g : G W) => (HC.members a0 W g w0).mono (fun e w' h => (by
    rw [← hM, ← hm] at h
    obtain ⟨v, h1, h2, h3⟩ := h
    obtain ⟨q, c, rfl⟩ := own_form11 h2
    exact ⟨q, c, h1, h2, h3⟩ : ∃ q c, e = .returned (.slice q m c) ∧ w'.ownsRow W.heap.size 9 1 (.slice q m c) m (sG M) ∧ Below W.heap.size W w')))
  have RM := Lib.hid (fun (W : World) => (refMembers a0 W).mono (fun e w' h => (by
    rw [← hM] at h
    obtain ⟨v, h1, h2, h3, _⟩ := h
    obtain ⟨q, c, rfl, h4⟩ := h2
    rw [← hm] at h1
    exact ⟨q, c, h1, ⟨q, c, by rw [hm], h4⟩, h3⟩ : ∃ q c, e = .returned (.slice q m c) ∧ StrsAt w' (.slice q m c) M ∧ Below W.heap.size W w')))
  rw [← hM, ← hm] at hM8
  have HSM := Lib.hid (fun (u v : Value) (W : World) (h : StrsAt W u M) (h2 : StrsAt W v M) => same_yes u v M W h h2 (by omega))
  have HOS := Lib.hid (fun (u : Value) (W : World) (B : Nat) (h : W.ownsRow B 9 1 u m (sG M)) => strs_own (show W.ownsRow B 9 1 u M.length (sG M) by rw [← hm]; exact h))
  obtain ⟨d, hd⟩ : ∃ d, d = deepR a0 := ⟨_, rfl⟩
  rw [← hd] at HD RD
  have t1 : ((d : Int) != (d : Int)) = false := by simp
  have t2 : (decide ((0 : Int) < (m : Int)) != decide ((0 : Int) < (m : Int))) = false := by simp
  clear HC hG w0 hlong hM hm hd
  go_enter Try.func4, Try.ntmps4
  go_wp2_with (first
    | (go_at_call 11; ((with_reducible refine (HT.out _).mono ?_); rintro e v1 ⟨rfl, s1, b1⟩); have G1 := HON.out _ _ HG.out b1)
    | (go_at_call 12; ((with_reducible refine (HN.out _ G1).mono ?_); rintro e v2 ⟨g2, o2, c2, rfl, s2, b2⟩); have G2 := HON.out _ _ G1 b2; have B2 := thn b1 b2)
    | (go_at_call 13; ((with_reducible refine (HD.out _ G2).mono ?_); rintro e v3 ⟨rfl, b3⟩); have G3 := HON.out _ _ G2 b3; have B3 := thn B2 b3)
    | (go_at_call 14; ((with_reducible refine (RD.out _).mono ?_); rintro e v4 ⟨rfl, b4⟩); have G4 := HON.out _ _ G3 b4; have B4 := thn B3 b4)
    | (go_at_call 15; ((with_reducible refine (HK.out _ G4).mono ?_); rintro e v5 ⟨rfl, b5⟩); have G5 := HON.out _ _ G4 b5; have B5 := thn B4 b5)
    | (go_at_call 16; ((with_reducible refine (RM.out _).mono ?_); rintro e v6 ⟨q6, c6, rfl, s6, b6⟩); have G6 := Lib.hid (HON.out _ _ G5 b6); have B6 := Lib.hid (thn B5 b6); have S1 := Lib.hid (((((s1.on b2).on b3).on b4).on b5).on b6); have S2 := Lib.hid (fun k hk => (thn (thn (thn b3 b4) b5) b6).cell (World.block_lt_of_cell? _ _ (s2 k hk)) |>.trans (s2 k hk))))
  clear s1 s2 s6 G1 G2 G3 G4 G5 b1 b2 b3 b4 b5 b6 B2 B3 B4 B5 t1 t2
  go_loopw [5] (fun v5 wr => ∃ k : Nat, k ≤ 18 ∧ v5 = .int .i64 k ∧ Hid (Below v6.heap.size v6 wr)) (fun v5 _ => 18 - (intOf v5).toNat)
  case atStart => exact ⟨0, by omega, rfl, Lib.hid (Below.refl _ _)⟩
  case round =>
    obtain ⟨k, hk, rfl, PB⟩ := hrel
    obtain ⟨V, rfl⟩ : ∃ wo : World, wo = wr := ⟨_, rfl⟩
    by_cases hlt : k < 18
    · have d1 := S2.out k hlt
      have d2 := S1.out.name k hlt
      have c0 := (PB.out.cell (World.block_lt_of_cell? v6 _ d1)).trans d1
      have c1 := (PB.out.cell (World.block_lt_of_cell? v6 _ d2)).trans d2
      have k1 : (k : Int) < 18 := by omega
      have k0 : (0 : Int) ≤ k := by omega
      have hw1 : IntKind.i64.wrap ((k : Int) + 1) = k + 1 := by rw [IntKind.wrap_i64]; omega
      obtain ⟨x, ex⟩ : ∃ t, t = gN k := ⟨_, rfl⟩
      rw [← ex] at c0 c1
      have t2 : (x.toList != x.toList) = false := by simp
      clear d1 d2 ex
      go_wp2_with fail
      go_quiet (fail)
      go_wp2_with fail
      go_roundw
      case rel => exact ⟨k + 1, by omega, by go_num, Lib.hid (below_drewN PB.out _)⟩
      case measure => simp [intOf]; omega
    · obtain rfl : k = 18 := by omega
      have G7 := HON.out _ _ G6.out PB.out
      have B7 := thn B6.out PB.out
      clear HN HD RD HK HT S1 S2 G6 B6
      go_wp2_with (first
        | (go_at_call 17; ((with_reducible refine (HM.out _ G7).mono ?_); rintro e v8 ⟨q8, c8, rfl, o8, b8⟩); have G8 := HON.out _ _ G7 b8; have B8 := thn B7 b8)
        | (go_at_call 16; ((with_reducible refine (RM.out _).mono ?_); rintro e v9 ⟨q9, c9, rfl, s9, b9⟩); have G9 := HON.out _ _ G8 b9; have B9 := thn B8 b9; have o9 := own_on o8 b9)
        | (go_at_call 9; ((with_reducible refine (HSM.out _ _ _ (HOS.out _ _ _ o9) s9).mono ?_); rintro e v10 ⟨rfl, b10⟩); have G10 := Lib.hid (HON.out _ _ G9 b10); have B10 := Lib.hid (thn B9 b10); have G70 := Lib.hid G7; have B70 := Lib.hid B7; have BB := Lib.hid (thn (thn b8 b9) b10); have OO : Hid (OwnStr v10 V.heap.size (.slice q8 m c8) m) := Lib.hid ⟨_, own_on o9 b10⟩))
      clear G7 B7 G8 B8 G9 B9 o8 o9 s9 b8 b9 b10 PB
      go_loopw [7] (fun v7 wr => ∃ k : Nat, k ≤ m ∧ v7 = .int .i64 k ∧ Hid (OwnStr wr V.heap.size (.slice q8 m c8) m) ∧ Hid (Below V.heap.size V wr)) (fun v7 _ => m - (intOf v7).toNat)
      case atStart => exact ⟨0, by omega, rfl, OO, BB⟩
      case round =>
        obtain ⟨k, hk, rfl, PO, PB⟩ := hrel
        obtain ⟨U, rfl⟩ : ∃ wo : World, wo = wr := ⟨_, rfl⟩
        by_cases hlt : k < m
        · obtain ⟨xs, o⟩ := PO.out
          obtain ⟨g, cur, e1, hge⟩ : ∃ g cap, Value.slice q8 m c8 = .slice (some ⟨g, 0, none⟩) m cap ∧ V.heap.size ≤ g := by
            obtain ⟨g, cap, e, h1, _⟩ := o.form (by omega)
            exact ⟨g, cap, e, h1⟩
          injection e1 with e11 e12 e13
          subst e11
          have hx : xs[k]? = some (xs[k]'(by have := o.1; omega)) := List.getElem?_eq_getElem _
          obtain ⟨x, ex⟩ : ∃ t, t = xs[k]'(by have := o.1; omega) := ⟨_, rfl⟩
          rw [← ex] at hx
          have c0 := (o.cellAt k (by omega)).trans hx
          have f0 := o.frozenAt k
          have O' := Lib.hid (⟨_, (o.stored k (.string ⟨#[103, 111, 110, 101]⟩)).1⟩ : OwnStr (U.setCell ⟨g, k, none⟩ (.string ⟨#[103, 111, 110, 101]⟩)) V.heap.size (.slice (some ⟨g, 0, none⟩) m c8) m)
          have B' := Lib.hid (PB.out.setCell (p := ⟨g, k, none⟩) hge (.string ⟨#[103, 111, 110, 101]⟩))
          have k1 : (k : Int) < m := by omega
          have k0 : (0 : Int) ≤ k := by omega
          have hw1 : IntKind.i64.wrap ((k : Int) + 1) = k + 1 := by rw [IntKind.wrap_i64]; omega
          clear ex hx o PO PB e12 e13
          go_wp2_with fail
          go_roundw
          case rel => exact ⟨k + 1, by omega, by go_num, O', B'⟩
          case measure => simp [intOf]; omega
        · obtain rfl : k = m := by omega
          have k1 : ¬ (k : Int) < k := by omega
          have G11 := HON.out _ _ G70.out PB.out
          have B11 := thn B70.out PB.out
          go_wp2_with (first
            | (go_at_call 17; ((with_reducible refine (HM.out _ G11).mono ?_); rintro e v12 ⟨q12, c12, rfl, o12, b12⟩); have G12 := HON.out _ _ G11 b12; have B12 := thn B11 b12)
            | (go_at_call 16; ((with_reducible refine (RM.out _).mono ?_); rintro e v13 ⟨q13, c13, rfl, s13, b13⟩); have G13 := HON.out _ _ G12 b13; have B13 := thn B12 b13; have o13 := own_on o12 b13)
            | (go_at_call 9; ((with_reducible refine (HSM.out _ _ _ (HOS.out _ _ _ o13) s13).mono ?_); rintro e v14 ⟨rfl, b14⟩); have G14 := HON.out _ _ G13 b14; have B14 := thn B13 b14)
            | (go_at_call 10; ((with_reducible refine (HA.out _ G14).mono ?_); rintro e v15 ⟨rfl, b15⟩); have B15 := thn B14 b15))
          go_ret
          exact ⟨by first | rfl | simp, B15⟩
end Go.Proofs.Ytciocmhmdhmdoaa.groupsTells
