/- What the document's own Known, Number, Name of the calls return. No condition. -/
import Derived.Test.YtijnkhenplmghaaDoorCa
namespace Go.Proofs.YtijnkhenplmghaaDoor
open Go.RowKit
set_option linter.unusedVariables false
attribute [local go_sem ↓] Go.wp_at_zero Go.wp_at_succ

/-- The first of so many for which something holds. -/
def firstT (p : Nat → Bool) : Nat → Option Nat
  | 0 => none
  | k + 1 => match firstT p k with | some j => some j | none => if p k = true then some k else none
theorem first_hit {p : Nat → Bool} {k : Nat} (hm : firstT p k = none) (h : p k = true) : ∀ {n : Nat}, k < n → firstT p n = some k
  | n + 1, hn => by
    unfold firstT
    by_cases e : k = n
    · subst e; rw [hm]; simp [h]
    · rw [first_hit hm h (n := n) (by omega)]
theorem first_miss {p : Nat → Bool} {k : Nat} (hm : firstT p k = none) (h : p k = false) : firstT p (k + 1) = none := by
  unfold firstT; rw [hm]; simp [h]
/-- Is a name one of the calls'? -/
def knownR (s : ByteArray) : Bool := (firstT (fun j => decide (nmT j = s)) 40).isSome
def okT (a : Int) (j : Nat) : Bool := decide (0 ≤ a) && decide (a < 6) && decide (0 ≤ nrT j a.toNat)
/-- The number of a call on an architecture. -/
def numR (a : Int) (s : ByteArray) : Int × Int := match firstT (fun j => decide (nmT j = s) && okT a j) 40 with | some j => (nrT j a.toNat, 0) | none => (0, 90)
/-- The name of a number on an architecture. -/
def namR (a nr : Int) : ByteArray := match firstT (fun j => decide (numR a (nmT j) = (nr, 0))) 40 with | some j => nmT j | none => ⟨#[]⟩
theorem nrT_lt : ∀ j, j < 40 → ∀ i, i < 6 → nrT j i < 4294967296 ∧ -1 ≤ nrT j i := by decide +kernel
theorem list_of_bytes9 {a b : ByteArray} (h : a.toList = b.toList) : a = b := by
  apply ByteArray.ext
  have h2 := congrArg List.toArray h
  simpa [ByteArray.toList_eq] using h2
theorem no_both {p : Prop} [Decidable p] {b : Bool} (h : ¬ p ∨ b = false) : (decide p && b) = false := by
  rcases h with h | h
  · rw [decide_eq_false h]; rfl
  · rw [h, Bool.and_false]
set_option maxHeartbeats 1600000 in
theorem refKnown9 (s : ByteArray) (w : World) : Calls Tryd.prog 12 #[.string s] w fun e w' => e = .returned (.bool (knownR s)) ∧ Below w.heap.size w w' := by
  have HT := Lib.hid (table_c w)
  go_enter Tryd.func12, Tryd.ntmps12
  go_wp2_with (go_at_call 20; ((with_reducible refine (HT.out).mono ?_); rintro e W ⟨rfl, t1, b1⟩); have HC := Lib.hid t1; have B1 := Lib.hid b1; clear t1 b1)
  clear HT
  go_loop [4] (fun i => ∃ k : Nat, k ≤ 40 ∧ i = .int .i64 k ∧ Hid (firstT (fun j => decide (nmT j = s)) k = none)) (fun i => 40 - (intOf i).toNat)
  case atStart => exact ⟨0, by omega, rfl, Lib.hid rfl⟩
  case round =>
    obtain ⟨k, hk, rfl, hm⟩ := hrel
    by_cases hlt : k < 40
    · have hc := HC.out.name k hlt
      have k1 : (k : Int) < 40 := by omega
      have k0 : (0 : Int) ≤ k := by omega
      have HH := Lib.hid (fun (h : nmT k = s) => first_hit hm.out (decide_eq_true h) hlt)
      have HS := Lib.hid (fun (h : nmT k ≠ s) => first_miss hm.out (decide_eq_false h))
      obtain ⟨x, hx⟩ : ∃ x, x = nmT k := ⟨_, rfl⟩
      rw [← hx] at hc HH HS
      clear hx hm
      by_cases he : x = s
      · subst he
        have hv := Lib.hid (HH.out rfl)
        clear HH HS
        go_wp2
        go_ret
        exact ⟨by unfold knownR; rw [hv.out]; rfl, B1.out⟩
      · have hv := Lib.hid (HS.out he)
        have hb : (x.toList == s.toList) = false := beq_eq_false_iff_ne.2 (fun e => he (list_of_bytes9 e))
        clear HH HS he
        go_wp2
        go_round
        case rel => exact ⟨k + 1, by omega, by go_num, hv⟩
        case measure => simp [intOf]; omega
    · obtain rfl : k = 40 := by omega
      go_wp2
      go_ret
      exact ⟨by unfold knownR; rw [hm.out]; rfl, B1.out⟩
set_option maxHeartbeats 3200000 in
theorem refNumber9 (a : Int) (s : ByteArray) (w : World) : Calls Tryd.prog 8 #[.int .i64 a, .string s] w fun e w' => e = .returned (.tuple #[.int .u32 (numR a s).1, .int .i64 (numR a s).2]) ∧ Below w.heap.size w w' := by
  have HT := Lib.hid (table_c w)
  go_enter Tryd.func8, Tryd.ntmps8
  go_wp2_with (go_at_call 20; ((with_reducible refine (HT.out).mono ?_); rintro e W ⟨rfl, t1, b1⟩); have HC := Lib.hid t1; have B1 := Lib.hid b1; clear t1 b1)
  clear HT
  go_loop [7] (fun i => ∃ k : Nat, k ≤ 40 ∧ i = .int .i64 k ∧ Hid (firstT (fun j => decide (nmT j = s) && okT a j) k = none)) (fun i => 40 - (intOf i).toNat)
  case atStart => exact ⟨0, by omega, rfl, Lib.hid rfl⟩
  case round =>
    obtain ⟨k, hk, rfl, hm⟩ := hrel
    by_cases hlt : k < 40
    · have hc := HC.out.name k hlt
      have hr := HC.out.row k hlt
      have k1 : (k : Int) < 40 := by omega
      have k0 : (0 : Int) ≤ k := by omega
      have HH := Lib.hid (fun (h : nmT k = s) (h2 : okT a k = true) => first_hit (p := fun j => decide (nmT j = s) && okT a j) hm.out (by rw [decide_eq_true h, h2]; rfl) hlt)
      have HS := Lib.hid (fun (h : nmT k ≠ s ∨ okT a k = false) => first_miss (p := fun j => decide (nmT j = s) && okT a j) hm.out (no_both h))
      have HNR := Lib.hid (fun (i : Nat) (hi : i < 6) => HC.out.nr k hlt i hi)
      have HLT := Lib.hid (fun (i : Nat) (hi : i < 6) => nrT_lt k hlt i hi)
      obtain ⟨x, hx⟩ : ∃ x, x = nmT k := ⟨_, rfl⟩
      rw [← hx] at hc HH HS
      clear hx hm
      by_cases he : x = s
      · subst he
        by_cases h0 : 0 ≤ a
        · by_cases h6 : a < 6
          · obtain ⟨n, rfl⟩ := Int.eq_ofNat_of_zero_le h0
            have hn : n < 6 := by omega
            have hc2 := HNR.out n hn
            have hl := HLT.out n hn
            have n1 : (n : Int) < 6 := by omega
            have HOK := Lib.hid (show okT n k = decide (0 ≤ nrT k n) from by unfold okT; rw [decide_eq_true (show (0 : Int) ≤ n by omega), decide_eq_true (show (n : Int) < 6 by omega), Int.toNat_natCast]; rfl)
            have HV := Lib.hid (show nrT k (n : Int).toNat = nrT k n from by rw [Int.toNat_natCast])
            obtain ⟨y, hy⟩ : ∃ y, y = nrT k n := ⟨_, rfl⟩
            rw [← hy] at hc2 hl HOK HV
            clear hy
            by_cases hp : 0 ≤ y
            · have hv := Lib.hid (HH.out rfl (by rw [HOK.out, decide_eq_true hp]))
              have hw : IntKind.u32.wrap y = y := by rw [IntKind.wrap_u32]; omega
              clear HH HS HNR HLT hl HOK
              go_wp2
              go_ret2
              exact ⟨by unfold numR; rw [hv.out]; simp only; rw [HV.out]; rfl, B1.out⟩
            · have hv := Lib.hid (HS.out (Or.inr (by rw [HOK.out, decide_eq_false hp])))
              clear HH HS HNR HLT hl HOK
              go_wp2
              go_round
              case rel => exact ⟨k + 1, by omega, by go_num, hv⟩
              case measure => simp [intOf]; omega
          · have hv := Lib.hid (HS.out (Or.inr (by unfold okT; rw [decide_eq_false h6, Bool.and_false]; rfl)))
            have h6' : decide (a < 6) = false := decide_eq_false h6
            clear HH HS HNR HLT
            go_wp2
            go_round
            case rel => exact ⟨k + 1, by omega, by go_num, hv⟩
            case measure => simp [intOf]; omega
        · have hv := Lib.hid (HS.out (Or.inr (by unfold okT; rw [decide_eq_false h0]; rfl)))
          have h0' : decide (0 ≤ a) = false := decide_eq_false h0
          clear HH HS HNR HLT
          go_wp2
          go_round
          case rel => exact ⟨k + 1, by omega, by go_num, hv⟩
          case measure => simp [intOf]; omega
      · have hv := Lib.hid (HS.out (Or.inl he))
        have hb : (x.toList == s.toList) = false := beq_eq_false_iff_ne.2 (fun e => he (list_of_bytes9 e))
        clear HH HS he HNR HLT
        go_wp2
        go_round
        case rel => exact ⟨k + 1, by omega, by go_num, hv⟩
        case measure => simp [intOf]; omega
    · obtain rfl : k = 40 := by omega
      go_wp2
      go_ret2
      exact ⟨by unfold numR; rw [hm.out]; rfl, B1.out⟩
set_option maxHeartbeats 3200000 in
theorem refName9 (a nr : Int) (w : World) : Calls Tryd.prog 14 #[.int .i64 a, .int .u32 nr] w fun e w' => e = .returned (.string (namR a nr)) ∧ Below w.heap.size w w' := by
  have HT := Lib.hid (table_c w)
  have HN := Lib.hid (fun (s : ByteArray) (V : World) => refNumber9 a s V)
  go_enter Tryd.func14, Tryd.ntmps14
  go_wp2_with (go_at_call 20; ((with_reducible refine (HT.out).mono ?_); rintro e W ⟨rfl, t1, b1⟩); have HC := Lib.hid t1; have B1 := Lib.hid b1; clear t1 b1)
  clear HT
  go_loopw [6] (fun i wr => ∃ k : Nat, k ≤ 40 ∧ i = .int .i64 k ∧ Hid (firstT (fun j => decide (numR a (nmT j) = (nr, 0))) k = none) ∧ Hid (Below W.heap.size W wr)) (fun i _ => 40 - (intOf i).toNat)
  case atStart => exact ⟨0, by omega, rfl, Lib.hid rfl, Lib.hid (Below.refl _ _)⟩
  case round =>
    obtain ⟨k, hk, rfl, hm, PB⟩ := hrel
    obtain ⟨V, rfl⟩ : ∃ wo : World, wo = wr := ⟨_, rfl⟩
    by_cases hlt : k < 40
    · have hc := (HC.out.on PB.out).name k hlt
      have k1 : (k : Int) < 40 := by omega
      have k0 : (0 : Int) ≤ k := by omega
      have HH := Lib.hid (fun (h : numR a (nmT k) = (nr, 0)) => first_hit (p := fun j => decide (numR a (nmT j) = (nr, 0))) hm.out (decide_eq_true h) hlt)
      have HS := Lib.hid (fun (h : numR a (nmT k) ≠ (nr, 0)) => first_miss (p := fun j => decide (numR a (nmT j) = (nr, 0))) hm.out (decide_eq_false h))
      have HN1 := Lib.hid (HN.out (nmT k) V)
      have HX := Lib.hid (show ∀ x, x = nmT k → (match some k with | some j => nmT j | none => (⟨#[]⟩ : ByteArray)) = x from fun x h => h.symm)
      obtain ⟨x, hx⟩ : ∃ x, x = nmT k := ⟨_, rfl⟩
      have HXX := Lib.hid (HX.out x hx)
      rw [← hx] at hc HH HS HN1
      obtain ⟨⟨p, q⟩, hpq⟩ : ∃ r, r = numR a x := ⟨_, rfl⟩
      rw [← hpq] at HN1 HH HS
      clear hx hm hpq HX
      by_cases hq : q = 0
      · subst hq
        by_cases hp : p = nr
        · subst hp
          have hv := Lib.hid (HH.out rfl)
          have hpp : (p == p) = true := by simp
          clear HH HS
          go_wp2_with (go_at_call 8; ((with_reducible refine (HN1.out).mono ?_); rintro e v2 ⟨rfl, b2⟩); have c2 := (b2.cell (World.block_lt_of_cell? _ _ hc)).trans hc)
          go_ret
          exact ⟨by unfold namR; rw [hv.out]; exact congrArg (fun v => Ending.returned (.string v)) HXX.out.symm, (B1.out.trans (PB.out.mono B1.out.size)).trans (b2.mono (Nat.le_trans B1.out.size PB.out.size))⟩
        · have hv := Lib.hid (HS.out (fun e => hp (congrArg Prod.fst e)))
          have hpp : (p == nr) = false := beq_eq_false_iff_ne.2 hp
          clear HH HS
          go_wp2_with (go_at_call 8; ((with_reducible refine (HN1.out).mono ?_); rintro e v2 ⟨rfl, b2⟩))
          go_roundw
          case rel => exact ⟨k + 1, by omega, by go_num, hv, Lib.hid (PB.out.trans (b2.mono PB.out.size))⟩
          case measure => simp [intOf]; omega
      · have hv := Lib.hid (HS.out (fun e => hq (congrArg Prod.snd e)))
        have hqq : (q == 0) = false := beq_eq_false_iff_ne.2 hq
        clear HH HS
        go_wp2_with (go_at_call 8; ((with_reducible refine (HN1.out).mono ?_); rintro e v2 ⟨rfl, b2⟩))
        go_roundw
        case rel => exact ⟨k + 1, by omega, by go_num, hv, Lib.hid (PB.out.trans (b2.mono PB.out.size))⟩
        case measure => simp [intOf]; omega
    · obtain rfl : k = 40 := by omega
      go_wp2
      go_ret
      exact ⟨by unfold namR; rw [hm.out]; rfl, B1.out.trans (PB.out.mono B1.out.size)⟩
end Go.Proofs.YtijnkhenplmghaaDoor
