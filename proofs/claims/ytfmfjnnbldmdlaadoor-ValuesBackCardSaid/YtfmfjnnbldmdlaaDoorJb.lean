/- What the document's own Errno, Digits, ErrnoName, All, Flags of the names return. Condition: a text of at most 2^62 bytes. -/
import Derived.Test.YtfmfjnnbldmdlaaDoorJa
import Derived.Laws.IdiomStrings
import Derived.Laws.Concat
namespace Go.Proofs.YtfmfjnnbldmdlaaDoor
open Go.RowKit
set_option linter.unusedVariables false
set_option linter.unusedSimpArgs false
attribute [local go_sem ↓] Go.wp_at_zero Go.wp_at_succ

def digB10 (c : UInt8) : Bool := decide (48 ≤ c.toNat) && decide (c.toNat ≤ 57)
def valD (l : List UInt8) : Nat := l.foldl (fun a c => 10 * a + (c.toNat - 48)) 0
/-- A number of one to four digits, up to 4095. -/
def parse4 (l : List UInt8) : Option Nat := if l ≠ [] ∧ l.length ≤ 4 ∧ l.all digB10 = true then (if valD l ≤ 4095 then some (valD l) else none) else none
/-- The number of an errno that is written. -/
def errnoR (s : ByteArray) : Option Nat := match findR errnoT s with | some x => some x | none => parse4 s.data.toList
theorem valD_snoc (l : List UInt8) (c : UInt8) : valD (l ++ [c]) = 10 * valD l + (c.toNat - 48) := by unfold valD; rw [List.foldl_append]; rfl
theorem valD_lt : ∀ (l : List UInt8), l.all digB10 = true → valD l < 10 ^ l.length := by
  intro l
  induction h : l.length generalizing l with
  | zero => intro _; rw [List.length_eq_zero_iff.1 h]; decide
  | succ n ih =>
    intro ha
    obtain ⟨m, c, rfl⟩ : ∃ m c, l = m ++ [c] := ⟨l.dropLast, l.getLast (by intro e; simp [e] at h), (List.dropLast_concat_getLast _).symm⟩
    rw [List.all_append, Bool.and_eq_true] at ha
    have h1 := ih m (by simpa using h) ha.1
    have hc : c.toNat ≤ 57 := by
      have := ha.2
      simp [digB10] at this
      omega
    rw [valD_snoc, Nat.pow_succ]
    omega
theorem parse4_long {l : List UInt8} (h : 4 < l.length) : parse4 l = none := by unfold parse4; rw [if_neg (by rintro ⟨_, h2, _⟩; omega)]
theorem parse4_bad {l : List UInt8} {k : Nat} {c : UInt8} (hk : l[k]? = some c) (h : digB10 c = false) : parse4 l = none := by
  unfold parse4
  rw [if_neg]
  rintro ⟨_, _, h3⟩
  have := List.all_eq_true.1 h3 c (List.mem_of_getElem? hk)
  rw [h] at this; cases this
set_option maxHeartbeats 3200000 in
set_option maxRecDepth 100000 in
theorem refErrno (s : ByteArray) (hs : s.size ≤ maxLen) (w : World) : Calls Tryd.prog 26 #[.string s] w fun e w' =>
    e = .returned (.tuple #[.int .u32 ((errnoR s).getD 0 : Nat), .int .i64 (if (errnoR s).isSome = true then 0 else 160)]) ∧ Below w.heap.size w w' := by
  have HT := Lib.hid (refErrnos w)
  have HF := Lib.hid (fun W (h : RowsN W w.heap.size errnoT) => refFind errnoT w.heap.size s 160 W (by decide) h)
  obtain ⟨ev, hev⟩ : ∃ v : Int, v = if (errnoR s).isSome = true then 0 else 160 := ⟨_, rfl⟩
  rw [← hev]
  have HEV := Lib.hid hev
  clear hev
  unfold TabTo at HT
  cases hf : findR errnoT s with
  | some x =>
    rw [hf] at HF
    have HV := Lib.hid (show errnoR s = some x by unfold errnoR; rw [hf])
    have hx : x < 4294967296 := by
      have : ∀ l : List En10, (l.all fun e => decide (e.2 < 4294967296)) = true → findR l s = some x → x < 4294967296 := by
        intro l
        induction l with
        | nil => intro _ h; cases h
        | cons e r ih =>
          intro ha h
          rw [List.all_cons, Bool.and_eq_true] at ha
          unfold findR at h
          split at h
          · injection h with h; rw [← h]; exact of_decide_eq_true ha.1
          · exact ih ha.2 h
      exact this errnoT (by decide) hf
    have hw : IntKind.u32.wrap (x : Int) = x := by rw [IntKind.wrap_u32]; omega
    clear hf hs
    go_enter Tryd.func26, Tryd.ntmps26
    go_wp2_with (first
      | (go_at_call 37; ((with_reducible refine (HT.out).mono ?_); rintro e w1 ⟨rfl, r1, b1⟩); have R1 := Lib.hid r1; have B1 := Lib.hid b1; clear r1 b1)
      | (go_at_call 36; ((with_reducible refine (HF.out _ R1.out).mono ?_); rintro e w2 ⟨rfl, rfl⟩)))
    go_ret2
    exact ⟨by rw [HEV.out, HV.out]; simp, B1.out⟩
  | none =>
    rw [hf] at HF
    have HV := Lib.hid (show errnoR s = parse4 s.data.toList by unfold errnoR; rw [hf])
    obtain ⟨n, hn⟩ : ∃ n, n = s.size := ⟨_, rfl⟩
    have HN := Lib.hid hn
    have hsz : s.size = n := hn.symm
    have hnm : (n : Int) ≤ 9223372036854775807 := by rw [hn]; unfold maxLen at hs; omega
    clear hf hs hn
    go_enter Tryd.func26, Tryd.ntmps26
    go_wp2_with (first
      | (go_at_call 37; ((with_reducible refine (HT.out).mono ?_); rintro e w1 ⟨rfl, r1, b1⟩); have R1 := Lib.hid r1; have B1 := Lib.hid b1; clear r1 b1)
      | (go_at_call 36; ((with_reducible refine (HF.out _ R1.out).mono ?_); rintro e w2 ⟨rfl, rfl⟩)))
    go_loop [6, 7] (fun v6 v7 => ∃ k : Nat, k ≤ n ∧ k ≤ 4 ∧ v7 = .int .i64 k ∧ v6 = .int .i64 (valD (s.data.toList.take k) : Nat) ∧ Hid ((s.data.toList.take k).all digB10 = true)) (fun _ v7 => n - (intOf v7).toNat)
    case atStart => exact ⟨0, by omega, by omega, rfl, rfl, Lib.hid rfl⟩
    case round =>
      obtain ⟨k, hk, hk4, rfl, rfl, hm⟩ := hrel
      by_cases hlt : k < n
      · have hkb : k < s.size := by rw [hsz]; exact hlt
        have hck : s.data.toList[k]? = some s[k] := by
          rw [List.getElem?_eq_getElem (by simpa using hkb)]; rfl
        have k1 : (k : Int) < n := by omega
        have k0 : (0 : Int) ≤ k := by omega
        have HVL := Lib.hid (valD_lt _ hm.out)
        have HTK := Lib.hid (show s.data.toList.take (k + 1) = s.data.toList.take k ++ [s[k]] by rw [List.take_add_one, hck]; rfl)
        by_cases hd : digB10 s[k] = true
        · have hd2 := hd
          unfold digB10 at hd2
          rw [Bool.and_eq_true, decide_eq_true_eq, decide_eq_true_eq] at hd2
          have q1 : ¬ (s[k].toNat : Int) < 48 := by omega
          have q2 : ¬ (57 : Int) < (s[k].toNat : Int) := by omega
          by_cases h4 : 3 < k
          · have q3 : (3 : Int) < k := by omega
            have hv := Lib.hid (show parse4 s.data.toList = none from parse4_long (by have : s.data.toList.length = s.size := by simp
                                                                                      omega))
            clear hd hd2 HTK HVL
            go_wp2
            go_ret2
            exact ⟨by rw [HEV.out, HV.out, hv.out]; rfl, B1.out⟩
          · have q3 : ¬ (3 : Int) < k := by omega
            have hpw : 10 ^ ((s.data.toList.take k).length) ≤ 1000 := by
              have h1 : (s.data.toList.take k).length ≤ 3 := by rw [List.length_take]; omega
              calc 10 ^ ((s.data.toList.take k).length) ≤ 10 ^ 3 := Nat.pow_le_pow_right (by decide) h1
                _ = 1000 := rfl
            have hvl : valD (s.data.toList.take k) < 1000 := Nat.lt_of_lt_of_le HVL.out hpw
            have HSN := Lib.hid (show valD (s.data.toList.take (k + 1)) = 10 * valD (s.data.toList.take k) + (s[k].toNat - 48) by rw [HTK.out, valD_snoc])
            have HAL := Lib.hid (show (s.data.toList.take (k + 1)).all digB10 = true by rw [HTK.out, List.all_append, hm.out]; simp [hd])
            obtain ⟨v, hv⟩ : ∃ v, v = valD (s.data.toList.take k) := ⟨_, rfl⟩
            rw [← hv] at hvl HSN ⊢
            have w1' : IntKind.i64.wrap (10 * (v : Int)) = 10 * v := IntWalk.i64_in _ (by omega)
            have w2' : IntKind.i64.wrap (10 * (v : Int) + ((s[k].toNat : Int) - 48)) = 10 * v + (s[k].toNat - 48) := IntWalk.i64_in _ (by omega)
            have w3' : IntKind.u8.wrap ((s[k].toNat : Int) - 48) = s[k].toNat - 48 := IntWalk.u8_in _ (by omega)
            clear hd hv hpw HTK HVL
            go_wp2
            go_round
            case rel =>
              refine ⟨k + 1, by omega, by omega, by go_num, ?_, HAL⟩
              rw [HSN.out]
              first
              | (congr 1; omega)
              | (rw [show wrap64 (10 * (v : Int)) = 10 * v from IntWalk.i64_in _ (by omega), show wrap64 (10 * (v : Int) + ((s[k].toNat : Int) - 48)) = 10 * v + (s[k].toNat - 48) from IntWalk.i64_in _ (by omega)]; congr 1; omega)
            case measure => simp [intOf]; omega
        · have hd' : digB10 s[k] = false := by simpa using hd
          have hv := Lib.hid (show parse4 s.data.toList = none from parse4_bad hck hd')
          by_cases h1 : s[k].toNat < 48
          · have q1 : (s[k].toNat : Int) < 48 := by omega
            clear hd hd' HTK HVL
            go_wp2
            go_ret2
            exact ⟨by rw [HEV.out, HV.out, hv.out]; rfl, B1.out⟩
          · have q1 : ¬ (s[k].toNat : Int) < 48 := by omega
            have q2 : (57 : Int) < (s[k].toNat : Int) := by
              unfold digB10 at hd'
              rw [Bool.and_eq_false_iff, decide_eq_false_iff_not, decide_eq_false_iff_not] at hd'
              omega
            clear hd hd' HTK HVL
            go_wp2
            go_ret2
            exact ⟨by rw [HEV.out, HV.out, hv.out]; rfl, B1.out⟩
      · obtain rfl : k = n := by omega
        have k1 : ¬ (k : Int) < k := by omega
        have hl : s.data.toList.length = k := by simp; exact hsz
        rw [List.take_of_length_le (by omega)] at hm ⊢
        have HVL := valD_lt _ hm.out
        have hpw : 10 ^ s.data.toList.length ≤ 10000 := by
          calc 10 ^ s.data.toList.length ≤ 10 ^ 4 := Nat.pow_le_pow_right (by decide) (by omega)
            _ = 10000 := rfl
        by_cases h0 : k = 0
        · have hnil : s.data.toList = [] := List.length_eq_zero_iff.1 (by omega)
          have hv := Lib.hid (show parse4 s.data.toList = none by rw [hnil]; rfl)
          have e1 : s.toList.isEmpty = true := by rw [ByteArray.toList_eq, hnil]; rfl
          clear hnil hpw HVL hl
          go_wp2
          go_ret2
          exact ⟨by rw [HEV.out, HV.out, hv.out]; rfl, B1.out⟩
        · have hne : s.data.toList ≠ [] := fun e => by rw [e] at hl; simp at hl; omega
          have e1 : s.toList.isEmpty = false := by
            rw [ByteArray.toList_eq]
            cases hc : s.data.toList with
            | nil => exact absurd hc hne
            | cons => rfl
          have HP := Lib.hid (show parse4 s.data.toList = if valD s.data.toList ≤ 4095 then some (valD s.data.toList) else none by unfold parse4; rw [if_pos ⟨hne, by omega, hm.out⟩])
          obtain ⟨v, hv⟩ : ∃ v, v = valD s.data.toList := ⟨_, rfl⟩
          rw [← hv] at HP HVL ⊢
          by_cases h5 : v ≤ 4095
          · have q1 : ¬ (4095 : Int) < v := by omega
            have hr := Lib.hid (show parse4 s.data.toList = some v by rw [HP.out, if_pos h5])
            have hw : IntKind.u32.wrap (v : Int) = v := by rw [IntKind.wrap_u32]; omega
            clear hne HP hv HVL hpw hl h5
            go_wp2
            go_ret2
            exact ⟨by rw [HEV.out, HV.out, hr.out]; simp, B1.out⟩
          · have q1 : (4095 : Int) < v := by omega
            have hr := Lib.hid (show parse4 s.data.toList = none by rw [HP.out, if_neg h5])
            clear hne HP hv HVL hpw hl h5
            go_wp2
            go_ret2
            exact ⟨by rw [HEV.out, HV.out, hr.out]; rfl, B1.out⟩
end Go.Proofs.YtfmfjnnbldmdlaaDoor
