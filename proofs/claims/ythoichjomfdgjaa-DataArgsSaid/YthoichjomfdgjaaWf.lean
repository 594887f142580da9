/- What the function Cat of the package words returns, of slices that read as lists of bytes: all of them, one behind the other, in new memory. Condition: the lengths together are at most 2 to the 46th. -/
import Derived.Test.YthoichjomfdgjaaWe
namespace Go.Proofs.Ythoichjomfdgjaa
open Go.RowKit
set_option linter.unusedVariables false

theorem RdL.news {w : World} {B : Nat} {q : Option Addr} {c : Nat} {xs : List Int} (h : Rd w B q xs) (hq : q = none → c = 0) :
    (q = none → xs.length = 0 ∧ c = 0) ∧ ∀ ad, q = some ad → ∀ j u, (bv xs)[j]? = some u → w.cell? (ad.add j) = some u := by
  refine ⟨fun e => ⟨?_, hq e⟩, fun ad e j u hu => ?_⟩
  · rcases Nat.eq_zero_or_pos xs.length with h0 | h0
    · exact h0
    · obtain ⟨b, o, e', _⟩ := h h0
      rw [e] at e'; cases e'
  · have hj : j < xs.length := by
      have := (List.getElem?_eq_some_iff.1 hu).1
      rwa [bv_length] at this
    obtain ⟨ad', e', hc⟩ := h.news (by rw [bv_length]; omega)
    rw [e] at e'
    obtain rfl := Option.some.inj e'
    exact hc j u hu
set_option maxHeartbeats 1000000 in
theorem Cat_any (p : Option Addr) (m c : Nat) (xss : List (List Int)) (w : World) (hx : xss.length = m) (hm : m ≤ 70368744177664) (ht : xss.flatten.length ≤ 70368744177664) (h : RdL w w.heap.size p xss) :
    Calls Try.prog 23 #[.slice p m c] w fun e w' => ∃ g, e = .returned (.slice (some ⟨g, 0, none⟩) xss.flatten.length xss.flatten.length) ∧
      w'.ownsRow w.heap.size 5 1 (.slice (some ⟨g, 0, none⟩) xss.flatten.length xss.flatten.length) xss.flatten.length (bv xss.flatten) ∧ Below w.heap.size w w' := by
  obtain ⟨i0, hi, hz0, hz1, hz2⟩ := info_parts u8_zero
  obtain ⟨tot, hT⟩ : ∃ tot, tot = xss.flatten.length := ⟨_, rfl⟩
  have hle := fun k => Nat.le_trans (lenL_le xss k) (Nat.le_of_eq hT.symm)
  rw [← hT] at ht ⊢
  have hm0 : i0.bytes * tot ≤ 281474976710656 := by rw [hz2]; omega
  have hm1 : tot ≤ maxLen := by unfold maxLen; omega
  have HT := Lib.hid hT
  have HL := Lib.hid hle
  have HX := Lib.hid hx
  have HZ := Lib.hid hi
  have H0 := Lib.hid hz0
  have H1 := Lib.hid hz1
  have HR := Lib.hid h
  clear hT hle hx hi hz0 hz1 hz2 h
  go_enter Try.func23, Try.ntmps23
  go_wp2_with fail
  go_loop [3, 5, 11] (fun n _ i => ∃ k : Nat, k ≤ m ∧ i = .int .i64 k ∧ ∃ l : Nat, n = .int .i64 l ∧ Hid (l = lenL xss k)) (fun _ _ i => m - (intOf i).toNat)
  case atStart => exact ⟨0, Nat.zero_le _, rfl, 0, rfl, rfl⟩
  case round =>
    obtain ⟨k, hk, rfl, l, rfl, hl⟩ := hrel
    have hll : l ≤ tot := by have := hl.out; have := HL.out k; omega
    by_cases hlt : k < m
    · obtain ⟨b, o, rfl, hb, hc⟩ := HR.out (by have := HX.out; omega)
      obtain ⟨q, cq, h1, h2, h3⟩ := hc k (by have := HX.out; omega)
      obtain ⟨lk, hlk⟩ : ∃ lk, lk = (xss.getD k []).length := ⟨_, rfl⟩
      rw [← hlk] at h1
      have hst := Lib.hid (show l + lk = lenL xss (k + 1) by rw [lenL_step (by have := HX.out; omega), hl.out, hlk])
      have hl2 : l + lk ≤ tot := by have := hst.out; have := HL.out (k + 1); omega
      have hl3 : (l : Int) + lk ≤ 70368744177664 := by omega
      clear hlk hc h2 h3
      go_wp2_with fail
      go_round
      case rel => exact ⟨k + 1, by omega, by go_num, l + lk, by go_num, hst.out⟩
      case measure => simp [intOf]; omega
    · obtain rfl : k = m := by omega
      obtain rfl : l = tot := by rw [hl.out, HT.out, lenL_all (by rw [HX.out]; exact Nat.le_refl _)]
      clear hll hl
      go_wp2_with (at_make
                   refine wpList_make_own _ rfl _ _ 27 rfl w.heap.size 5 i0 _ 1 Try.underlying27 HZ.out H0.out H1.out .i64 .i64 l l rfl rfl rfl hm0 hm1 (Nat.le_refl _) ?_
                   intro w1 hown hg
                   have hb : Below w.heap.size w w1 := (Below.refl _ _).grown hg (Nat.le_refl _) (by intro k hk; cases hk)
                   clear hg)
      go_loopw [6, 8, 24] (fun v _ i wr => ∃ j : Nat, j ≤ k ∧ i = .int .i64 j ∧ (∃ s : Nat, Hid (s = lenL xss j) ∧ v = .slice (some ⟨w.heap.size, 0, none⟩) s l ∧
          wr.ownsRow w.heap.size 5 1 (.slice (some ⟨w.heap.size, 0, none⟩) s l) s (bv (xss.take j).flatten)) ∧ Below w.heap.size w wr) (fun _ _ i _ => k - (intOf i).toNat)
      case atStart => exact ⟨0, Nat.zero_le _, rfl, ⟨0, rfl, rfl, hown⟩, hb⟩
      case round =>
        obtain ⟨j, hj, rfl, ⟨s, hs, rfl, hown'⟩, hb'⟩ := hrel
        clear hown hb
        by_cases hlt2 : j < k
        · obtain ⟨b, o, rfl, hb, hc⟩ := (HR.out.below hb' (Nat.le_refl _)) (by have := HX.out; omega)
          obtain ⟨q, cq, h1, h2, h3⟩ := hc j (by have := HX.out; omega)
          obtain ⟨lk, hlk⟩ : ∃ lk, lk = (xss.getD j []).length := ⟨_, rfl⟩
          rw [← hlk] at h1
          have hst := Lib.hid (show s + lk = lenL xss (j + 1) by rw [lenL_step (by have := HX.out; omega), hs.out, hlk])
          have hl2 : s + lk ≤ l := by have := hst.out; have := HL.out (j + 1); omega
          have hnw := Lib.hid (RdL.news h2 h3)
          have hfl := Lib.hid (show bv (xss.take (j + 1)).flatten = bv (xss.take j).flatten ++ bv (xss.getD j []) by rw [flat_step (by have := HX.out; omega)]; exact List.map_append ..)
          have HLK := Lib.hid (show (bv (xss.getD j [])).length = lk * 1 by rw [bv_length, hlk]; omega)
          have HN := Lib.hid (show q = none → lk = 0 ∧ cq = 0 by rw [hlk]; exact hnw.out.1)
          clear hlk hc h2 h3
          go_wp2_with (at_builtin
                       refine wpList_append_fits_any _ rfl (.tmp 28) (.tmp 29) 27 rfl w.heap.size 5 i0 1 Try.underlying27 HZ.out H1.out w.heap.size s l _ rfl hown' q lk cq (bv (xss.getD j [])) rfl HLK.out HN.out hnw.out.2 (bv_one _) hl2 ?_
                       intro w2 hown2 hg2
                       clear hown')
          go_roundw
          case rel =>
            refine ⟨j + 1, by omega, by go_num, ⟨s + lk, hst.out, rfl, ?_⟩, hb'.grown hg2 hb'.size (by intro k hk; cases hk; exact Nat.le_refl _)⟩
            rw [hfl.out]; exact hown2
          case measure => simp [intOf]; omega
        · obtain rfl : j = k := by omega
          obtain rfl : s = l := by rw [hs.out, HT.out, lenL_all (by rw [HX.out]; exact Nat.le_refl _)]
          go_wp2_with fail
          go_ret
          refine ⟨_, rfl, ?_, hb'⟩
          rw [List.take_of_length_le (by rw [HX.out]; exact Nat.le_refl _)] at hown'
          exact hown'
end Go.Proofs.Ythoichjomfdgjaa
