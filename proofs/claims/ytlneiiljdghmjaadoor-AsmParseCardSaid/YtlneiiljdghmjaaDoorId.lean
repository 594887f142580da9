/- What the document's own Same, Copy, Decode and Parse return of instructions. Condition: the program is as long as its slice. What the document's own Decode and Parse return of bytes. Condition: at most 2 to the 40th bytes. -/
import Derived.Test.YtlneiiljdghmjaaDoorIb
import Derived.BigQuiet
import Derived.Deep.QuietTactic
import Derived.Deep.RegionHeld3
import Derived.Laws.AppendOwnNone
namespace Go.Proofs.YtlneiiljdghmjaaDoor
open Go.RowKit
set_option linter.unusedVariables false
attribute [local go_sem ↓] Go.wp_at_zero Go.wp_at_succ

set_option maxHeartbeats 800000 in
theorem refCopyI_any (p : Option Addr) (n c : Nat) (l : List Ins) (w : World) (hl : l.length = n) (hm : n ≤ 1099511627776) (hp : p = none → c = 0) (h : RdI w w.heap.size p l) :
    Calls Tryd.prog 9 #[.slice p n c] w fun e w' => ∃ q d, e = .returned (.slice q n d) ∧ (w'.ownsRow w.heap.size 33 4 (.slice q n d) n (progC l)) ∧ (q = none → d = 0) ∧ Below w.heap.size w w' := by
  obtain ⟨i0, hi, hz0, hz1, hz2⟩ := info_parts insn_info
  have HI := Lib.hid hi
  have H0 := Lib.hid hz0
  have H1 := Lib.hid hz1
  have H2 := Lib.hid hz2
  have HL := Lib.hid (show (progC l).length = n * 4 by rw [progC_length, hl])
  clear hi hz0 hz1 hz2
  rcases p with _ | ad
  · have hc := hp rfl
    have h0 : n = 0 := by
      rcases Nat.eq_zero_or_pos n with h0 | h0
      · exact h0
      · obtain ⟨b, o, e, _⟩ := h (by omega)
        cases e
    subst h0 hc
    obtain rfl : l = [] := List.eq_nil_of_length_eq_zero hl
    clear hl h hp
    go_enter Tryd.func9, Tryd.ntmps9
    go_wp2
    go_ret
    exact ⟨none, 0, rfl, World.ownsRow_nil _ _ _ _, fun _ => rfl, Below.refl _ _⟩
  · have hn : ∀ j u, (progC l)[j]? = some u → w.cell? (ad.add j) = some u := by
      intro j u hu
      by_cases h0 : 0 < l.length
      · obtain ⟨ad', e, hn⟩ := h.news h0
        obtain rfl := Option.some.inj e
        exact hn j u hu
      · obtain rfl : l = [] := List.eq_nil_of_length_eq_zero (by omega)
        simp [progC] at hu
    clear hl h hp
    go_enter Tryd.func9, Tryd.ntmps9
    go_wp2_with (at_builtin
                 refine wpList_append_own _ rfl (.tmp 4) (.tmp 5) 22 rfl w.heap.size 33 i0 _ 4 8 Tryd.underlying22 HI.out H0.out H1.out H2.out rfl (by omega) (.slice none 0 0) 0 [] rfl (World.ownsRow_nil _ _ _ _) ad n c (progC l) rfl HL.out hn (progC_one l) (by unfold maxLen; omega) (by omega) (Nat.le_refl _) ?_
                 intro v2 w2 o2 hg2 _)
    rw [List.nil_append, Nat.zero_add] at o2
    obtain ⟨q, d, rfl, hr, hq, _⟩ := own_shapeI o2
    go_ret
    exact ⟨q, d, rfl, o2, hq, (Below.refl _ _).grown hg2 (Nat.le_refl _) (fun g hg => by cases hg)⟩

theorem ins_cases (c1 c2 t1 t2 f1 f2 k1 k2 : Int) : (c1 = c2 ∧ t1 = t2 ∧ f1 = f2 ∧ k1 = k2) ∨ c1 ≠ c2 ∨ (c1 = c2 ∧ t1 ≠ t2) ∨ (c1 = c2 ∧ t1 = t2 ∧ f1 ≠ f2) ∨ (c1 = c2 ∧ t1 = t2 ∧ f1 = f2 ∧ k1 ≠ k2) := by omega
theorem takeI_step {xs ys : List Ins} {k : Nat} (h : xs.take k = ys.take k) (hx : k < xs.length) (hy : k < ys.length) (e : xs[k] = ys[k]) : xs.take (k + 1) = ys.take (k + 1) := by
  rw [List.take_add_one, List.take_add_one, h, List.getElem?_eq_getElem hx, List.getElem?_eq_getElem hy, e]
set_option maxHeartbeats 1600000 in
theorem refSameI_any (p q : Option Addr) (n c m d B B' : Nat) (xs ys : List Ins) (w : World) (hx : xs.length = n) (hy : ys.length = m) (hm : n ≤ 9223372036854775807) (hm' : m ≤ 9223372036854775807) (h : RdI w B p xs) (k : RdI w B' q ys) :
    Calls Tryd.prog 13 #[.slice p n c, .slice q m d] w fun e w' => e = .returned (.bool (sameI xs ys)) ∧ ∃ j, w' = w.drewN j := by
  by_cases hnm : n = m
  · subst hnm
    by_cases h0 : n = 0
    · subst h0
      obtain rfl : xs = [] := List.eq_nil_of_length_eq_zero hx
      obtain rfl : ys = [] := List.eq_nil_of_length_eq_zero hy
      clear h k
      go_enter Tryd.func13, Tryd.ntmps13
      go_wp2
      refine wp_loop_rounds 1 ?_
      rw [rounds_succ]
      go_wp2
      go_ret
      exact ⟨by rw [sameI_true rfl]; rfl, 0, rfl⟩
    · obtain ⟨b1, o1, rfl, _, hc1⟩ := h (by omega)
      obtain ⟨b2, o2, rfl, _, hc2⟩ := k (by omega)
      have HX := Lib.hid hx
      have HY := Lib.hid hy
      have HC1 := Lib.hid hc1
      have HC2 := Lib.hid hc2
      clear hx hy hc1 hc2
      go_enter Tryd.func13, Tryd.ntmps13
      go_wp2
      go_loopw [5] (fun i wr => ∃ k : Nat, k ≤ n ∧ i = .int .i64 k ∧ Hid (xs.take k = ys.take k) ∧ ∃ j, wr = w.drewN j) (fun i _ => n - (intOf i).toNat)
      case atStart => exact ⟨0, by omega, rfl, rfl, 0, rfl⟩
      case round =>
        obtain ⟨k, hk, rfl, HT, j, rfl⟩ := hrel
        by_cases hlt : k < n
        · have kx : k < xs.length := by have := HX.out; omega
          have ky : k < ys.length := by have := HY.out; omega
          have A := HC1.out k kx
          have B := HC2.out k ky
          obtain ⟨i, hi⟩ : ∃ i, i = xs[k] := ⟨_, rfl⟩
          obtain ⟨i', hi'⟩ : ∃ i, i = ys[k] := ⟨_, rfl⟩
          rw [← hi] at A
          rw [← hi'] at B
          have HXY := Lib.hid (show i = i' → xs.take (k + 1) = ys.take (k + 1) from fun e => takeI_step HT.out kx ky (by rw [← hi, ← hi', e]))
          have HNE := Lib.hid (show i ≠ i' → sameI xs ys = false from fun hne => sameI_false (fun e => hne (by subst e; rw [hi, hi'])))
          clear hi hi' kx ky
          obtain ⟨c1, t1, f1, k1⟩ := i
          obtain ⟨c2, t2, f2, k2⟩ := i'
          obtain ⟨a0, a1, a2, a3⟩ := A
          obtain ⟨b0, b4, b5, b6⟩ := B
          have k0 : (0 : Int) ≤ k := by omega
          have k9 : (k : Int) < n := by omega
          rcases ins_cases c1 c2 t1 t2 f1 f2 k1 k2 with hxy | hne | ⟨rfl, hne⟩ | ⟨rfl, rfl, hne⟩ | ⟨rfl, rfl, rfl, hne⟩
          · obtain ⟨rfl, rfl, rfl, rfl⟩ := hxy
            have hs := Lib.hid (HXY.out rfl)
            clear HXY HNE
            go_wp2_with fail
            go_quiet (fail)
            go_wp2
            go_roundw
            case rel => exact ⟨k + 1, by omega, by go_num, hs.out, _, rfl⟩
            case measure => simp [intOf]; omega
          · have hs := Lib.hid (HNE.out (by intro e; injection e with e1 e2 e3 e4; exact hne e1))
            have hb := beq_eq_false_iff_ne.2 hne
            clear HXY HNE hne
            go_wp2_with fail
            go_quiet (fail)
            go_wp2
            go_ret
            exact ⟨by rw [hs.out]; rfl, _, World.drewN_drewN _ _ _⟩
          · have hs := Lib.hid (HNE.out (by intro e; injection e with e1 e2 e3 e4; exact hne e2))
            have hb := beq_eq_false_iff_ne.2 hne
            clear HXY HNE hne
            go_wp2_with fail
            go_quiet (fail)
            go_wp2
            go_ret
            exact ⟨by rw [hs.out]; rfl, _, World.drewN_drewN _ _ _⟩
          · have hs := Lib.hid (HNE.out (by intro e; injection e with e1 e2 e3 e4; exact hne e3))
            have hb := beq_eq_false_iff_ne.2 hne
            clear HXY HNE hne
            go_wp2_with fail
            go_quiet (fail)
            go_wp2
            go_ret
            exact ⟨by rw [hs.out]; rfl, _, World.drewN_drewN _ _ _⟩
          · have hs := Lib.hid (HNE.out (by intro e; injection e with e1 e2 e3 e4; exact hne e4))
            have hb := beq_eq_false_iff_ne.2 hne
            clear HXY HNE hne
            go_wp2_with fail
            go_quiet (fail)
            go_wp2
            go_ret
            exact ⟨by rw [hs.out]; rfl, _, World.drewN_drewN _ _ _⟩
        · obtain rfl : k = n := by omega
          go_wp2
          go_ret
          refine ⟨?_, _, rfl⟩
          have e : xs = ys := by
            have := HT.out
            have e1 := HX.out
            have e2 := HY.out
            rwa [List.take_of_length_le (by omega), List.take_of_length_le (by omega)] at this
          rw [sameI_true e]
          rfl
  · have hne : sameI xs ys = false := sameI_false (fun e => hnm (by rw [← hx, ← hy, e]))
    rw [hne]
    have ht : ((n : Int) != (m : Int)) = true := by simp; omega
    clear hx hy h k hne
    go_enter Tryd.func13, Tryd.ntmps13
    go_wp2
    go_ret
    exact ⟨rfl, 0, rfl⟩
end Go.Proofs.YtlneiiljdghmjaaDoor
namespace Go.Proofs.YtlneiiljdghmjaaDoor
open Go.RowKit
set_option linter.unusedVariables false
attribute [local go_sem ↓] Go.wp_at_zero Go.wp_at_succ

theorem insC_one (i : Ins) : ∀ v ∈ insC i, v.oneCell' = true := by
  intro v hi
  simp only [insC, List.mem_cons, List.not_mem_nil, or_false] at hi
  rcases hi with rfl | rfl | rfl | rfl <;> rfl
end Go.Proofs.YtlneiiljdghmjaaDoor
