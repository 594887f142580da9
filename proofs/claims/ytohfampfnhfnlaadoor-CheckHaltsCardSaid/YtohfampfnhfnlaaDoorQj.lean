/- What the landed call Unsure returns, and with it all calls of cells: as the chapter says. Condition: a slice is as long as its capacity allows. -/
import Derived.Test.YtohfampfnhfnlaaDoorQi
namespace Go.Proofs.YtohfampfnhfnlaaDoor
open Go.RowKit Go.Shelf
set_option linter.unusedVariables false
attribute [local go_sem ↓] Go.wp_at_zero Go.wp_at_succ

theorem pow_and {k m : Nat} : ((2 ^ k &&& m : Nat) != 0) = m.testBit k := by
  cases h : m.testBit k with
  | true =>
    rw [bne_iff_ne]
    intro e
    have := congrArg (fun x => x.testBit k) e
    simp [Nat.testBit_and, h] at this
  | false =>
    rw [bne_eq_false_iff_eq]
    apply Nat.eq_of_testBit_eq
    intro j
    rw [Nat.zero_testBit, Nat.testBit_and, Nat.testBit_two_pow]
    by_cases e : k = j
    · subst e; rw [h, Bool.and_false]
    · rw [decide_eq_false e, Bool.false_and]
theorem unsure_test {p : List Ins} {i : Nat} {x : Ins} (h : p[i]? = some x) (hx : x.Ok) : ((readsN x &&& (65535 - sureN p i) : Nat) != 0) = unsureB p i := by
  rw [unsure_at h]
  obtain ⟨_, _, _, _, _, _, k0, _⟩ := hx
  unfold readsN
  by_cases hc : x.c = 96 ∨ x.c = 97
  · rw [if_pos hc]
    have hcb : (x.c == 96 || x.c == 97) = true := by rcases hc with h | h <;> rw [h] <;> rfl
    rw [hcb]
    unfold bitN
    by_cases hk : x.k < 16
    · rw [if_pos hk, pow_and, show 65535 - sureN p i = 2 ^ 16 - (sureN p i + 1) by omega, Nat.testBit_two_pow_sub_succ (sureN_lt p i)]
      unfold sureN
      rw [sureTo_bit, decide_eq_true (show x.k.toNat < 16 by omega), decide_eq_true hk]
      cases hu : unB p x.k.toNat i with
      | true => rw [un_reach hu]; rfl
      | false => cases reachB p i <;> rfl
    · rw [if_neg hk, Nat.zero_and, decide_eq_false hk]
      cases reachB p i <;> rfl
  · rw [if_neg hc, Nat.zero_and]
    rw [beq_eq_false_iff_ne.2 (fun e => hc (Or.inl e)), beq_eq_false_iff_ne.2 (fun e => hc (Or.inr e))]
    cases reachB p i <;> rfl
set_option maxRecDepth 100000 in
set_option maxHeartbeats 8000000 in
theorem unsure_c (a0 : Option Addr) (n cap : Nat) (p : List Ins) (w : World) (hG : GW w) (hl : p.length = n) (hok : OkL p) (hR : RdI w w.heap.size a0 p) : Calls Tryd.prog 21 #[.slice a0 n cap] w (NextTo (unsureX p) w) := by
  obtain ⟨i0, hi, hz0, hz1, hz2⟩ := info_parts int_info
  have HI := Lib.hid hi
  have H0 := Lib.hid hz0
  have H1 := Lib.hid hz1
  have H2 := Lib.hid hz2
  have HS := Lib.hid (sure_c a0 n cap p w hG hl hok hR)
  obtain ⟨m, hm⟩ : ∃ m, m = lenX n := ⟨_, rfl⟩
  have HE := Lib.hid (show unsureX p = unsureTo p m by
    rw [hm]
    unfold unsureX lenX unsureL
    rw [hl]
    split <;> rfl)
  have hmn : m ≤ n := by rw [hm]; unfold lenX; split <;> omega
  have hm4 : m ≤ 4096 := by rw [hm]; unfold lenX; split <;> omega
  rw [← hm] at HS
  have HL := Lib.hid hl
  have HP := Lib.hid hok
  have HR := Lib.hid hR
  clear hi hz0 hz1 hz2 hl hok hR hG hm
  rw [HE.out]
  clear HE
  go_enter Tryd.func21, Tryd.ntmps21
  go_wp2_with (go_at_call 32; ((with_reducible refine (HS.out).mono ?_); rintro e w1 ⟨q1, c1, rfl, o1, b1⟩); have O1 := Lib.hid o1; have B1 := Lib.hid b1; clear o1 b1)
  go_loopw [3, 9] (fun v3 v9 wr => ∃ i : Nat, i ≤ m ∧ v9 = .int .i64 i ∧ Hid (wr.ownsRow w1.heap.size 3 1 v3 (unsureTo p i).length (plV (unsureTo p i))) ∧ Hid (Below w1.heap.size w1 wr)) (fun _ v9 _ => m - (intOf v9).toNat)
  case atStart => exact ⟨0, Nat.zero_le _, rfl, Lib.hid (World.ownsRow_nil _ _ _ _), Lib.hid (Below.refl _ _)⟩
  case round =>
    clear HS
    obtain ⟨i, hi, rfl, P1, P2⟩ := hrel
    obtain ⟨W, rfl⟩ : ∃ wo : World, wo = wr := ⟨_, rfl⟩
    by_cases hlt : i < m
    · have hkl : i < p.length := by rw [HL.out]; omega
      have hS := own_on O1.out P2.out
      obtain ⟨gs, d1, e1⟩ := own_some hS (by omega)
      injection e1 with e11 e12 e13
      subst e11
      clear e12 e13
      have s1 : W.cell? ⟨gs, i, none⟩ = some (.int .u16 ((sureN p i : Nat) : Int)) := (hS.cellAt i (by omega)).trans (rowS_get _ hlt)
      have i1 : (i : Int) < m := by omega
      have i3 : (i : Int) < n := by omega
      have i2 : (0 : Int) ≤ i := by omega
      obtain ⟨x, hx⟩ : ∃ x, p[i]? = some x := ⟨_, List.getElem?_eq_getElem hkl⟩
      obtain ⟨b, o, rfl, hbB, hcs⟩ := HR.out (by omega)
      have hat := hcs i hkl
      have hxp : x = p[i] := by rw [List.getElem?_eq_getElem hkl] at hx; exact (Option.some.inj hx).symm
      rw [← hxp] at hat
      obtain ⟨q0, q1, q2, q3⟩ := (hat.keep (w' := w1) fun q hq => B1.out.cell (by omega)).keep (w' := W) fun q hq => P2.out.cell (by have := B1.out.size; omega)
      have hxo : x.Ok := HP.out x (List.mem_of_getElem? hx)
      have hrl := readsN_lt x
      have hsl : sureN p i < 65536 := sureN_lt p i
      have hut := unsure_test hx hxo
      have hbt := u16_andNot_nat (readsN x) (sureN p i) hrl hsl
      have HRD := Lib.hid (fun U => read_any x hxo U)
      have HST := Lib.hid (unsureTo_succ p i)
      have HLN := Lib.hid (unsureTo_length p i)
      obtain ⟨rd, hrd⟩ : ∃ s, s = readsN x := ⟨_, rfl⟩
      obtain ⟨sv, hsv⟩ : ∃ s, s = sureN p i := ⟨_, rfl⟩
      rw [← hsv] at s1 hut hbt
      rw [← hrd] at hut hbt HRD
      obtain ⟨y, hy⟩ : ∃ s, s = rd &&& (65535 - sv) := ⟨_, rfl⟩
      rw [← hy] at hut hbt
      clear hcs hat hxp hx hkl hS hbB hsv hrd hy hrl hsl hxo
      obtain ⟨c, jt, jf, kk⟩ := x
      simp only at q0 q1 q2 q3
      cases hub : unsureB p i with
      | false =>
        rw [hub] at hut HST
        have y0 : y = 0 := bne_eq_false_iff_eq.1 hut
        subst y0
        clear hut hub
        go_wp2_with (go_at_call 33; ((with_reducible refine (HRD.out _).mono ?_); rintro e w2 ⟨rfl, rfl⟩))
        go_roundw
        case rel => exact ⟨i + 1, by omega, by go_num, Lib.hid (by rw [HST.out, if_neg (by decide), List.append_nil]; exact P1.out.alloc _), Lib.hid (P2.out.alloc P2.out.size _)⟩
        case measure => simp [intOf]; omega
      | true =>
        rw [hub] at hut HST
        have y1 : ((y : Int) != 0) = true := by
          rw [bne_iff_ne] at hut ⊢; omega
        have y2 : ¬ (y : Int) = 0 := by rw [bne_iff_ne] at hut; omega
        have HT := Lib.hid (show unsureTo p (i + 1) = unsureTo p i ++ [i] from HST.out)
        clear hut hub HST
        obtain ⟨len, hm⟩ : ∃ m, m = (unsureTo p i).length := ⟨_, rfl⟩
        have hmi : len ≤ i := by have := HLN.out; omega
        rw [← hm] at P1
        have HM := Lib.hid hm
        clear hm HLN
        have HNW := Lib.hid (show ∀ j u, [Value.int .i64 (i : Int)][j]? = some u → ((W.alloc (.cells #[.int .u16 c, .int .u8 jt, .int .u8 jf, .int .u32 kk] 35)).alloc (.cells #[.int .i64 i] 3)).cell? ((⟨W.heap.size + 1, 0, none⟩ : Addr).add j) = some u by
          have h := cell_one_new (W.alloc (.cells #[.int .u16 c, .int .u8 jt, .int .u8 jf, .int .u32 kk] 35)) (.int .i64 (i : Int)) 3
          rwa [World.size_alloc] at h)
        have hsz := P2.out.size
        go_wp2_with (first
          | (go_at_call 33; ((with_reducible refine (HRD.out _).mono ?_); rintro e w2 ⟨rfl, rfl⟩))
          | (at_builtin
             refine wpList_append_own _ rfl (.tmp 22) (.tmp 24) 48 rfl w1.heap.size 3 i0 _ 1 8 Tryd.underlying48 HI.out H0.out H1.out H2.out rfl Nat.one_pos _ len (plV (unsureTo p i)) rfl ((P1.out.alloc _).alloc _) ⟨W.heap.size + 1, 0, none⟩ 1 1 [.int .i64 i] rfl rfl HNW.out (by intro v hv; rw [List.mem_singleton.1 hv]; rfl) (by unfold maxLen; omega) (by omega) (by rw [World.size_alloc, World.size_alloc]; omega) ?_
             intro v5 w5 o5 hg5 _
             have O5 := Lib.hid o5
             have B5 := Lib.hid (((P2.out.alloc P2.out.size _).alloc (by rw [World.size_alloc]; omega) _).grown hg5 (by rw [World.size_alloc, World.size_alloc]; omega) (fun j hj => (P1.out.lt j hj).1))
             clear o5 hg5))
        go_roundw
        case rel =>
          refine ⟨i + 1, by omega, by go_num, Lib.hid ?_, B5⟩
          have h := O5.out
          rw [HT.out, List.length_append, ← HM.out, show plV (unsureTo p i ++ [i]) = plV (unsureTo p i) ++ [.int .i64 i] by simp [plV]]
          exact h
        case measure => simp [intOf]; omega
    · obtain rfl : m = i := by omega
      obtain ⟨q, c, e⟩ := own_form P1.out
      subst e
      go_wp2_with fail
      go_ret
      exact ⟨q, c, rfl, own_base P1.out (by have := B1.out.size; omega), thn B1.out P2.out⟩
end Go.Proofs.YtohfampfnhfnlaaDoor
