/- The statement CheckMore holds, over what the calls have to return: two taken programs, one behind the other, are taken; a taken one ends with an answer, and is not taken without it. -/
import Derived.Test.YtohfampfnhfnlaaDoorRows
import Derived.Test.YtohfampfnhfnlaaDoorCards
import Derived.Test.YtohfampfnhfnlaaDoorTie
import Derived.SevenTiedAt
import Derived.Test.YtohfampfnhfnlaaDoorWd
import Derived.Test.YtohfampfnhfnlaaDoorLw
import Derived.Test.YtohfampfnhfnlaaDoorUc
import Derived.Test.YtohfampfnhfnlaaDoorSa
import Derived.Test.YtohfampfnhfnlaaDoorId
import Derived.Deep.RegionHeld3
import Derived.BigQuiet
import Derived.Deep.QuietTactic
import Derived.Test.YtohfampfnhfnlaaDoorSo
namespace Go.Proofs.YtohfampfnhfnlaaDoor.checkMore
open Go.ChangeShapes Go.WideShapes Go.ChangeAt Go.RowKit
open Go.ChangeMaps (open_string shut_string)
set_option linter.unusedVariables false
attribute [local go_sem ↓] Go.wp_at_zero Go.wp_at_succ
theorem at_news {w : World} {B : Nat} {p : Option Addr} {l : List Ins} (h : RdI w B p l) : ∀ ad, p = some ad → ∀ j u, (progC l)[j]? = some u → w.cell? (ad.add j) = some u := by
  intro ad he j u hu
  have hn : 0 < l.length := by
    rcases Nat.eq_zero_or_pos l.length with h0 | h0
    · obtain rfl : l = [] := List.eq_nil_of_length_eq_zero h0
      simp [progC] at hu
    · exact h0
  obtain ⟨ad', he', hc⟩ := h.news hn
  rw [he] at he'
  injection he' with he'
  subst he'
  exact hc j u hu
theorem none_len {w : World} {B n c : Nat} {p : Option Addr} {l : List Ins} (h : RdI w B p l) (hl : l.length = n) (hp : p = none → c = 0) : p = none → n = 0 ∧ c = 0 := by
  intro he
  refine ⟨?_, hp he⟩
  rcases Nat.eq_zero_or_pos l.length with h0 | h0
  · omega
  · obtain ⟨ad', he', hc⟩ := h.news h0
    rw [he] at he'; cases he'
theorem own_most {w : World} {B n size d : Nat} {e : TypeId} {p : Option Addr} {xs : List Value} (h : w.ownsRow B e size (.slice p n d) n xs) : n ≤ d ∧ d ≤ maxLen := by
  rcases h.2 with ⟨hv, hn⟩ | ⟨g, cap, cur, hv, hg, hh, hc, hm, r⟩
  · injection hv with h1 h2 h3
    subst h3 hn
    exact ⟨Nat.le_refl _, Nat.zero_le _⟩
  · injection hv with h1 h2 h3
    subst h3
    exact ⟨hc, hm⟩
theorem cell_at {w : World} {B b o : Nat} {l : List Ins} (h : RdI w B (some ⟨b, o, none⟩) l) {n : Nat} (hn : n < l.length) : w.cell? ⟨b, o + n * 4, none⟩ = some (.int .u16 (l[n]).c) := by
  obtain ⟨b', o', he, _, hc⟩ := h (by omega)
  injection he with he
  injection he with h1 h2 _
  subst h1 h2
  exact (hc n hn).a0
theorem rd_take {w : World} {B b o : Nat} {l : List Ins} (h : RdI w B (some ⟨b, o, none⟩) l) (n : Nat) : RdI w B (some ⟨b, o, none⟩) (l.take n) := fun h0 => by
  rw [List.length_take] at h0
  obtain ⟨b', o', he, hb, hc⟩ := h (by omega)
  refine ⟨b', o', he, hb, fun k hk => ?_⟩
  have hk' : k < l.length := by rw [List.length_take] at hk; omega
  have := hc k hk'
  rw [List.getElem_take]
  exact this
theorem last_take {l : List Ins} {n : Nat} (h : n + 1 ≤ l.length) : lastC (l.take (n + 1)) = clsI (l[n]'(by omega)).c := by
  unfold lastC
  rw [List.length_take, Nat.min_eq_left h, Nat.add_sub_cancel, List.getElem?_take_of_lt (by omega), List.getElem?_eq_getElem (by omega)]
theorem last_at {l : List Ins} {n : Nat} (h : l.length = n + 1) : lastC l = clsI (l[n]'(by omega)).c := by
  unfold lastC
  rw [show l.length - 1 = n by omega, List.getElem?_eq_getElem (by omega)]
theorem okl_take {l : List Ins} (h : OkL l) (n : Nat) : OkL (l.take n) := fun x hx => h x (List.mem_of_mem_take hx)
/-- What insn.Of has to return. -/
def OfG (G : World → Prop) : Prop := ∀ (c : Int) (w : World), G w → 0 ≤ c → c < 65536 → Calls Tryd.prog 20 #[.int .u16 c] w fun e w' => e = .returned (.int .u8 (clsI c)) ∧ Below w.heap.size w w'
set_option maxRecDepth 100000 in
set_option maxHeartbeats 32000000 in
theorem walk {G : World → Prop} (HC : CheckC G) (HF : OfG G) (a0 : Option Addr) (len0 cap0 : Nat) (z0 : List Ins) (a1 : Option Addr) (len1 cap1 : Nat) (z1 : List Ins) (w : World) (hG : G w) (w0 : IsInsns w a0 len0 cap0 z0) (w1 : IsInsns w a1 len1 cap1 z1) :
    Calls Tryd.prog 8 #[.slice a0 len0 cap0, .slice a1 len1 cap1] w fun e w' => e = .returned (.bool true) ∧ Below w.heap.size w w' := by
  have HA := Lib.hid (awake6_any HC w hG)
  by_cases c1 : (300 : Int) < len0
  · clear HC HF hG w0 w1
    go_enter Tryd.func8, Tryd.ntmps8
    go_wp2_with (first
      | (go_at_call 17; ((with_reducible refine (HA.out).mono ?_); rintro e v1 ⟨rfl, b1⟩)))
    go_ret
    exact ⟨rfl, b1⟩
  by_cases c2 : (300 : Int) < len1
  · clear HC HF hG w0 w1
    go_enter Tryd.func8, Tryd.ntmps8
    go_wp2_with (first
      | (go_at_call 17; ((with_reducible refine (HA.out).mono ?_); rintro e v1 ⟨rfl, b1⟩)))
    go_ret
    exact ⟨rfl, b1⟩
  have HON := Lib.hid (fun (w w' : World) => HC.on (w := w) (w' := w'))
  have HG0 := Lib.hid hG
  have R0 := Lib.hid w0.rd
  have T0 := Lib.hid w1.rd
  have HCA := Lib.hid (fun (W : World) (g : G W) (h : RdI W W.heap.size a0 z0) => HC.check_ a0 len0 cap0 z0 W g w0.size w0.ok w0.fits w0.most w0.nil h)
  have HCB := Lib.hid (fun (W : World) (g : G W) (h : RdI W W.heap.size a1 z1) => HC.check_ a1 len1 cap1 z1 W g w1.size w1.ok w1.fits w1.most w1.nil h)
  by_cases c3 : (atL z0).2 = 0
  case neg =>
    obtain ⟨y, hy⟩ : ∃ y, y = (atL z0).2 := ⟨_, rfl⟩
    rw [← hy] at HCA c3
    have t1 : (y != 0) = true := by simp [c3]
    clear HC HF hG w0 w1 hy HCB T0
    go_enter Tryd.func8, Tryd.ntmps8
    go_wp2_with (first
      | (go_at_call 17; ((with_reducible refine (HA.out).mono ?_); rintro e v1 ⟨rfl, b1⟩); have G1 := HON.out _ _ HG0.out b1; have R1 := R0.out.on b1)
      | (go_at_call 13; ((with_reducible refine (HCA.out _ G1 R1).mono ?_); rintro e v2 ⟨rfl, b2⟩); have B2 := thn b1 b2))
    go_ret
    exact ⟨rfl, B2⟩
  rw [c3] at HCA
  by_cases c4 : (atL z1).2 = 0
  case neg =>
    obtain ⟨y, hy⟩ : ∃ y, y = (atL z1).2 := ⟨_, rfl⟩
    rw [← hy] at HCB c4
    have t1 : (y != 0) = true := by simp [c4]
    clear HC HF hG w0 w1 hy
    go_enter Tryd.func8, Tryd.ntmps8
    go_wp2_with (first
      | (go_at_call 17; ((with_reducible refine (HA.out).mono ?_); rintro e v1 ⟨rfl, b1⟩); have G1 := HON.out _ _ HG0.out b1; have R1 := R0.out.on b1; have T1 := T0.out.on b1)
      | (go_at_call 13; ((with_reducible refine (HCA.out _ G1 R1).mono ?_); rintro e v2 ⟨rfl, b2⟩); have B2 := thn b1 b2; have G2 := HON.out _ _ G1 b2; have R2 := R1.on b2; have T2 := T1.on b2)
      | (go_at_call 13; ((with_reducible refine (HCB.out _ G2 T2).mono ?_); rintro e v3 ⟨rfl, b3⟩); have B3 := thn B2 b3))
    go_ret
    exact ⟨rfl, B3⟩
  rw [c4] at HCB
  obtain ⟨⟨p1, _⟩, _, p2, _⟩ := atL_ok.1 c3
  have hsz := w0.size
  obtain ⟨m, hm⟩ : ∃ m, z0.length = m + 1 := ⟨z0.length - 1, by omega⟩
  have hml : m < z0.length := by omega
  obtain ⟨b, o, rfl, _, _⟩ := w0.rd p1
  rw [last_at hm] at p2
  have okx := w0.ok.get hml
  have HO1 := Lib.hid (fun (W : World) (g : G W) => HF (z0[m]).c W g okx.c0 okx.c1)
  rw [p2] at HO1
  have HB1 := Lib.hid (fun (W : World) (h : RdI W W.heap.size (some ⟨b, o, none⟩) z0) => cell_at h hml)
  obtain ⟨c, hc⟩ : ∃ c, c = (z0[m]).c := ⟨_, rfl⟩
  rw [← hc] at HO1 HB1
  obtain ⟨i0, ki, kz0, kz1, kz2⟩ := info_parts insn_info
  have KI := Lib.hid ki
  have K0 := Lib.hid kz0
  have K1 := Lib.hid kz1
  have km : i0.bytes * (len0 + len1) ≤ 281474976710656 := by rw [kz2]; omega
  have kc : len0 + len1 ≤ maxLen := by unfold maxLen; omega
  have ok2 : OkL (z0 ++ z1) := fun x hx => (List.mem_append.1 hx).elim (w0.ok x) (w1.ok x)
  have hl2 : (z0 ++ z1).length = len0 + len1 := by rw [List.length_append, w0.size, w1.size]
  have HCC := Lib.hid (fun (W : World) (q : Nat) (d : Nat) (g : G W) (h1 : len0 + len1 ≤ d) (h2 : d ≤ maxLen) (h : RdI W W.heap.size (some ⟨q, 0, none⟩) (z0 ++ z1)) => HC.check_ (some ⟨q, 0, none⟩) (len0 + len1) d (z0 ++ z1) W g hl2 ok2 h1 h2 (fun h => by cases h) h)
  rw [taken_app w0.ok c3 c4 (by rw [w0.size, w1.size]; omega)] at HCC
  have N0 := Lib.hid (none_len w0.rd w0.size w0.nil)
  have N1 := Lib.hid (none_len w1.rd w1.size w1.nil)
  have L0 := Lib.hid (show (progC z0).length = len0 * 4 by rw [progC_length, w0.size])
  have L1 := Lib.hid (show (progC z1).length = len1 * 4 by rw [progC_length, w1.size])
  have e0 : (0 : Int) ≤ len0 := by omega
  have e1 : (0 : Int) ≤ len1 := by omega
  have e2 : (len0 : Int) ≤ 300 := by omega
  have e3 : (len1 : Int) ≤ 300 := by omega
  have e4 : ((len0 : Int) == 0) = false := by simp; omega
  have e5 : (len0 : Int) - 1 = m := by omega
  have e6 : (m : Int) < len0 := by omega
  have e7 : (0 : Int) ≤ m := by omega
  have e8 : ((len0 : Int) != 0) = true := by simp; omega
  by_cases hone : len0 = 1
  · have f1 : ¬ (1 : Int) < len0 := by omega
    clear hone
    clear HC HF hG w0 w1 ki kz0 kz1 kz2 ok2 hl2 hc okx p1 p2 c3 c4 hsz hm hml
    go_enter Tryd.func8, Tryd.ntmps8
    go_wp2_with (first
      | (go_at_call 17; ((with_reducible refine (HA.out).mono ?_); rintro e v1 ⟨rfl, b1⟩); have G1 := HON.out _ _ HG0.out b1; have R1 := R0.out.on b1; have T1 := T0.out.on b1)
      | (go_at_call 13; ((with_reducible refine (HCA.out _ G1 R1).mono ?_); rintro e v2 ⟨rfl, b2⟩); have B2 := thn b1 b2; have G2 := HON.out _ _ G1 b2; have R2 := R1.on b2; have T2 := T1.on b2)
      | (go_at_call 13; ((with_reducible refine (HCB.out _ G2 T2).mono ?_); rintro e v3 ⟨rfl, b3⟩); have B3 := thn B2 b3; have G3 := HON.out _ _ G2 b3; have R3 := R2.on b3; have T3 := T2.on b3)
      | ((with_reducible show wpList _ _ _ (⟨some 31, _, _, _, _, _⟩ :: _) _ _)
         refine wpList_make_own _ rfl _ _ 22 rfl v3.heap.size 35 i0 _ 4 Tryd.underlying22 KI.out K0.out K1.out .i64 .i64 ((len0 : Int) + (len1 : Int)) (len0 + len1) rfl rfl (by omega) km kc (Nat.le_refl _) ?_
         intro v4 o4 g4
         have b4 : Below v3.heap.size v3 v4 := (Below.refl _ _).grown g4 (Nat.le_refl _) (by intro k hk; cases hk)
         have R4 := R3.below b4 (Nat.le_refl _)
         have T4 := T3.below b4 (Nat.le_refl _))
      | ((with_reducible show wpList _ _ _ (⟨some 34, _, _, _, _, _⟩ :: _) _ _)
         refine wpList_append_fits_any _ rfl (.tmp 32) (.tmp 33) 22 rfl v3.heap.size 35 i0 4 Tryd.underlying22 KI.out K1.out v3.heap.size 0 (len0 + len1) [] rfl o4 (some ⟨b, o, none⟩) len0 cap0 (progC z0) rfl L0.out N0.out (at_news R4) (progC_one _) (by omega) ?_
         intro v5 o5 g5
         rw [Nat.zero_add, List.nil_append] at o5
         have b5 : Below v3.heap.size v3 v5 := b4.trans ((Below.refl _ _).grown g5 b4.size (by intro k hk; cases hk; exact Nat.le_refl _))
         have T5 := T3.below b5 (Nat.le_refl _))
      | ((with_reducible show wpList _ _ _ (⟨some 37, _, _, _, _, _⟩ :: _) _ _)
         refine wpList_append_fits_any _ rfl (.tmp 35) (.tmp 36) 22 rfl v3.heap.size 35 i0 4 Tryd.underlying22 KI.out K1.out v3.heap.size len0 (len0 + len1) (progC z0) rfl o5 a1 len1 cap1 (progC z1) rfl L1.out N1.out (at_news T5) (progC_one _) (by omega) ?_
         intro v6 o6 g6
         rw [← progC_app] at o6
         have b6 : Below v3.heap.size v3 v6 := b5.trans ((Below.refl _ _).grown g6 b5.size (by intro k hk; cases hk; exact Nat.le_refl _))
         have G6 := HON.out _ _ G3 b6
         have R6 := R3.on b6
         have B6 := thn B3 b6
         have M6 := Lib.hid (own_most o6)
         have S6 : RdI v6 v6.heap.size (some ⟨v3.heap.size, 0, none⟩) (z0 ++ z1) := (by obtain ⟨_, _, hv, h2, _⟩ := own_shapeI o6; injection hv with h1 _ _; rw [h1]; exact h2)
         clear o6 g6)
      | (go_at_call 13; ((with_reducible refine (HCC.out _ _ _ G6 M6.out.1 M6.out.2 S6).mono ?_); rintro e v7 ⟨rfl, b7⟩); have G7 := HON.out _ _ G6 b7; have R7 := R6.on b7; have B7 := thn B6 b7; have s7 := HB1.out _ R7)
      | (go_at_call 20; ((with_reducible refine (HO1.out _ G7).mono ?_); rintro e v8 ⟨rfl, b8⟩); have B8 := thn B7 b8))
    go_ret
    exact ⟨rfl, B8⟩
  · obtain ⟨k, hk⟩ : ∃ k, m = k + 1 := ⟨m - 1, by omega⟩
    subst hk
    have hkl : k < z0.length := by omega
    have oky := w0.ok.get hkl
    have f1 : (1 : Int) < len0 := by omega
    have f2 : (len0 : Int) - 2 = k := by omega
    have f3 : (k : Int) < len0 := by omega
    have f4 : (0 : Int) ≤ k := by omega
    have f5 : (((k + 1 : Nat) : Nat) : Int) ≤ cap0 := by have := w0.fits; omega
    have HO2 := Lib.hid (fun (W : World) (g : G W) => HF (z0[k]).c W g oky.c0 oky.c1)
    have HB2 := Lib.hid (fun (W : World) (h : RdI W W.heap.size (some ⟨b, o, none⟩) z0) => cell_at h hkl)
    have HUN := Lib.hid (fun (h : clsI (z0[k]).c ≠ 5) => untaken_last (p := z0.take (k + 1)) (by rw [last_take (by omega)]; exact h))
    have HCT := Lib.hid (fun (W : World) (g : G W) (h : RdI W W.heap.size (some ⟨b, o, none⟩) z0) => HC.check_ (some ⟨b, o, none⟩) (k + 1) cap0 (z0.take (k + 1)) W g (by rw [List.length_take]; omega) (okl_take w0.ok _) (by have := w0.fits; omega) w0.most (fun h => by cases h) (rd_take h _))
    obtain ⟨c', hc'⟩ : ∃ c', c' = (z0[k]).c := ⟨_, rfl⟩
    obtain ⟨y, hy⟩ : ∃ y, y = (atL (z0.take (k + 1))).2 := ⟨_, rfl⟩
    rw [← hc'] at HO2 HB2 HUN
    rw [← hy] at HCT HUN
    obtain ⟨t, ht⟩ : ∃ t, t = clsI c' := ⟨_, rfl⟩
    rw [← ht] at HO2 HUN
    clear HC HF hG w0 w1 ki kz0 kz1 kz2 ok2 hl2 hc okx p1 p2 c3 c4 hsz hm hml oky hkl hc' hy ht
    by_cases h5 : t = 5
    · subst h5
      clear HUN
      go_enter Tryd.func8, Tryd.ntmps8
      go_wp2_with (first
        | (go_at_call 17; ((with_reducible refine (HA.out).mono ?_); rintro e v1 ⟨rfl, b1⟩); have G1 := HON.out _ _ HG0.out b1; have R1 := R0.out.on b1; have T1 := T0.out.on b1)
        | (go_at_call 13; ((with_reducible refine (HCA.out _ G1 R1).mono ?_); rintro e v2 ⟨rfl, b2⟩); have B2 := thn b1 b2; have G2 := HON.out _ _ G1 b2; have R2 := R1.on b2; have T2 := T1.on b2)
        | (go_at_call 13; ((with_reducible refine (HCB.out _ G2 T2).mono ?_); rintro e v3 ⟨rfl, b3⟩); have B3 := thn B2 b3; have G3 := HON.out _ _ G2 b3; have R3 := R2.on b3; have T3 := T2.on b3)
        | ((with_reducible show wpList _ _ _ (⟨some 31, _, _, _, _, _⟩ :: _) _ _)
           refine wpList_make_own _ rfl _ _ 22 rfl v3.heap.size 35 i0 _ 4 Tryd.underlying22 KI.out K0.out K1.out .i64 .i64 ((len0 : Int) + (len1 : Int)) (len0 + len1) rfl rfl (by omega) km kc (Nat.le_refl _) ?_
           intro v4 o4 g4
           have b4 : Below v3.heap.size v3 v4 := (Below.refl _ _).grown g4 (Nat.le_refl _) (by intro k hk; cases hk)
           have R4 := R3.below b4 (Nat.le_refl _)
           have T4 := T3.below b4 (Nat.le_refl _))
        | ((with_reducible show wpList _ _ _ (⟨some 34, _, _, _, _, _⟩ :: _) _ _)
           refine wpList_append_fits_any _ rfl (.tmp 32) (.tmp 33) 22 rfl v3.heap.size 35 i0 4 Tryd.underlying22 KI.out K1.out v3.heap.size 0 (len0 + len1) [] rfl o4 (some ⟨b, o, none⟩) len0 cap0 (progC z0) rfl L0.out N0.out (at_news R4) (progC_one _) (by omega) ?_
           intro v5 o5 g5
           rw [Nat.zero_add, List.nil_append] at o5
           have b5 : Below v3.heap.size v3 v5 := b4.trans ((Below.refl _ _).grown g5 b4.size (by intro k hk; cases hk; exact Nat.le_refl _))
           have T5 := T3.below b5 (Nat.le_refl _))
        | ((with_reducible show wpList _ _ _ (⟨some 37, _, _, _, _, _⟩ :: _) _ _)
           refine wpList_append_fits_any _ rfl (.tmp 35) (.tmp 36) 22 rfl v3.heap.size 35 i0 4 Tryd.underlying22 KI.out K1.out v3.heap.size len0 (len0 + len1) (progC z0) rfl o5 a1 len1 cap1 (progC z1) rfl L1.out N1.out (at_news T5) (progC_one _) (by omega) ?_
           intro v6 o6 g6
           rw [← progC_app] at o6
           have b6 : Below v3.heap.size v3 v6 := b5.trans ((Below.refl _ _).grown g6 b5.size (by intro k hk; cases hk; exact Nat.le_refl _))
           have G6 := HON.out _ _ G3 b6
           have R6 := R3.on b6
           have B6 := thn B3 b6
           have M6 := Lib.hid (own_most o6)
           have S6 : RdI v6 v6.heap.size (some ⟨v3.heap.size, 0, none⟩) (z0 ++ z1) := (by obtain ⟨_, _, hv, h2, _⟩ := own_shapeI o6; injection hv with h1 _ _; rw [h1]; exact h2)
           clear o6 g6)
        | (go_at_call 13; ((with_reducible refine (HCC.out _ _ _ G6 M6.out.1 M6.out.2 S6).mono ?_); rintro e v7 ⟨rfl, b7⟩); have G7 := HON.out _ _ G6 b7; have R7 := R6.on b7; have B7 := thn B6 b7; have s7 := HB1.out _ R7)
        | (go_at_call 20; ((with_reducible refine (HO1.out _ G7).mono ?_); rintro e v8 ⟨rfl, b8⟩); have B8 := thn B7 b8; have G8 := HON.out _ _ G7 b8; have R8 := R7.on b8; have s8 := HB2.out _ R8)
        | (go_at_call 20; ((with_reducible refine (HO2.out _ G8).mono ?_); rintro e v9 ⟨rfl, b9⟩); have B9 := thn B8 b9; have G9 := HON.out _ _ G8 b9; have R9 := R8.on b9))
      go_ret
      exact ⟨rfl, B9⟩
    · have u1 : (t != 5) = true := by simp [h5]
      have u2 : (y != 0) = true := by simp [HUN.out h5]
      clear HUN
      go_enter Tryd.func8, Tryd.ntmps8
      go_wp2_with (first
        | (go_at_call 17; ((with_reducible refine (HA.out).mono ?_); rintro e v1 ⟨rfl, b1⟩); have G1 := HON.out _ _ HG0.out b1; have R1 := R0.out.on b1; have T1 := T0.out.on b1)
        | (go_at_call 13; ((with_reducible refine (HCA.out _ G1 R1).mono ?_); rintro e v2 ⟨rfl, b2⟩); have B2 := thn b1 b2; have G2 := HON.out _ _ G1 b2; have R2 := R1.on b2; have T2 := T1.on b2)
        | (go_at_call 13; ((with_reducible refine (HCB.out _ G2 T2).mono ?_); rintro e v3 ⟨rfl, b3⟩); have B3 := thn B2 b3; have G3 := HON.out _ _ G2 b3; have R3 := R2.on b3; have T3 := T2.on b3)
        | ((with_reducible show wpList _ _ _ (⟨some 31, _, _, _, _, _⟩ :: _) _ _)
           refine wpList_make_own _ rfl _ _ 22 rfl v3.heap.size 35 i0 _ 4 Tryd.underlying22 KI.out K0.out K1.out .i64 .i64 ((len0 : Int) + (len1 : Int)) (len0 + len1) rfl rfl (by omega) km kc (Nat.le_refl _) ?_
           intro v4 o4 g4
           have b4 : Below v3.heap.size v3 v4 := (Below.refl _ _).grown g4 (Nat.le_refl _) (by intro k hk; cases hk)
           have R4 := R3.below b4 (Nat.le_refl _)
           have T4 := T3.below b4 (Nat.le_refl _))
        | ((with_reducible show wpList _ _ _ (⟨some 34, _, _, _, _, _⟩ :: _) _ _)
           refine wpList_append_fits_any _ rfl (.tmp 32) (.tmp 33) 22 rfl v3.heap.size 35 i0 4 Tryd.underlying22 KI.out K1.out v3.heap.size 0 (len0 + len1) [] rfl o4 (some ⟨b, o, none⟩) len0 cap0 (progC z0) rfl L0.out N0.out (at_news R4) (progC_one _) (by omega) ?_
           intro v5 o5 g5
           rw [Nat.zero_add, List.nil_append] at o5
           have b5 : Below v3.heap.size v3 v5 := b4.trans ((Below.refl _ _).grown g5 b4.size (by intro k hk; cases hk; exact Nat.le_refl _))
           have T5 := T3.below b5 (Nat.le_refl _))
        | ((with_reducible show wpList _ _ _ (⟨some 37, _, _, _, _, _⟩ :: _) _ _)
           refine wpList_append_fits_any _ rfl (.tmp 35) (.tmp 36) 22 rfl v3.heap.size 35 i0 4 Tryd.underlying22 KI.out K1.out v3.heap.size len0 (len0 + len1) (progC z0) rfl o5 a1 len1 cap1 (progC z1) rfl L1.out N1.out (at_news T5) (progC_one _) (by omega) ?_
           intro v6 o6 g6
           rw [← progC_app] at o6
           have b6 : Below v3.heap.size v3 v6 := b5.trans ((Below.refl _ _).grown g6 b5.size (by intro k hk; cases hk; exact Nat.le_refl _))
           have G6 := HON.out _ _ G3 b6
           have R6 := R3.on b6
           have B6 := thn B3 b6
           have M6 := Lib.hid (own_most o6)
           have S6 : RdI v6 v6.heap.size (some ⟨v3.heap.size, 0, none⟩) (z0 ++ z1) := (by obtain ⟨_, _, hv, h2, _⟩ := own_shapeI o6; injection hv with h1 _ _; rw [h1]; exact h2)
           clear o6 g6)
        | (go_at_call 13; ((with_reducible refine (HCC.out _ _ _ G6 M6.out.1 M6.out.2 S6).mono ?_); rintro e v7 ⟨rfl, b7⟩); have G7 := HON.out _ _ G6 b7; have R7 := R6.on b7; have B7 := thn B6 b7; have s7 := HB1.out _ R7)
        | (go_at_call 20; ((with_reducible refine (HO1.out _ G7).mono ?_); rintro e v8 ⟨rfl, b8⟩); have B8 := thn B7 b8; have G8 := HON.out _ _ G7 b8; have R8 := R7.on b8; have s8 := HB2.out _ R8)
        | (go_at_call 20; ((with_reducible refine (HO2.out _ G8).mono ?_); rintro e v9 ⟨rfl, b9⟩); have B9 := thn B8 b9; have G9 := HON.out _ _ G8 b9; have R9 := R8.on b9)
        | (go_at_call 13; ((with_reducible refine (HCT.out _ G9 R9).mono ?_); rintro e v10 ⟨rfl, b10⟩); have B10 := thn B9 b10))
      go_ret
      exact ⟨by first | rfl | simp [u2], B10⟩

set_option maxRecDepth 100000 in
theorem lifted (HC : CheckC GW) (HF : OfG GW) (os : Os) (started : os.Started) (H : Type) (enc : TypeId × Value → H) :
    ReturnsInHanded {} Tryd.checked os 8 .any (fun w args => (Rows.checkMoreSpec.pre enc Tryd.prog Tryd.f8 [] false w args ∧ laidMetH Tryd.prog listed w) ∧ sizedMet enc Tryd.prog Tryd.f8 (OpenSpec.ofChange Rows.checkMoreSpec) false w args)
      (Rows.checkMoreSpec.post enc Tryd.prog Tryd.f8 false true false false) := by
  refine returnsInHanded_of_change_and (C := Tryd.checked) (X := fun w _ => laidMetH Tryd.prog listed w) (fun _ _ _ hh h => h.of_heap hh) ownKnob_none started (by kernel_rfl) Tryd.func8
    (ChangeSpec.witness_shaped (enc := enc) (C := Tryd.checked) (os := os) (X := fun w _ => laidMetH Tryd.prog listed w) false (World.doorLaid Tryd.prog 400 os) #[.slice none 0 0, .slice none 0 0] 8 rfl (World.shaped_of_RefB (by kernel_rfl) (by kernel_rfl)) (by kernel_rfl) (by kernel_rfl) (by kernel_rfl) (door_met os _)) ?_
  intro W base args ds gs before hval0 hW _ _ hL _
  have hG : GW W := of_laid hL
  have hval : ∀ (j : Nat) t v, Tryd.f8.params[j]? = some t → args[j]? = some v → Value.okWide Tryd.prog W .any base t v := hval0
  have hW' := hW
  obtain ⟨p, q, hA0, hV, rfl, hfz, hnd⟩ := hW
  have hA : DataW.TrodAll enc Tryd.prog W 0 (fun _ => true) true Tryd.f8.params.toList args.toList ds p := hA0
  rw [Tryd.params8] at hA hval
  obtain ⟨v0, vs0, d0, ds0, p0, q0, hargs, rfl, rfl, h0, r0⟩ := trodAll_cons hA
  obtain ⟨v1, vs1, d1, ds1, p1, q1, rfl, rfl, rfl, h1, r1⟩ := trodAll_cons r0
  obtain ⟨rfl, rfl, rfl⟩ := trodAll_nil r1
  obtain rfl : args = #[v0, v1] := by cases args; simp_all
  obtain ⟨rfl, rfl⟩ := trodVars_none hV
  obtain ⟨a0, len0, cap0, rfl⟩ := okWide_slice Tryd.underlying22 (hval 0 22 v0 rfl rfl)
  have k0 := h0
  have lt0 : ∀ x ∈ p0, x.block < W.heap.size := by obtain ⟨m, hm⟩ := k0; exact DataW.trod_lt m _ _ _ hm
  obtain ⟨z0, w0⟩ := insns_open h0 lt0
  obtain ⟨a1, len1, cap1, rfl⟩ := okWide_slice Tryd.underlying22 (hval 1 22 v1 rfl rfl)
  have k1 := h1
  have lt1 : ∀ x ∈ p1, x.block < W.heap.size := by obtain ⟨m, hm⟩ := k1; exact DataW.trod_lt m _ _ _ hm
  obtain ⟨z1, w1⟩ := insns_open h1 lt1
  clear hA0 hval0
  refine (walk HC HF a0 len0 cap0 z0 a1 len1 cap1 z1 W hG w0 w1).mono fun e W' ⟨he, bel⟩ => ?_
  subst he
  exact ⟨_, rfl, _, _, _, [], _, [], hW', trodAll_mk1 (shut_bool Tryd.underlying4 _), (trodAll_cons_mk (Below.trod laidOut (by kernel_rfl) (of_decide_eq_true (by kernel_rfl)) k0 bel lt0) (trodAll_cons_mk (Below.trod laidOut (by kernel_rfl) (of_decide_eq_true (by kernel_rfl)) k1 bel lt1) trodAll_mk0)), rfl, bel.frame _, fun h => by cases h⟩

theorem over (HC : CheckC GW) (HF : OfG GW) : Rows.checkMoreRow.holds Tryd.pinned (OpenSpec.ofChange Rows.checkMoreSpec) :=
  OpenClaim.holds_of_wide 8 Tryd.f8 rfl rfl rfl rfl rfl rfl rfl ⟨rfl, rfl, rfl, rfl, rfl⟩ rfl rfl rfl rfl rfl (by kernel_rfl) Tryd.func8 (by kernel_rfl)
    (of_decide_eq_true (by kernel_rfl)) (by unfold Func.isWrapper; first | (rw [if_pos (by decide +kernel)]; kernel_rfl) | (rw [if_neg (by decide +kernel)]; exact ⟨rfl, rfl⟩))
    (fun os started H enc _ => lifted HC HF os started H enc)

/-- The row's statement. -/
theorem row_holds : Rows.CheckMoreSaid := over checkC ofC
/-- The statement: the row, its table tied to the program's text. -/
theorem proved : Rows.CheckMoreCardSaid :=
  Claim7.holds_tied_plain_at .later [] [.data] true Rows.checkMoreCard.stood.harness Rows.checkMoreCard.stood.looks
    row_holds (fun _ h => by cases h) (by kernel_rfl) (fun _ h => by cases h) checkMore_row_tie rfl ⟨rfl, rfl⟩ (by kernel_rfl) rfl
    (fun f fn hf hfn => by
      obtain rfl : f = 8 := Option.some.inj ((show Tryd.prog.funcNamed "vestibule/vestibulelaw06.CheckMore" = some 8 by kernel_rfl).symm.trans hf) |>.symm
      obtain rfl : fn = Tryd.f8 := (Option.some.inj (Tryd.func8.symm.trans hfn)).symm
      exact ⟨by kernel_rfl, fun j t ht => by
        have hm : t ∈ Tryd.f8.params.toList := by simpa using Array.mem_of_getElem? ht
        have hall : (Tryd.f8.params.toList.all fun u => !Tryd.prog.wantsStandIn u) = true := by kernel_rfl
        exact (show Tryd.prog.wantsStandIn t = false by simpa using List.all_eq_true.1 hall t hm)⟩)
    (by kernel_rfl)
#print axioms proved
end Go.Proofs.YtohfampfnhfnlaaDoor.checkMore
