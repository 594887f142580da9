/- The statement VmBehind holds: a program that tells an answer, with others behind it, tells the same. No condition. -/
import Derived.Test.YtinfbmfmmbibbaaDoorRows
import Derived.Test.YtinfbmfmmbibbaaDoorCards
import Derived.Test.YtinfbmfmmbibbaaDoorTie
import Derived.SevenTiedAt
import Derived.Test.YtinfbmfmmbibbaaDoorFr
import Derived.Test.YtinfbmfmmbibbaaDoorLw
import Derived.Test.YtinfbmfmmbibbaaDoorNp
import Derived.Test.YtinfbmfmmbibbaaDoorVi
import Derived.Test.YtinfbmfmmbibbaaDoorDd
import Derived.Test.YtinfbmfmmbibbaaDoorId
import Derived.Deep.RegionHeld3
import Derived.BigQuiet
import Derived.Deep.QuietTactic
import Derived.Test.YtinfbmfmmbibbaaDoorFi
import Derived.Deep.Cut
namespace Go.Proofs.YtinfbmfmmbibbaaDoor.vmBehind
open Go.ChangeShapes Go.WideShapes Go.ChangeAt Go.RowKit
open Go.ChangeMaps (open_string shut_string)
set_option linter.unusedVariables false
attribute [local go_sem ↓] Go.wp_at_zero Go.wp_at_succ

theorem at_news {w : World} {B : Nat} {p : Option Addr} {l : List Ins} (h : RdI w B p l) : ∀ ad, p = some ad → ∀ j u, (progC l)[j]? = some u → w.cell? (ad.add j) = some u := by
  intro ad he j u hu
  have hn : 0 < l.length := by
    rcases Nat.eq_zero_or_pos l.length with h0 | h0
    · obtain rfl : l = [] := List.eq_nil_of_length_eq_zero h0
      simp [progC] at hu
    · exact h0
  obtain ⟨ad', he', hc⟩ := h.news hn
  rw [he] at he'
  injection he' with he'
  subst he'
  exact hc j u hu
theorem none_len {w : World} {B n c : Nat} {p : Option Addr} {l : List Ins} (h : RdI w B p l) (hl : l.length = n) (hp : p = none → c = 0) : p = none → n = 0 ∧ c = 0 := by
  intro he
  refine ⟨?_, hp he⟩
  rcases Nat.eq_zero_or_pos l.length with h0 | h0
  · omega
  · obtain ⟨ad', he', hc⟩ := h.news h0
    rw [he] at he'; cases he'
theorem own_most {w : World} {B n size d : Nat} {e : TypeId} {p : Option Addr} {xs : List Value} (h : w.ownsRow B e size (.slice p n d) n xs) : n ≤ d ∧ d ≤ maxLen := by
  rcases h.2 with ⟨hv, hn⟩ | ⟨g, cap, cur, hv, hg, hh, hc, hm, r⟩
  · injection hv with h1 h2 h3
    subst h3 hn
    exact ⟨Nat.le_refl _, Nat.zero_le _⟩
  · injection hv with h1 h2 h3
    subst h3
    exact ⟨hc, hm⟩
set_option maxRecDepth 100000 in
set_option maxHeartbeats 16000000 in
theorem small {G : World → Prop} (HC : VmC G) (a0 : Option Addr) (len0 cap0 : Nat) (z0 : List Ins) (a1 : Option Addr) (len1 cap1 : Nat) (z1 : List Ins) (a2 : Dat) (w : World) (hG : G w) (w0 : IsInsns w a0 len0 cap0 z0) (w1 : IsInsns w a1 len1 cap1 z1) (w2 : a2.Ok) (hs0 : ¬ (300 : Int) < len0) (hs1 : ¬ (50 : Int) < len1) :
    Calls Tryd.prog 7 #[.slice a0 len0 cap0, .slice a1 len1 cap1, datV a2] w fun e w' => e = .returned (.bool true) ∧ Below w.heap.size w w' := by
  have bx := BoxD.new w a2
  obtain ⟨i0, ki, kz0, kz1, kz2⟩ := info_parts insn_info
  have KI := Lib.hid ki
  have K0 := Lib.hid kz0
  have K1 := Lib.hid kz1
  have km : i0.bytes * (len0 + len1) ≤ 281474976710656 := by rw [kz2]; omega
  have kc : len0 + len1 ≤ maxLen := by unfold maxLen; omega
  have HA := Lib.hid (awake4_any HC (w.alloc (.cells (datC a2) 27)) (HC.al hG _))
  have HON := Lib.hid (fun (w w' : World) => HC.on (w := w) (w' := w'))
  have HG0 := Lib.hid (HC.al hG (.cells (datC a2) 27))
  have ok2 : OkL (z0 ++ z1) := fun x hx => (List.mem_append.1 hx).elim (w0.ok x) (w1.ok x)
  have hl2 : (z0 ++ z1).length = len0 + len1 := by rw [List.length_append, w0.size, w1.size]
  have HX := Lib.hid (fun (W : World) (g : G W) (h : RdI W W.heap.size a0 z0) => HC.run a0 len0 cap0 z0 a2 W g w0.size (by omega) w0.ok w2 w0.fits w0.most w0.nil h)
  have HY := Lib.hid (fun (W : World) (q : Nat) (d : Nat) (g : G W) (h1 : len0 + len1 ≤ d) (h2 : d ≤ maxLen) (h : RdI W W.heap.size (some ⟨q, 0, none⟩) (z0 ++ z1)) => HC.run (some ⟨q, 0, none⟩) (len0 + len1) d (z0 ++ z1) a2 W g hl2 (by omega) ok2 w2 h1 h2 (fun h => by cases h) h)
  have hbeh := Lib.hid (fun he => runL_behind (p := z0) (m := z1) (d := a2) he)
  have hrd := Lib.hid w0.rd
  have krd := Lib.hid w1.rd
  have N0 := Lib.hid (none_len w0.rd w0.size w0.nil)
  have N1 := Lib.hid (none_len w1.rd w1.size w1.nil)
  have L0 := Lib.hid (show (progC z0).length = len0 * 4 by rw [progC_length, w0.size])
  have L1 := Lib.hid (show (progC z1).length = len1 * 4 by rw [progC_length, w1.size])
  have e0 : (0 : Int) ≤ len0 := by omega
  have e1 : (0 : Int) ≤ len1 := by omega
  have e2 : (len0 : Int) ≤ 300 := by omega
  have e3 : (len1 : Int) ≤ 50 := by omega
  clear HC w0 w1 w2 hG ok2 hl2 ki kz0 kz1 kz2
  by_cases he : (runL z0 a2).err = 0
  · have hb := hbeh.out he
    rw [hb] at HY
    obtain ⟨r, hr⟩ : ∃ r, r = runL z0 a2 := ⟨_, rfl⟩
    rw [← hr] at HX HY he
    obtain ⟨ans, steps, pl, err⟩ := r
    simp only at he
    subst he
    unfold RunV at HX HY
    simp only at HX HY
    clear hb hbeh hr
    have t1 : (ans == ans) = true := by simp
    have t2 : ((steps : Int) == steps) = true := by simp
    unfold datV at *
    unfold datC at *
    go_enter Tryd.func7, Tryd.ntmps7
    go_wp2_with (first
      | (go_at_call 13; ((with_reducible refine (HA.out).mono ?_); rintro e v1 ⟨rfl, b1⟩); have G1 := HON.out _ _ HG0.out b1; have R1 := (hrd.out.on ((Below.refl _ _).alloc (Nat.le_refl _) _)).on b1; have T1 := (krd.out.on ((Below.refl _ _).alloc (Nat.le_refl _) _)).on b1; have B1 : Below w.heap.size w v1 := ((Below.refl _ _).alloc (Nat.le_refl _) _).trans (b1.mono (by simp)); have bx1 := BoxD.on (d := a2) bx b1; obtain ⟨x0, x1, x2, x3, x4, x5, x6, x7, x8⟩ := bx1.cells)
      | (go_at_call 9; ((with_reducible refine (HX.out _ G1 R1).mono ?_); rintro e v2 ⟨rfl, b2⟩); have G2 := HON.out _ _ G1 b2; have R2 := R1.on b2; have T2 := T1.on b2; have B2 := thn B1 b2; have bx2 := bx1.on b2; clear x0 x1 x2 x3 x4 x5 x6 x7 x8)
      | ((with_reducible show wpList _ _ _ (⟨some 36, _, _, _, _, _⟩ :: _) _ _)
         refine wpList_make_own _ rfl _ _ 22 rfl v2.heap.size 40 i0 _ 4 Tryd.underlying22 KI.out K0.out K1.out .i64 .i64 ((len0 : Int) + (len1 : Int)) (len0 + len1) rfl rfl (by omega) km kc (Nat.le_refl _) ?_
         intro v3 o3 g3
         have b3 : Below v2.heap.size v2 v3 := (Below.refl _ _).grown g3 (Nat.le_refl _) (by intro k hk; cases hk)
         have R3 := R2.below b3 (Nat.le_refl _)
         have T3 := T2.below b3 (Nat.le_refl _))
      | ((with_reducible show wpList _ _ _ (⟨some 39, _, _, _, _, _⟩ :: _) _ _)
         refine wpList_append_fits_any _ rfl (.tmp 37) (.tmp 38) 22 rfl v2.heap.size 40 i0 4 Tryd.underlying22 KI.out K1.out v2.heap.size 0 (len0 + len1) [] rfl o3 a0 len0 cap0 (progC z0) rfl L0.out N0.out (at_news R3) (progC_one _) (by omega) ?_
         intro v4 o4 g4
         rw [Nat.zero_add, List.nil_append] at o4
         have b4 : Below v2.heap.size v2 v4 := b3.trans ((Below.refl _ _).grown g4 b3.size (by intro k hk; cases hk; exact Nat.le_refl _))
         have T4 := T2.below b4 (Nat.le_refl _))
      | ((with_reducible show wpList _ _ _ (⟨some 42, _, _, _, _, _⟩ :: _) _ _)
         refine wpList_append_fits_any _ rfl (.tmp 40) (.tmp 41) 22 rfl v2.heap.size 40 i0 4 Tryd.underlying22 KI.out K1.out v2.heap.size len0 (len0 + len1) (progC z0) rfl o4 a1 len1 cap1 (progC z1) rfl L1.out N1.out (at_news T4) (progC_one _) (by omega) ?_
         intro v5 o5 g5
         rw [← progC_app] at o5
         have b5 : Below v2.heap.size v2 v5 := b4.trans ((Below.refl _ _).grown g5 b4.size (by intro k hk; cases hk; exact Nat.le_refl _))
         have G5 := HON.out _ _ G2 b5
         have B5 := thn B2 b5
         have bx5 := bx2.on b5
         have M5 := Lib.hid (own_most o5)
         have S5 : RdI v5 v5.heap.size (some ⟨v2.heap.size, 0, none⟩) (z0 ++ z1) := (by obtain ⟨_, _, hv, h2, _⟩ := own_shapeI o5; injection hv with h1 _ _; rw [h1]; exact h2)
         clear o5 g5
         obtain ⟨x0, x1, x2, x3, x4, x5, x6, x7, x8⟩ := bx5.cells)
      | (go_at_call 9; ((with_reducible refine (HY.out _ _ _ G5 M5.out.1 M5.out.2 S5).mono ?_); rintro e v6 ⟨rfl, b6⟩)))
    go_ret
    exact ⟨rfl, thn B5 b6⟩
  · obtain ⟨r', hr'⟩ : ∃ r, r = runL (z0 ++ z1) a2 := ⟨_, rfl⟩
    obtain ⟨r, hr⟩ : ∃ r, r = runL z0 a2 := ⟨_, rfl⟩
    rw [← hr'] at HY
    rw [← hr] at HX he
    obtain ⟨ans, steps, pl, err⟩ := r
    obtain ⟨ans', steps', pl', err'⟩ := r'
    simp only at he
    unfold RunV at HX HY
    simp only at HX HY
    clear hbeh hr hr'
    have t1 : (err != 0) = true := by simpa using he
    unfold datV at *
    unfold datC at *
    go_enter Tryd.func7, Tryd.ntmps7
    go_wp2_with (first
      | (go_at_call 13; ((with_reducible refine (HA.out).mono ?_); rintro e v1 ⟨rfl, b1⟩); have G1 := HON.out _ _ HG0.out b1; have R1 := (hrd.out.on ((Below.refl _ _).alloc (Nat.le_refl _) _)).on b1; have T1 := (krd.out.on ((Below.refl _ _).alloc (Nat.le_refl _) _)).on b1; have B1 : Below w.heap.size w v1 := ((Below.refl _ _).alloc (Nat.le_refl _) _).trans (b1.mono (by simp)); have bx1 := BoxD.on (d := a2) bx b1; obtain ⟨x0, x1, x2, x3, x4, x5, x6, x7, x8⟩ := bx1.cells)
      | (go_at_call 9; ((with_reducible refine (HX.out _ G1 R1).mono ?_); rintro e v2 ⟨rfl, b2⟩); have G2 := HON.out _ _ G1 b2; have R2 := R1.on b2; have T2 := T1.on b2; have B2 := thn B1 b2; have bx2 := bx1.on b2; clear x0 x1 x2 x3 x4 x5 x6 x7 x8)
      | ((with_reducible show wpList _ _ _ (⟨some 36, _, _, _, _, _⟩ :: _) _ _)
         refine wpList_make_own _ rfl _ _ 22 rfl v2.heap.size 40 i0 _ 4 Tryd.underlying22 KI.out K0.out K1.out .i64 .i64 ((len0 : Int) + (len1 : Int)) (len0 + len1) rfl rfl (by omega) km kc (Nat.le_refl _) ?_
         intro v3 o3 g3
         have b3 : Below v2.heap.size v2 v3 := (Below.refl _ _).grown g3 (Nat.le_refl _) (by intro k hk; cases hk)
         have R3 := R2.below b3 (Nat.le_refl _)
         have T3 := T2.below b3 (Nat.le_refl _))
      | ((with_reducible show wpList _ _ _ (⟨some 39, _, _, _, _, _⟩ :: _) _ _)
         refine wpList_append_fits_any _ rfl (.tmp 37) (.tmp 38) 22 rfl v2.heap.size 40 i0 4 Tryd.underlying22 KI.out K1.out v2.heap.size 0 (len0 + len1) [] rfl o3 a0 len0 cap0 (progC z0) rfl L0.out N0.out (at_news R3) (progC_one _) (by omega) ?_
         intro v4 o4 g4
         rw [Nat.zero_add, List.nil_append] at o4
         have b4 : Below v2.heap.size v2 v4 := b3.trans ((Below.refl _ _).grown g4 b3.size (by intro k hk; cases hk; exact Nat.le_refl _))
         have T4 := T2.below b4 (Nat.le_refl _))
      | ((with_reducible show wpList _ _ _ (⟨some 42, _, _, _, _, _⟩ :: _) _ _)
         refine wpList_append_fits_any _ rfl (.tmp 40) (.tmp 41) 22 rfl v2.heap.size 40 i0 4 Tryd.underlying22 KI.out K1.out v2.heap.size len0 (len0 + len1) (progC z0) rfl o4 a1 len1 cap1 (progC z1) rfl L1.out N1.out (at_news T4) (progC_one _) (by omega) ?_
         intro v5 o5 g5
         rw [← progC_app] at o5
         have b5 : Below v2.heap.size v2 v5 := b4.trans ((Below.refl _ _).grown g5 b4.size (by intro k hk; cases hk; exact Nat.le_refl _))
         have G5 := HON.out _ _ G2 b5
         have B5 := thn B2 b5
         have bx5 := bx2.on b5
         have M5 := Lib.hid (own_most o5)
         have S5 : RdI v5 v5.heap.size (some ⟨v2.heap.size, 0, none⟩) (z0 ++ z1) := (by obtain ⟨_, _, hv, h2, _⟩ := own_shapeI o5; injection hv with h1 _ _; rw [h1]; exact h2)
         clear o5 g5
         obtain ⟨x0, x1, x2, x3, x4, x5, x6, x7, x8⟩ := bx5.cells)
      | (go_at_call 9; ((with_reducible refine (HY.out _ _ _ G5 M5.out.1 M5.out.2 S5).mono ?_); rintro e v6 ⟨rfl, b6⟩)))
    go_ret
    exact ⟨rfl, thn B5 b6⟩
theorem walk {G : World → Prop} (HC : VmC G) (a0 : Option Addr) (len0 cap0 : Nat) (z0 : List Ins) (a1 : Option Addr) (len1 cap1 : Nat) (z1 : List Ins) (a2 : Dat) (w : World) (hG : G w) (w0 : IsInsns w a0 len0 cap0 z0) (w1 : IsInsns w a1 len1 cap1 z1) (w2 : a2.Ok) :
    Calls Tryd.prog 7 #[.slice a0 len0 cap0, .slice a1 len1 cap1, datV a2] w fun e w' => e = .returned (.bool true) ∧ Below w.heap.size w w' := by
  by_cases h0 : (300 : Int) < len0
  · have HA := Lib.hid (awake4_any HC (w.alloc (.cells (datC a2) 27)) (HC.al hG _))
    clear HC hG w0 w1 w2
    unfold datV at *
    unfold datC at *
    go_enter Tryd.func7, Tryd.ntmps7
    go_wp2_with (go_at_call 13; ((with_reducible refine (HA.out).mono ?_); rintro e v1 ⟨rfl, b1⟩))
    go_ret
    exact ⟨rfl, ((Below.refl _ _).alloc (Nat.le_refl _) _).trans (b1.mono (by simp))⟩
  · by_cases h1 : (50 : Int) < len1
    · have HA := Lib.hid (awake4_any HC (w.alloc (.cells (datC a2) 27)) (HC.al hG _))
      clear HC hG w0 w1 w2
      unfold datV at *
      unfold datC at *
      go_enter Tryd.func7, Tryd.ntmps7
      go_wp2_with (go_at_call 13; ((with_reducible refine (HA.out).mono ?_); rintro e v1 ⟨rfl, b1⟩))
      go_ret
      exact ⟨rfl, ((Below.refl _ _).alloc (Nat.le_refl _) _).trans (b1.mono (by simp))⟩
    · exact small HC a0 len0 cap0 z0 a1 len1 cap1 z1 a2 w hG w0 w1 w2 h0 h1

set_option maxRecDepth 100000 in
theorem lifted (HC : VmC GW) (os : Os) (started : os.Started) (H : Type) (enc : TypeId × Value → H) :
    ReturnsInHanded {} Tryd.checked os 7 .any (fun w args => (Rows.vmBehindSpec.pre enc Tryd.prog Tryd.f7 [] false w args ∧ laidMetH Tryd.prog listed w) ∧ sizedMet enc Tryd.prog Tryd.f7 (OpenSpec.ofChange Rows.vmBehindSpec) false w args)
      (Rows.vmBehindSpec.post enc Tryd.prog Tryd.f7 false true false false) := by
  refine returnsInHanded_of_change_and (C := Tryd.checked) (X := fun w _ => laidMetH Tryd.prog listed w) (fun _ _ _ hh h => h.of_heap hh) ownKnob_none started (by kernel_rfl) Tryd.func7
    (ChangeSpec.witness_shaped (enc := enc) (C := Tryd.checked) (os := os) (X := fun w _ => laidMetH Tryd.prog listed w) false (World.doorLaid Tryd.prog 400 os) #[.slice none 0 0, .slice none 0 0, .agg #[.int .u32 0, .int .u32 0, .int .u64 0, .int .u64 0, .int .u64 0, .int .u64 0, .int .u64 0, .int .u64 0, .int .u64 0]] 8 rfl (World.shaped_of_RefB (by kernel_rfl) (by kernel_rfl)) (by kernel_rfl) (by kernel_rfl) (by kernel_rfl) (door_met os _)) ?_
  intro W base args ds gs before hval0 hW _ _ hL _
  have hG : GW W := of_laid hL
  have hval : ∀ (j : Nat) t v, Tryd.f7.params[j]? = some t → args[j]? = some v → Value.okWide Tryd.prog W .any base t v := hval0
  have hW' := hW
  obtain ⟨p, q, hA0, hV, rfl, hfz, hnd⟩ := hW
  have hA : DataW.TrodAll enc Tryd.prog W 0 (fun _ => true) true Tryd.f7.params.toList args.toList ds p := hA0
  rw [Tryd.params7] at hA hval
  obtain ⟨v0, vs0, d0, ds0, p0, q0, hargs, rfl, rfl, h0, r0⟩ := trodAll_cons hA
  obtain ⟨v1, vs1, d1, ds1, p1, q1, rfl, rfl, rfl, h1, r1⟩ := trodAll_cons r0
  obtain ⟨v2, vs2, d2, ds2, p2, q2, rfl, rfl, rfl, h2, r2⟩ := trodAll_cons r1
  obtain ⟨rfl, rfl, rfl⟩ := trodAll_nil r2
  obtain rfl : args = #[v0, v1, v2] := by cases args; simp_all
  obtain ⟨rfl, rfl⟩ := trodVars_none hV
  obtain ⟨a0, len0, cap0, rfl⟩ := okWide_slice Tryd.underlying22 (hval 0 22 v0 rfl rfl)
  have k0 := h0
  have lt0 : ∀ x ∈ p0, x.block < W.heap.size := by obtain ⟨m, hm⟩ := k0; exact DataW.trod_lt m _ _ _ hm
  obtain ⟨z0, w0⟩ := insns_open h0 lt0
  obtain ⟨a1, len1, cap1, rfl⟩ := okWide_slice Tryd.underlying22 (hval 1 22 v1 rfl rfl)
  have k1 := h1
  have lt1 : ∀ x ∈ p1, x.block < W.heap.size := by obtain ⟨m, hm⟩ := k1; exact DataW.trod_lt m _ _ _ hm
  obtain ⟨z1, w1⟩ := insns_open h1 lt1
  have k2 := h2
  have lt2 : ∀ x ∈ p2, x.block < W.heap.size := by obtain ⟨m, hm⟩ := k2; exact DataW.trod_lt m _ _ _ hm
  obtain ⟨a2, w2, rfl⟩ := data_open (hval 2 27 v2 rfl rfl) h2
  clear hA0 hval0
  refine (walk HC a0 len0 cap0 z0 a1 len1 cap1 z1 a2 W hG w0 w1 w2).mono fun e W' ⟨he, bel⟩ => ?_
  subst he
  exact ⟨_, rfl, _, _, _, [], _, [], hW', trodAll_mk1 (shut_bool Tryd.underlying4 _), (trodAll_cons_mk (Below.trod laidOut (by kernel_rfl) (of_decide_eq_true (by kernel_rfl)) k0 bel lt0) (trodAll_cons_mk (Below.trod laidOut (by kernel_rfl) (of_decide_eq_true (by kernel_rfl)) k1 bel lt1) (trodAll_cons_mk (Below.trod laidOut (by kernel_rfl) (of_decide_eq_true (by kernel_rfl)) k2 bel lt2) trodAll_mk0))), rfl, bel.frame _, fun h => by cases h⟩

theorem over (HC : VmC GW) : Rows.vmBehindRow.holds Tryd.pinned (OpenSpec.ofChange Rows.vmBehindSpec) :=
  OpenClaim.holds_of_wide 7 Tryd.f7 rfl rfl rfl rfl rfl rfl rfl ⟨rfl, rfl, rfl, rfl, rfl⟩ rfl rfl rfl rfl rfl (by kernel_rfl) Tryd.func7 (by kernel_rfl)
    (of_decide_eq_true (by kernel_rfl)) (by unfold Func.isWrapper; first | (rw [if_pos (by decide +kernel)]; kernel_rfl) | (rw [if_neg (by decide +kernel)]; exact ⟨rfl, rfl⟩))
    (fun os started H enc _ => lifted HC os started H enc)

/-- The row's statement. -/
theorem row_holds : Rows.VmBehindSaid := over vmC
/-- The statement: the row, its table tied to the program's text. -/
theorem proved : Rows.VmBehindCardSaid :=
  Claim7.holds_tied_plain_at .later [] [.data] true Rows.vmBehindCard.stood.harness Rows.vmBehindCard.stood.looks
    row_holds (fun _ h => by cases h) (by kernel_rfl) (fun _ h => by cases h) vmBehind_row_tie rfl ⟨rfl, rfl⟩ (by kernel_rfl) rfl
    (fun f fn hf hfn => by
      obtain rfl : f = 7 := Option.some.inj ((show Tryd.prog.funcNamed "vestibule/vestibulelaw04.VmBehind" = some 7 by kernel_rfl).symm.trans hf) |>.symm
      obtain rfl : fn = Tryd.f7 := (Option.some.inj (Tryd.func7.symm.trans hfn)).symm
      exact ⟨by kernel_rfl, fun j t ht => by
        have hm : t ∈ Tryd.f7.params.toList := by simpa using Array.mem_of_getElem? ht
        have hall : (Tryd.f7.params.toList.all fun u => !Tryd.prog.wantsStandIn u) = true := by kernel_rfl
        exact (show Tryd.prog.wantsStandIn t = false by simpa using List.all_eq_true.1 hall t hm)⟩)
    (by kernel_rfl)
#print axioms proved

end Go.Proofs.YtinfbmfmmbibbaaDoor.vmBehind
