/- The statement CellsMore holds, over what the calls have to return: an instruction that writes a cell, ahead of all others, makes the cell certain behind it, and nothing less certain. -/
import Derived.Test.YthhfpehngdohhaaDoorRows
import Derived.Test.YthhfpehngdohhaaDoorCards
import Derived.Test.YthhfpehngdohhaaDoorTie
import Derived.SevenTiedAt
import Derived.Test.YthhfpehngdohhaaDoorFr
import Derived.Test.YthhfpehngdohhaaDoorLw
import Derived.Test.YthhfpehngdohhaaDoorQj
import Derived.Test.YthhfpehngdohhaaDoorOg
import Derived.Test.YthhfpehngdohhaaDoorId
import Derived.Deep.RegionHeld3
import Derived.BigQuiet
import Derived.Deep.QuietTactic
import Derived.Test.YthhfpehngdohhaaDoorOk
import Derived.Test.YthhfpehngdohhaaDoorIe
import Derived.OwnWalk
import Derived.Laws.BitsAllLaws
namespace Go.Proofs.YthhfpehngdohhaaDoor.cellsMore
open Go.ChangeShapes Go.WideShapes Go.ChangeAt Go.RowKit
open Go.ChangeMaps (open_string shut_string)
set_option linter.unusedVariables false
attribute [local go_sem ↓] Go.wp_at_zero Go.wp_at_succ

theorem none_len {w : World} {B n c : Nat} {p : Option Addr} {l : List Ins} (h : RdI w B p l) (hl : l.length = n) (hp : p = none → c = 0) : p = none → n = 0 ∧ c = 0 := by
  intro he
  refine ⟨?_, hp he⟩
  rcases Nat.eq_zero_or_pos l.length with h0 | h0
  · omega
  · obtain ⟨b, o, hv, _⟩ := h h0
    rw [he] at hv; cases hv
theorem at_news {w : World} {B : Nat} {p : Option Addr} {l : List Ins} (h : RdI w B p l) : ∀ ad, p = some ad → ∀ j u, (progC l)[j]? = some u → w.cell? (ad.add j) = some u := by
  intro ad he j u hu
  have hn : 0 < l.length := by
    rcases Nat.eq_zero_or_pos l.length with h0 | h0
    · obtain rfl : l = [] := List.eq_nil_of_length_eq_zero h0
      simp [progC] at hu
    · exact h0
  obtain ⟨ad', he', hc⟩ := h.news hn
  rw [he] at he'
  injection he' with he'
  subst he'
  exact hc j u hu
theorem own_most {w : World} {B n size d : Nat} {e : TypeId} {p : Option Addr} {xs : List Value} (h : w.ownsRow B e size (.slice p n d) n xs) : n ≤ d ∧ d ≤ maxLen := by
  rcases h.2 with ⟨hv, hn⟩ | ⟨g, cap, cur, hv, hg, hh, hc, hm, r⟩
  · injection hv with h1 h2 h3
    subst h3 hn
    exact ⟨Nat.le_refl _, Nat.zero_le _⟩
  · injection hv with h1 h2 h3
    subst h3
    exact ⟨hc, hm⟩
theorem or_any {s c : Nat} (hs : s < 65536) (hc : c < 16) : bits .or .u16 (s : Int) (((2 : Nat) ^ c : Nat) : Int) = ((s ||| 2 ^ c : Nat) : Int) := by
  have h1 : 2 ^ c < 65536 := by
    have : (2 : Nat) ^ c ≤ 2 ^ 15 := Nat.pow_le_pow_right (by decide) (by omega)
    omega
  exact u16_or_nat s (2 ^ c) hs h1
set_option maxRecDepth 100000 in
set_option maxHeartbeats 16000000 in
theorem walk {G : World → Prop} (HC : CellsC G) (a0 : Option Addr) (len0 cap0 : Nat) (z0 : List Ins) (a1 : Int) (w : World) (hG : G w) (w0 : IsInsns w a0 len0 cap0 z0) (w1 : (Lit.int .u32 a1).wf = true) :
    Calls Tryd.prog 7 #[.slice a0 len0 cap0, .int .u32 a1] w fun e w' => e = .returned (.bool true) ∧ Below w.heap.size w w' := by
  obtain ⟨ca, cb⟩ := bounds_u32 w1
  have HA := Lib.hid (awake5_any HC w hG)
  by_cases hbig : (300 : Int) < len0
  · clear HC hG w0 w1 cb
    go_enter Tryd.func7, Tryd.ntmps7
    go_wp2_with (go_at_call 20; ((with_reducible refine (HA.out).mono ?_); rintro e v1 ⟨rfl, b1⟩))
    go_ret
    exact ⟨rfl, b1⟩
  by_cases hcell : 15 < a1
  · clear HC hG w0 w1 cb
    go_enter Tryd.func7, Tryd.ntmps7
    go_wp2_with (go_at_call 20; ((with_reducible refine (HA.out).mono ?_); rintro e v1 ⟨rfl, b1⟩))
    go_ret
    exact ⟨rfl, b1⟩
  obtain ⟨c, rfl⟩ := Int.eq_ofNat_of_zero_le ca
  have hc : c < 16 := by omega
  obtain ⟨i0, ki, kz0, kz1, kz2⟩ := info_parts insn_info
  have KI := Lib.hid ki
  have K0 := Lib.hid kz0
  have K1 := Lib.hid kz1
  have K2 := Lib.hid kz2
  have km : i0.bytes * (len0 + 1) ≤ 281474976710656 := by rw [kz2]; omega
  have kc : len0 + 1 ≤ maxLen := by unfold maxLen; omega
  have HON := Lib.hid (fun (w w' : World) => HC.on (w := w) (w' := w'))
  have HG0 := Lib.hid hG
  have okq : OkL (⟨2, 0, 0, (c : Int)⟩ :: z0) := OkL.cons (i := ⟨2, 0, 0, (c : Int)⟩) ⟨by show (0 : Int) ≤ 2; decide, by show (2 : Int) < 65536; decide, by show (0 : Int) ≤ 0; decide, by show (0 : Int) < 256; decide, by show (0 : Int) ≤ 0; decide, by show (0 : Int) < 256; decide, by show (0 : Int) ≤ (c : Int); omega, by show (c : Int) < 4294967296; omega⟩ w0.ok
  have HSP := Lib.hid (fun (W : World) (g : G W) (h : RdI W W.heap.size a0 z0) => HC.sure a0 len0 cap0 z0 W g w0.size w0.ok w0.fits w0.most w0.nil h)
  have HSQ := Lib.hid (fun (W : World) (s d : Nat) (g : G W) (h1 : 1 + len0 ≤ d) (h2 : d ≤ maxLen) (h : RdI W W.heap.size (some ⟨s, 0, none⟩) (⟨2, 0, 0, (c : Int)⟩ :: z0)) => HC.sure (some ⟨s, 0, none⟩) (1 + len0) d _ W g (by rw [List.length_cons, w0.size, Nat.add_comm]) okq h1 h2 (fun h => by cases h) h)
  rw [show lenX len0 = len0 from if_pos (by omega)] at HSP
  rw [show lenX (1 + len0) = 1 + len0 from if_pos (by omega)] at HSQ
  have HCO := Lib.hid (fun (j : Nat) (hj : j < len0) => sureN_cons hc (p := z0) (j := j) (by rw [w0.size]; exact hj))
  have HLT := Lib.hid (fun (j : Nat) => sureN_lt z0 j)
  obtain ⟨f, hf⟩ : ∃ f, f = sureN z0 := ⟨_, rfl⟩
  obtain ⟨g, hg⟩ : ∃ g, g = sureN (⟨2, 0, 0, (c : Int)⟩ :: z0) := ⟨_, rfl⟩
  rw [← hf] at HSP HCO HLT
  rw [← hg] at HSQ HCO
  unfold SetsTo at HSP HSQ
  have R0 := Lib.hid w0.rd
  have N0 := Lib.hid (none_len w0.rd w0.size w0.nil)
  have L0 := Lib.hid (show (progC z0).length = len0 * 4 by rw [progC_length, w0.size])
  have e1 : (len0 : Int) ≤ 300 := by omega
  have e2 : (0 : Int) ≤ len0 := by omega
  have e3 : (c : Int) ≤ 15 := by omega
  have e4 : (0 : Int) ≤ c := by omega
  have t4 : ((len0 : Int) != len0) = false := by simp
  have t5 : (((1 + len0 : Nat) : Int) != ((1 + len0 : Nat) : Int)) = false := by simp
  have t5' : (1 + (len0 : Int) != 1 + (len0 : Int)) = false := by simp
  clear HC hG w0 w1 okq ki kz0 kz1 kz2 hf hg cb
  go_enter Tryd.func7, Tryd.ntmps7
  go_wp2_with (first
    | (go_at_call 20; ((with_reducible refine (HA.out).mono ?_); rintro e v1 ⟨rfl, b1⟩); have G1 := HON.out _ _ HG0.out b1)
    | ((with_reducible show wpList _ _ _ (⟨some 21, _, _, _, _, _⟩ :: _) _ _)
       refine wpList_make_own _ rfl _ _ 22 rfl v1.heap.size 38 i0 _ 4 Tryd.underlying22 KI.out K0.out K1.out .i64 .i64 ((len0 : Int) + 1) (len0 + 1) rfl rfl (by omega) km kc (Nat.le_refl _) ?_
       intro v2 o2 g2
       have b2 : Below v1.heap.size v1 v2 := (Below.refl _ _).grown g2 (Nat.le_refl _) (by intro k hk; cases hk)
       have B2 := thn b1 b2)
    | ((with_reducible show wpList _ _ _ (⟨some 26, _, _, _, _, _⟩ :: _) _ _)
       refine wpList_append_fits _ rfl (.tmp 22) (.tmp 25) 22 rfl v1.heap.size 38 i0 4 Tryd.underlying22 KI.out K1.out v1.heap.size 0 (len0 + 1) [] rfl (o2.alloc _) ⟨v2.heap.size, 0, none⟩ 1 1 (insC ⟨2, 0, 0, (c : Int)⟩) rfl rfl (news_lit v2 _ _ _ rfl) (insC_one _) (by omega) ?_
       intro v3 o3 g3
       rw [Nat.zero_add, List.nil_append] at o3
       have b3 : Below v1.heap.size v2 v3 := ((Below.refl _ _).alloc b2.size _).grown g3 (by have := b2.size; rw [World.size_alloc]; exact Nat.le_succ_of_le this) (by intro k hk; cases hk; exact Nat.le_refl _)
       have b13 : Below v1.heap.size v1 v3 := b2.trans b3
       have B3 := thn b1 b13)
    | ((with_reducible show wpList _ _ _ (⟨some 29, _, _, _, _, _⟩ :: _) _ _)
       refine wpList_append_fits_any _ rfl (.tmp 27) (.tmp 28) 22 rfl v1.heap.size 38 i0 4 Tryd.underlying22 KI.out K1.out v1.heap.size 1 (len0 + 1) (insC ⟨2, 0, 0, (c : Int)⟩) rfl o3 a0 len0 cap0 (progC z0) rfl L0.out N0.out (at_news (R0.out.on B3)) (progC_one _) (by omega) ?_
       intro v4 o4 g4
       rw [show insC ⟨2, 0, 0, (c : Int)⟩ ++ progC z0 = progC (⟨2, 0, 0, (c : Int)⟩ :: z0) from rfl] at o4
       have b4 : Below v1.heap.size v3 v4 := (Below.refl _ _).grown g4 b13.size (by intro k hk; cases hk; exact Nat.le_refl _)
       have b14 : Below v1.heap.size v1 v4 := b13.trans b4
       have G4 := HON.out _ _ G1 b14
       have B4 := thn b1 b14
       have R4 := R0.out.on B4
       have Q4 : RdI v4 v4.heap.size (some ⟨v1.heap.size, 0, none⟩) (⟨2, 0, 0, (c : Int)⟩ :: z0) := (by obtain ⟨_, _, hv, h2, _⟩ := own_shapeI o4; injection hv with h1 _ _; rw [h1]; exact h2)
       clear o2 o3 o4 g2 g3 g4 b2 b3 b4 b13 b14 B2 B3)
    | (go_at_call 16; ((with_reducible refine (HSP.out _ G4 R4).mono ?_); rintro e v5 ⟨q5, c5, rfl, o5, b5⟩); have G5 := HON.out _ _ G4 b5; have Q5 := Q4.on b5; have B5 := thn B4 b5; have O5 := Lib.hid o5; clear o5 G4 R4 Q4)
    | (go_at_call 16; ((with_reducible refine (HSQ.out _ _ _ G5 (Nat.le_of_eq (Nat.add_comm _ _)) kc Q5).mono ?_); rintro e v6 ⟨q6, c6, rfl, o6, b6⟩); have B6 := thn B5 b6; have O6 := Lib.hid o6; have O56 := Lib.hid (own_on O5.out b6); clear o6 O5 G5 Q5))
  clear HSP HSQ R0 N0 L0
  go_loopw [8] (fun i wr => ∃ k : Nat, k ≤ len0 ∧ i = .int .i64 k ∧ Below v6.heap.size v6 wr) (fun i _ => len0 - (intOf i).toNat)
  case atStart => exact ⟨0, Nat.zero_le _, rfl, Below.refl _ _⟩
  case round =>
    obtain ⟨k, hk, rfl, hb⟩ := hrel
    obtain ⟨W, rfl⟩ : ∃ wo : World, wo = wr := ⟨_, rfl⟩
    by_cases hlt : k < len0
    · have h5 := own_on O56.out hb
      have h6 := own_on O6.out hb
      obtain ⟨g5, d5, e5⟩ := own_some h5 (by omega)
      obtain ⟨g6, d6, e6⟩ := own_some h6 (by omega)
      injection e5 with e51 e52 e53
      injection e6 with e61 e62 e63
      subst e51 e61
      have c5k : W.cell? ⟨g5, k, none⟩ = some (.int .u16 ((f k : Nat) : Int)) := (h5.cellAt k (by omega)).trans (rowS_get _ hlt)
      have c6k : W.cell? ⟨g6, k + 1, none⟩ = some (.int .u16 ((g (k + 1) : Nat) : Int)) := (h6.cellAt (k + 1) (by omega)).trans (rowS_get _ (by omega))
      have hor := or_any (HLT.out k) hc
      rw [← HCO.out k hlt] at hor
      have hsh := one_shl hc
      obtain ⟨sv, hsv⟩ : ∃ s, s = f k := ⟨_, rfl⟩
      obtain ⟨tv, htv⟩ : ∃ s, s = g (k + 1) := ⟨_, rfl⟩
      obtain ⟨pw, hpw⟩ : ∃ s : Nat, s = 2 ^ c := ⟨_, rfl⟩
      rw [← hsv, ← htv, ← hpw] at hor
      rw [← hsv] at c5k
      rw [← htv] at c6k
      rw [← hpw] at hsh
      have t7 : ((tv : Int) != tv) = false := by simp
      have k0 : (0 : Int) ≤ k := by omega
      have k2 : (k : Int) < len0 := by omega
      have k3 : (k : Int) + 1 < 1 + (len0 : Int) := by omega
      have k3' : (k : Int) + 1 < ((1 + len0 : Nat) : Int) := by omega
      have k4 : (0 : Int) ≤ (k : Int) + 1 := by omega
      clear h5 h6 hsv htv hpw e52 e53 e62 e63
      go_wp2_with fail
      go_region
      go_wp2
      go_roundw
      case rel => exact ⟨k + 1, by omega, by go_num, hb.drew⟩
      case measure => simp [intOf]; omega
    · obtain rfl : k = len0 := by omega
      go_wp2_with fail
      go_ret
      exact ⟨rfl, thn B6 hb⟩

set_option maxRecDepth 100000 in
theorem lifted (HC : CellsC GW) (os : Os) (started : os.Started) (H : Type) (enc : TypeId × Value → H) :
    ReturnsInHanded {} Tryd.checked os 7 .any (fun w args => (Rows.cellsMoreSpec.pre enc Tryd.prog Tryd.f7 [] false w args ∧ laidMetH Tryd.prog listed w) ∧ sizedMet enc Tryd.prog Tryd.f7 (OpenSpec.ofChange Rows.cellsMoreSpec) false w args)
      (Rows.cellsMoreSpec.post enc Tryd.prog Tryd.f7 false true false false) := by
  refine returnsInHanded_of_change_and (C := Tryd.checked) (X := fun w _ => laidMetH Tryd.prog listed w) (fun _ _ _ hh h => h.of_heap hh) ownKnob_none started (by kernel_rfl) Tryd.func7
    (ChangeSpec.witness_shaped (enc := enc) (C := Tryd.checked) (os := os) (X := fun w _ => laidMetH Tryd.prog listed w) false (World.doorLaid Tryd.prog 400 os) #[.slice none 0 0, .int .u32 0] 8 rfl (World.shaped_of_RefB (by kernel_rfl) (by kernel_rfl)) (by kernel_rfl) (by kernel_rfl) (by kernel_rfl) (door_met os _)) ?_
  intro W base args ds gs before hval0 hW _ _ hL _
  have hG : GW W := of_laid hL
  have hval : ∀ (j : Nat) t v, Tryd.f7.params[j]? = some t → args[j]? = some v → Value.okWide Tryd.prog W .any base t v := hval0
  have hW' := hW
  obtain ⟨p, q, hA0, hV, rfl, hfz, hnd⟩ := hW
  have hA : DataW.TrodAll enc Tryd.prog W 0 (fun _ => true) true Tryd.f7.params.toList args.toList ds p := hA0
  rw [Tryd.params7] at hA hval
  obtain ⟨v0, vs0, d0, ds0, p0, q0, hargs, rfl, rfl, h0, r0⟩ := trodAll_cons hA
  obtain ⟨v1, vs1, d1, ds1, p1, q1, rfl, rfl, rfl, h1, r1⟩ := trodAll_cons r0
  obtain ⟨rfl, rfl, rfl⟩ := trodAll_nil r1
  obtain rfl : args = #[v0, v1] := by cases args; simp_all
  obtain ⟨rfl, rfl⟩ := trodVars_none hV
  obtain ⟨a0, len0, cap0, rfl⟩ := okWide_slice Tryd.underlying22 (hval 0 22 v0 rfl rfl)
  have k0 := h0
  have lt0 : ∀ x ∈ p0, x.block < W.heap.size := by obtain ⟨m, hm⟩ := k0; exact DataW.trod_lt m _ _ _ hm
  obtain ⟨z0, w0⟩ := insns_open h0 lt0
  obtain ⟨a1, rfl, rfl, rfl, w1⟩ := open_int Tryd.underlying36 (hval 1 36 v1 rfl rfl) h1
  clear hA0 hval0
  refine (walk HC a0 len0 cap0 z0 a1 W hG w0 w1).mono fun e W' ⟨he, bel⟩ => ?_
  subst he
  exact ⟨_, rfl, _, _, _, [], _, [], hW', trodAll_mk1 (shut_bool Tryd.underlying4 _), (trodAll_cons_mk (Below.trod laidOut (by kernel_rfl) (of_decide_eq_true (by kernel_rfl)) k0 bel lt0) (trodAll_cons_mk (shut_int Tryd.underlying36 w1) trodAll_mk0)), rfl, bel.frame _, fun h => by cases h⟩

theorem over (HC : CellsC GW) : Rows.cellsMoreRow.holds Tryd.pinned (OpenSpec.ofChange Rows.cellsMoreSpec) :=
  OpenClaim.holds_of_wide 7 Tryd.f7 rfl rfl rfl rfl rfl rfl rfl ⟨rfl, rfl, rfl, rfl, rfl⟩ rfl rfl rfl rfl rfl (by kernel_rfl) Tryd.func7 (by kernel_rfl)
    (of_decide_eq_true (by kernel_rfl)) (by unfold Func.isWrapper; first | (rw [if_pos (by decide +kernel)]; kernel_rfl) | (rw [if_neg (by decide +kernel)]; exact ⟨rfl, rfl⟩))
    (fun os started H enc _ => lifted HC os started H enc)

/-- The row's statement. -/
theorem row_holds : Rows.CellsMoreSaid := over cellsC
/-- The statement: the row, its table tied to the program's text. -/
theorem proved : Rows.CellsMoreCardSaid :=
  Claim7.holds_tied_plain_at .later [] [.data] true Rows.cellsMoreCard.stood.harness Rows.cellsMoreCard.stood.looks
    row_holds (fun _ h => by cases h) (by kernel_rfl) (fun _ h => by cases h) cellsMore_row_tie rfl ⟨rfl, rfl⟩ (by kernel_rfl) rfl
    (fun f fn hf hfn => by
      obtain rfl : f = 7 := Option.some.inj ((show Tryd.prog.funcNamed "vestibule/vestibulelaw05.CellsMore" = some 7 by kernel_rfl).symm.trans hf) |>.symm
      obtain rfl : fn = Tryd.f7 := (Option.some.inj (Tryd.func7.symm.trans hfn)).symm
      exact ⟨by kernel_rfl, fun j t ht => by
        have hm : t ∈ Tryd.f7.params.toList := by simpa using Array.mem_of_getElem? ht
        have hall : (Tryd.f7.params.toList.all fun u => !Tryd.prog.wantsStandIn u) = true := by kernel_rfl
        exact (show Tryd.prog.wantsStandIn t = false by simpa using List.all_eq_true.1 hall t hm)⟩)
    (by kernel_rfl)
#print axioms proved

end Go.Proofs.YthhfpehngdohhaaDoor.cellsMore
