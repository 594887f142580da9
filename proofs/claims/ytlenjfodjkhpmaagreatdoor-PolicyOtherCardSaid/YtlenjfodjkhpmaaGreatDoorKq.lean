/- Which runes are white space, as the landed package asks the library: a rune is sought among three bytes. No condition. What the calls of the landed names return that read or write digits: as the chapter says; and so all of the package. Condition: the tables, and the library's errors, lie as the text lays them. -/
import Derived.Test.YtlenjfodjkhpmaaGreatDoorLz
import Derived.Test.YtlenjfodjkhpmaaGreatDoorWd
import Derived.Test.YtlenjfodjkhpmaaGreatDoorHc
import Derived.RangeFuncBox
import Derived.Deep.DrawnRows
import Derived.RegionTactic
import Derived.BigRegion
import Derived.Deep.AppendLies
import Derived.Lib.AppendIntMem
import Derived.Lib.AtoiErrMem
import Derived.Lib.IndexLaws
import Derived.OwnWalk
import Derived.Deep.QuietTactic
import Derived.WalkSmall
import Derived.Lib.FrozenHead2
import Derived.Lib.OthersKept
import Derived.Laws.Externs
import Derived.Laws.Concat
import Derived.Shelf.Strings.FuncGrows
import Derived.Deep.LoopGhost
import Derived.BigQuiet
import Derived.Scope
import Derived.Test.YtlenjfodjkhpmaaGreatDoorJp
import Derived.Test.YtlenjfodjkhpmaaGreatDoorJa
import Derived.Lib.ParseIntB
namespace Go.Proofs.YtlenjfodjkhpmaaGreatDoor
set_option maxRecDepth 100000
open Go.Lib (hid)
open Go.RowKit Go.Shelf
set_option linter.unusedVariables false
set_option linter.unusedSimpArgs false
section
open Go.RowKit Go.Shelf Go.Sort
attribute [local go_sem ↓] Go.wp_at_zero Go.wp_at_succ
theorem index8_call (l : List UInt8) (c : UInt8) (w : World) : Calls Tryz.prog 271 #[.string (bs l), .int .u8 (c.toNat : Int)] w fun e w' => e = .returned (.int .i64 (Lib.indexByte l c)) ∧ w = w' :=
 (Tryz.stringslite_IndexByte (bs l) c.toNat w).mono fun e w' ⟨h1, h2⟩ => ⟨by rw [h1, bs_list, Int.toNat_natCast]; simp, h2.symm⟩
end
section
open Go.RowKit Go.Shelf
attribute [local go_sem ↓] Go.wp_at_zero Go.wp_at_succ
theorem th2 {A B C : World} (h : Below A.heap.size A B) (k : Below B.heap.size B C) : Below A.heap.size A C := h.trans (k.mono h.size)
theorem ball (w : World) (o : Obj) : Below w.heap.size w (w.alloc o) := (Below.refl _ _).alloc (Nat.le_refl _) o
end
section
open Go.RowKit Go.Shelf
attribute [local go_sem] Oper.semAt_some
theorem boxed_below {W W' : World} {B : Nat} {t : TypeId} {v : Value} (h : Boxed W B t v) (b : Below W.heap.size W W') : Boxed W' B t v := (b.block _ (Array.getElem?_eq_some_iff.1 h).1).trans h
end
section
open Go.RowKit Go.Shelf
attribute [local go_sem ↓] Go.wp_at_zero Go.wp_at_succ
theorem indexB_call (l : List UInt8) (c : UInt8) (w : World) : Calls Tryz.prog 253 #[.string (bs l), .int .u8 (c.toNat : Int)] w fun e w' => e = .returned (.int .i64 (Lib.indexByte l c)) ∧ w' = w := by
 have HC := hid (fun W => index8_call l c W)
 go_enter Tryz.func253, Tryz.ntmps253
 go_wp2_with (go_at_call 271; ((with_reducible refine (HC.out _).mono ?_); rintro e w1 ⟨rfl, rfl⟩))
 go_ret
 exact ⟨rfl, rfl⟩
theorem white_dec : ∀ pos, pos < 3 → (Utf8.decode (⟨#[32, 9, 13]⟩ : ByteArray) pos).2 = 1 ∧ (Utf8.decode (⟨#[32, 9, 13]⟩ : ByteArray) pos).1 < 128 := by decide
set_option maxHeartbeats 4000000 in
theorem idx_err (w : World) : Calls Tryz.prog 232 #[.string (⟨#[32, 9, 13]⟩ : ByteArray), .int .i32 65533] w fun e w' => e = .returned (.int .i64 (-1)) ∧ Below w.heap.size w w' := by
 obtain ⟨S, hS⟩ : ∃ S, S = (⟨#[32, 9, 13]⟩ : ByteArray) := ⟨_, rfl⟩
 have hd := white_dec
 have h3 : S.size = 3 := by rw [hS]; rfl
 rw [← hS] at hd ⊢
 clear hS
 go_enter Tryz.func232, Tryz.ntmps232
 go_wp2
 go_loopg [] S.size (fun gf wx => ∃ pos : Nat, wx.heap[w.heap.size]? = some (.stringIter S pos) ∧ Below w.heap.size w wx ∧ S.size ≤ pos + gf)
 case atStart => exact ⟨0, World.iter_heap w S 0, (Below.refl _ w).alloc (Nat.le_refl _) _, by omega⟩
 case round =>
  obtain ⟨pos, hit, hbw, hfu⟩ := hrel
  by_cases hps : pos < S.size
  ·obtain ⟨g', rfl⟩ : ∃ g', gk = g' + 1 := ⟨gk - 1, by omega⟩
   have hnx : ∀ ty, (Instr.next (.pointer (some ⟨w.heap.size, 0, none⟩)) true ty).run Tryz.prog wr = _ := fun ty => Lib.run_next_any_at wr w.heap.size S pos ty hit hps
   obtain ⟨hd1, hd2⟩ := hd pos (by omega)
   obtain ⟨R, hR⟩ : ∃ R, (Utf8.decode S pos).1 = R := ⟨_, rfl⟩
   rw [hR, hd1] at hnx
   rw [hR] at hd2
   have hit2 := Lib.iterAt_heap wr w.heap.size S pos (pos + 1) hit
   have hbw2 := Lib.below_iterAt hbw (k := w.heap.size) (Nat.le_refl _) S (pos + 1)
   obtain ⟨W, hWd⟩ : ∃ W, wr.iterAt w.heap.size S (pos + 1) = W := ⟨_, rfl⟩
   rw [hWd] at hnx hit2 hbw2
   have hne : ((R : Int) == 65533) = false := beq_eq_false_iff_ne.2 (by omega)
   clear hd hd1 hR hd2 hWd
   go_wp2
   go_roundg g'
   case measure => omega
   case rel => exact ⟨pos + 1, hit2, hbw2, by omega⟩
  ·have hnx : ∀ ty, (Instr.next (.pointer (some ⟨w.heap.size, 0, none⟩)) true ty).run Tryz.prog wr = _ := fun ty => Lib.run_next_end_at wr w.heap.size S pos ty hit hps
   go_wp2
   go_ret
   exact ⟨rfl, hbw⟩
theorem enc_last {x : Nat} (h0 : 128 ≤ x) : ∃ (rs : ByteArray) (m : Nat) (c : UInt8), Utf8.encode x = rs ∧ rs.size = m + 1 ∧ 1 ≤ m ∧ m ≤ 3 ∧ rs.data[m]? = some c ∧ 128 ≤ c.toNat := by
 have lo : ∀ k : Nat, k < 64 → 128 ≤ (UInt8.ofNat (0x80 + k)).toNat := fun k hk => by rw [UInt8.toNat_ofNat']; omega
 obtain ⟨c, hc⟩ : ∃ c : Nat, (if Utf8.valid (x : Int) then (x : Int).toNat else Utf8.runeError) = c := ⟨_, rfl⟩
 have hcx : 128 ≤ c := by
  rw [← hc]
  split
  ·omega
  ·decide
 unfold Utf8.encode
 simp only [hc]
 rw [if_neg (by omega)]
 split
 ·exact ⟨_, 1, _, rfl, rfl, by omega, by omega, rfl, lo _ (Nat.mod_lt _ (by omega))⟩
 ·split
  ·exact ⟨_, 2, _, rfl, rfl, by omega, by omega, rfl, lo _ (Nat.mod_lt _ (by omega))⟩
  ·exact ⟨_, 3, _, rfl, rfl, by omega, by omega, rfl, lo _ (Nat.mod_lt _ (by omega))⟩
theorem no_high (c : UInt8) (h : 128 ≤ c.toNat) : Lib.indexByte [13] c = -1 ∧ Lib.indexByte [] c = -1 ∧ (9 : Int) ≠ c.toNat ∧ (13 : Int) ≠ c.toNat := by
 refine ⟨?_, rfl, by omega, by omega⟩
 unfold Lib.indexByte
 rw [beq_eq_false_iff_ne.2 (fun e => by subst e; exact absurd h (by decide))]; rfl
theorem run_rune (x : Int) (w : World) : (convert 21 9 (.int .i32 x)).run Tryz.prog w = .ok (.string (Utf8.encode x)) w := by
 simp [convert, Conv.intToString, Sem.run_bind, Result.andThen, go_sem]
set_option maxHeartbeats 4000000 in
theorem idx_high1 (x : Nat) (h0 : 128 ≤ x) (hv : Lib.validRune x = true) (hx : x ≠ 65533) (rs : ByteArray) (c : UInt8) (hrs : Utf8.encode x = rs) (hsz : rs.size = 1 + 1) (hc : rs.data[1]? = some c) (hc1 : 128 ≤ c.toNat) (w : World) : Calls Tryz.prog 232 #[.string (⟨#[32, 9, 13]⟩ : ByteArray), .int .i32 x] w fun e w' => e = .returned (.int .i64 (-1)) ∧ Below w.heap.size w w' := by
 have HV := hid (fun W => Tryz.utf8_ValidRune (x : Int) W)
 rw [hv] at HV
 obtain ⟨n1, n2, n3, n4⟩ := no_high c hc1
 have HIB := hid (fun W => indexB_call [13] c W)
 rw [n1, show bs [13] = (⟨#[32, 9, 13]⟩ : ByteArray).extract 2 3 from by decide] at HIB
 have HRS := run_rune (x : Int)
 rw [hrs] at HRS
 have hms : 1 < rs.size := by omega
 obtain ⟨y, hy⟩ : ∃ y : Int, y = (c.toNat : Int) := ⟨_, rfl⟩
 have hidx : ((rs[1]'hms).toNat : Int) = y := by
  rw [hy]
  have h2 : rs.data[1]? = some (rs[1]'hms) := Array.getElem?_eq_getElem (xs := rs.data) hms
  rw [show rs[1]'hms = c from (Option.some.inj (hc.symm.trans h2)).symm]
 rw [← hy] at HIB n3 n4
 have q0 : ((x : Int) == 65533) = false := beq_eq_false_iff_ne.2 (by omega)
 have q1 : ¬ (x : Int) < 128 := by omega
 have q2 : (0 : Int) ≤ x := by omega
 obtain ⟨S, hS⟩ : ∃ S, S = (⟨#[32, 9, 13]⟩ : ByteArray) := ⟨_, rfl⟩
 have h3 : S.size = 3 := by rw [hS]; rfl
 have g1 : ((S[1]'(by omega)).toNat : Int) = 9 := by subst hS; rfl
 have g2 : ((9 : Int) != y) = true := bne_iff_ne.2 n3
 have g3 : ((9 : Int) == y) = false := beq_eq_false_iff_ne.2 n3
 rw [← hS] at HIB ⊢
 clear hv hx hrs hc hc1 hy n1 n2 h0 hS
 go_enter Tryz.func232, Tryz.ntmps232
 go_wp2_with (go_at_call 254; ((with_reducible refine (HV.out _).mono ?_); rintro e w1 ⟨rfl, rfl⟩))
 refine wp_scope_straight ?_
 go_wp2
 refine wp_loop_rounds 2 ?_
 rw [rounds_succ]
 go_wp2_with fail
 refine wp_scope_straight ?_
 go_wp2_with fail
 go_quiet (fail)
 go_wp2_with fail
 go_quiet ((go_at_call 253; go_loud (exact (HIB.out _).mono fun e w'' h => ⟨h.1, _, h.2⟩)))
 go_wp2_with fail
 simp only [Exit.noGoto, Exit.then, Exit.inBlock]
 go_ret
 exact ⟨rfl, by first | exact Below.refl _ _ | exact Go.Proofs.below_drewN' (Below.refl _ _) _ | exact Go.Proofs.below_drewN' (Go.Proofs.below_drewN' (Below.refl _ _) _) _⟩
set_option maxHeartbeats 4000000 in
theorem idx_high2 (x : Nat) (h0 : 128 ≤ x) (hv : Lib.validRune x = true) (hx : x ≠ 65533) (rs : ByteArray) (c : UInt8) (hrs : Utf8.encode x = rs) (hsz : rs.size = 2 + 1) (hc : rs.data[2]? = some c) (hc1 : 128 ≤ c.toNat) (w : World) : Calls Tryz.prog 232 #[.string (⟨#[32, 9, 13]⟩ : ByteArray), .int .i32 x] w fun e w' => e = .returned (.int .i64 (-1)) ∧ Below w.heap.size w w' := by
 have HV := hid (fun W => Tryz.utf8_ValidRune (x : Int) W)
 rw [hv] at HV
 obtain ⟨n1, n2, n3, n4⟩ := no_high c hc1
 have HIB := hid (fun W => indexB_call [] c W)
 rw [n2, show bs [] = ByteArray.empty from by rfl] at HIB
 have HRS := run_rune (x : Int)
 rw [hrs] at HRS
 have hms : 2 < rs.size := by omega
 obtain ⟨y, hy⟩ : ∃ y : Int, y = (c.toNat : Int) := ⟨_, rfl⟩
 have hidx : ((rs[2]'hms).toNat : Int) = y := by
  rw [hy]
  have h2 : rs.data[2]? = some (rs[2]'hms) := Array.getElem?_eq_getElem (xs := rs.data) hms
  rw [show rs[2]'hms = c from (Option.some.inj (hc.symm.trans h2)).symm]
 rw [← hy] at HIB n3 n4
 have q0 : ((x : Int) == 65533) = false := beq_eq_false_iff_ne.2 (by omega)
 have q1 : ¬ (x : Int) < 128 := by omega
 have q2 : (0 : Int) ≤ x := by omega
 obtain ⟨S, hS⟩ : ∃ S, S = (⟨#[32, 9, 13]⟩ : ByteArray) := ⟨_, rfl⟩
 have h3 : S.size = 3 := by rw [hS]; rfl
 have g1 : ((S[2]'(by omega)).toNat : Int) = 13 := by subst hS; rfl
 have g2 : ((13 : Int) != y) = true := bne_iff_ne.2 n4
 have g3 : ((13 : Int) == y) = false := beq_eq_false_iff_ne.2 n4
 rw [← hS]
 clear hv hx hrs hc hc1 hy n1 n2 h0 hS
 go_enter Tryz.func232, Tryz.ntmps232
 go_wp2_with (go_at_call 254; ((with_reducible refine (HV.out _).mono ?_); rintro e w1 ⟨rfl, rfl⟩))
 refine wp_scope_straight ?_
 go_wp2
 refine wp_loop_rounds 2 ?_
 rw [rounds_succ]
 go_wp2_with fail
 refine wp_scope_straight ?_
 go_wp2_with fail
 go_quiet (fail)
 go_wp2_with fail
 go_quiet ((go_at_call 253; go_loud (exact (HIB.out _).mono fun e w'' h => ⟨h.1, _, h.2⟩)))
 go_wp2_with fail
 simp only [Exit.noGoto, Exit.then, Exit.inBlock]
 go_ret
 exact ⟨rfl, by first | exact Below.refl _ _ | exact Go.Proofs.below_drewN' (Below.refl _ _) _ | exact Go.Proofs.below_drewN' (Go.Proofs.below_drewN' (Below.refl _ _) _) _⟩
set_option maxHeartbeats 4000000 in
theorem idx_high3 (x : Nat) (h0 : 128 ≤ x) (hv : Lib.validRune x = true) (hx : x ≠ 65533) (rs : ByteArray) (c : UInt8) (hrs : Utf8.encode x = rs) (hsz : rs.size = 3 + 1) (hc : rs.data[3]? = some c) (hc1 : 128 ≤ c.toNat) (w : World) : Calls Tryz.prog 232 #[.string (⟨#[32, 9, 13]⟩ : ByteArray), .int .i32 x] w fun e w' => e = .returned (.int .i64 (-1)) ∧ Below w.heap.size w w' := by
 have HV := hid (fun W => Tryz.utf8_ValidRune (x : Int) W)
 rw [hv] at HV
 obtain ⟨n1, n2, n3, n4⟩ := no_high c hc1
 have HIB := hid (fun W => indexB_call [] c W)
 rw [n2, show bs [] = ByteArray.empty from by rfl] at HIB
 have HRS := run_rune (x : Int)
 rw [hrs] at HRS
 have hms : 3 < rs.size := by omega
 obtain ⟨y, hy⟩ : ∃ y : Int, y = (c.toNat : Int) := ⟨_, rfl⟩
 have hidx : ((rs[3]'hms).toNat : Int) = y := by
  rw [hy]
  have h2 : rs.data[3]? = some (rs[3]'hms) := Array.getElem?_eq_getElem (xs := rs.data) hms
  rw [show rs[3]'hms = c from (Option.some.inj (hc.symm.trans h2)).symm]
 rw [← hy] at HIB n3 n4
 have q0 : ((x : Int) == 65533) = false := beq_eq_false_iff_ne.2 (by omega)
 have q1 : ¬ (x : Int) < 128 := by omega
 have q2 : (0 : Int) ≤ x := by omega
 obtain ⟨S, hS⟩ : ∃ S, S = (⟨#[32, 9, 13]⟩ : ByteArray) := ⟨_, rfl⟩
 have h3 : S.size = 3 := by rw [hS]; rfl
 rw [← hS]
 clear hv hx hrs hc hc1 hy n1 n2 h0 hS
 go_enter Tryz.func232, Tryz.ntmps232
 go_wp2_with (go_at_call 254; ((with_reducible refine (HV.out _).mono ?_); rintro e w1 ⟨rfl, rfl⟩))
 refine wp_scope_straight ?_
 go_wp2
 refine wp_loop_rounds 2 ?_
 rw [rounds_succ]
 go_wp2
 simp only [Exit.noGoto, Exit.then, Exit.inBlock]
 go_ret
 exact ⟨rfl, Below.refl _ _⟩
end
section
open Go.RowKit Go.Shelf
attribute [local go_sem ↓] Go.wp_at_zero Go.wp_at_succ
set_option maxHeartbeats 4000000 in
theorem idx_bad (x : Nat) (h0 : 128 ≤ x) (hv : Lib.validRune x = false) (hx : x ≠ 65533) (w : World) : Calls Tryz.prog 232 #[.string (⟨#[32, 9, 13]⟩ : ByteArray), .int .i32 x] w fun e w' => e = .returned (.int .i64 (-1)) ∧ Below w.heap.size w w' := by
 have HV := hid (fun W => Tryz.utf8_ValidRune (x : Int) W)
 rw [hv] at HV
 have q0 : ((x : Int) == 65533) = false := beq_eq_false_iff_ne.2 (by omega)
 have q1 : ¬ (x : Int) < 128 := by omega
 have q2 : (0 : Int) ≤ x := by omega
 clear hv hx h0
 go_enter Tryz.func232, Tryz.ntmps232
 go_wp2_with (go_at_call 254; ((with_reducible refine (HV.out _).mono ?_); rintro e w1 ⟨rfl, rfl⟩))
 go_ret
 exact ⟨rfl, Below.refl _ _⟩
theorem idx_none (x : Nat) (h0 : 128 ≤ x) (w : World) : Calls Tryz.prog 232 #[.string (⟨#[32, 9, 13]⟩ : ByteArray), .int .i32 x] w fun e w' => e = .returned (.int .i64 (-1)) ∧ Below w.heap.size w w' := by
 by_cases hx : x = 65533
 ·subst hx; exact idx_err w
 ·cases hv : Lib.validRune x with
  | false => exact idx_bad x h0 hv hx w
  | true =>
   obtain ⟨rs, m, c, h1, h2, h3, h4, h5, h6⟩ := enc_last h0
   have : m = 1 ∨ m = 2 ∨ m = 3 := by omega
   rcases this with rfl | rfl | rfl
   ·exact idx_high1 x h0 hv hx rs c h1 h2 h5 h6 w
   ·exact idx_high2 x h0 hv hx rs c h1 h2 h5 h6 w
   ·exact idx_high3 x h0 hv hx rs c h1 h2 h5 h6 w
theorem white_low : ∀ x : Nat, x < 128 → decide (0 ≤ Lib.indexByte [32, 9, 13] x.toUInt8) = whR15 x := by decide
theorem contains_white (x : Nat) (w : World) : Calls Tryz.prog 210 #[.string (⟨#[32, 9, 13]⟩ : ByteArray), .int .i32 x] w fun e w' => e = .returned (.bool (whR15 x)) ∧ Below w.heap.size w w' := by
 by_cases h : x < 128
 ·refine (Tryz.strings_ContainsRune_ascii (⟨#[32, 9, 13]⟩ : ByteArray) (x : Int) w (by omega) (by omega)).mono ?_
  rintro e w' ⟨rfl, rfl⟩
  refine ⟨?_, Below.refl _ _⟩
  rw [Int.toNat_natCast]
  exact congrArg (fun b => Ending.returned (.bool b)) (white_low x h)
 ·have HI := hid (fun W => idx_none x (by omega) W)
  rw [whR15_big (show 128 ≤ x by omega)]
  clear h
  go_enter Tryz.func210, Tryz.ntmps210
  go_wp2_with (go_at_call 232; ((with_reducible refine (HI.out _).mono ?_); rintro e w1 ⟨rfl, b1⟩))
  go_ret
  exact ⟨rfl, b1⟩
end
set_option maxRecDepth 100000
open Go.Lib (hid)
open Go.RowKit Go.Shelf Go.Sort
set_option linter.unusedVariables false
set_option linter.unusedSimpArgs false
attribute [local go_sem ↓] Go.wp_at_zero Go.wp_at_succ

theorem dec_dig4 {n : Nat} (h : n < 10000) : Lib.decDigits n = dig4 n := by
 have e2 : n / 10 / 10 = n / 100 := Nat.div_div_eq_div_mul ..
 have e3 : n / 100 / 10 = n / 1000 := Nat.div_div_eq_div_mul ..
 unfold dig4
 by_cases h1 : n < 10
 ·rw [Lib.decDigits, dif_pos h1, if_pos h1]; rfl
 ·rw [if_neg h1, Lib.decDigits, dif_neg h1]
  by_cases h2 : n < 100
  ·rw [Lib.decDigits, dif_pos (by omega), if_pos h2]; rfl
  ·rw [if_neg h2, Lib.decDigits, dif_neg (by omega)]
   by_cases h3 : n < 1000
   ·rw [Lib.decDigits, dif_pos (by omega), if_pos h3, e2]; rfl
   ·rw [if_neg h3, Lib.decDigits, dif_neg (by omega), Lib.decDigits, dif_pos (by omega), e2, e3]; rfl
theorem parseM_digs {M : Nat} (hM : M < 18446744073709551616) : ∀ (l : List UInt8) (a : Nat), l.all digB10 = true → (a + 1) * 10 ^ l.length ≤ M + 1 → Lib.parseUintM M a l = .ok (l.foldl (fun a c => 10 * a + (c.toNat - 48)) a)
 | [], a, _, _ => rfl
 | c :: r, a, h, hm => by
   rw [List.all_cons, Bool.and_eq_true] at h
   obtain ⟨hc, hr⟩ := h
   unfold digB10 at hc
   rw [Bool.and_eq_true, decide_eq_true_eq, decide_eq_true_eq] at hc
   rw [List.length_cons, Nat.pow_succ] at hm
   have hp : 1 ≤ 10 ^ r.length := Nat.one_le_pow _ _ (by decide)
   have h1 : (10 * a + (c.toNat - 48) + 1) * 10 ^ r.length ≤ M + 1 := by
    refine Nat.le_trans (Nat.mul_le_mul_right _ (show 10 * a + (c.toNat - 48) + 1 ≤ (a + 1) * 10 by omega)) ?_
    rw [Nat.mul_assoc, Nat.mul_comm 10]; exact hm
   have h2 : 10 * a + (c.toNat - 48) + 1 ≤ M + 1 := Nat.le_trans (by simpa using Nat.mul_le_mul_left (10 * a + (c.toNat - 48) + 1) hp) h1
   unfold Lib.parseUintM
   rw [if_pos ⟨hc.1, hc.2⟩, if_neg (by omega), if_neg (by omega), Nat.mul_comm a 10, parseM_digs hM r _ hr h1]
   rfl
theorem parseM_bad {M : Nat} : ∀ (l : List UInt8) (a u : Nat), l.all digB10 = false → Lib.parseUintM M a l ≠ .ok u
 | [], a, u, h => by cases h
 | c :: r, a, u, h => by
   unfold Lib.parseUintM
   by_cases hc : 48 ≤ c.toNat ∧ c.toNat ≤ 57
   ·rw [if_pos hc]
    have hd : digB10 c = true := by unfold digB10; rw [decide_eq_true hc.1, decide_eq_true hc.2]; rfl
    rw [List.all_cons, hd, Bool.true_and] at h
    split
    ·intro e; cases e
    ·split
     ·intro e; cases e
     ·exact parseM_bad r _ u h
   ·rw [if_neg hc]; intro e; cases e
theorem parseB_digs {l : List UInt8} (h0 : l ≠ []) (h4 : l.length ≤ 4) (h : l.all digB10 = true) : Lib.parseUintB 32 l = .ok (valD l) := by
 unfold Lib.parseUintB
 rw [if_neg h0]
 refine parseM_digs (by decide) l 0 h ?_
 have : 10 ^ l.length ≤ 10 ^ 4 := Nat.pow_le_pow_right (by decide) h4
 omega
theorem parseB_bad {l : List UInt8} (h : ¬ (l ≠ [] ∧ l.all digB10 = true)) (u : Nat) : Lib.parseUintB 32 l ≠ .ok u := by
 unfold Lib.parseUintB
 by_cases h0 : l = []
 ·rw [if_pos h0]; intro e; cases e
 ·rw [if_neg h0]
  exact parseM_bad l 0 u (by cases hh : l.all digB10 with
   | false => rfl
   | true => exact absurd ⟨h0, hh⟩ h)
theorem errno_plain : (errnoT.all fun e => (parse4 e.1.data.toList).isNone) = true := by decide +kernel
theorem digits_none {s : ByteArray} {x : Nat} (h : parse4 s.data.toList = some x) : errnoR s = some x := by
 unfold errnoR
 cases hf : findR errnoT s with
 | none => exact h
 | some y =>
  exfalso
  have : ∀ l : List En10, (l.all fun e => (parse4 e.1.data.toList).isNone) = true → findR l s = some y → False := by
   intro l
   induction l with
   | nil => intro _ h; cases h
   | cons e r ih =>
    intro ha hh
    rw [List.all_cons, Bool.and_eq_true] at ha
    unfold findR at hh
    split at hh
    ·rename_i he
     have h1 := ha.1
     rw [he, h] at h1; cases h1
    ·exact ih ha.2 hh
  exact this errnoT errno_plain hf
theorem fmt_smallN (n : Nat) (h : n < 100) (w : World) : Calls Tryz.prog 150 #[.int .u64 n, .int .i64 10] w fun e w' => e = .returned (.string (bs10 (Lib.decDigits n))) ∧ Below w.heap.size w w' := by
 have HC := hid (fun W => Tryz.internal_strconv_small n h W)
 have i1 : (n : Int) < 100 := by omega
 have hw : IntKind.i64.wrap (n : Int) = n := IntWalk.i64_in _ (by omega)
 clear h
 go_enter Tryz.func150, Tryz.ntmps150
 go_wp2_with (go_at_call 167; ((with_reducible refine (HC.out _).mono ?_); rintro e w1 ⟨rfl, rfl⟩))
 go_ret
 exact ⟨rfl, Below.refl _ _⟩
set_option maxHeartbeats 12800000 in
theorem fmt_bigN (u : Nat) (hu : 100 ≤ u) (hu64 : u < 18446744073709551616) (w : World) (htab : Lib.TabIs Tryz.prog w "internal/strconv.uint64pow10" .u64 Lib.pow10Tab) :
 Calls Tryz.prog 150 #[.int .u64 u, .int .i64 10] w fun e w' => e = .returned (.string (bs10 (Lib.decDigits u))) ∧ Below w.heap.size w w' := by
 have hu1 : 1 ≤ u := by omega
 have hnd20 : Lib.nDigits u ≤ 20 := by have := Lib.numDigits_eq u hu1 hu64; split at this <;> omega
 have hal : Program.arrayLen Tryz.prog 212 = 24 := by simp [Program.arrayLen, Tryz.underlying212]
 have hsl : ∀ W, (Instr.sliceAt 212 (.pointer (some ⟨w.heap.size, 0, none⟩)) none (some (.int .i64 (Lib.nDigits u : Int))) none).run Tryz.prog W = .ok (.slice (some ⟨w.heap.size, 0, none⟩) (Lib.nDigits u) 24) W := fun W => by
  rw [run_sliceAt_array_h W 212 ⟨w.heap.size, 0, none⟩ (by simp [Program.arrayLen, Program.elem, Tryz.underlying212]) .i64 (Lib.nDigits u : Int) (by omega) (by rw [hal]; omega)]
  go_simp
 have hH0 := Lib.holds_zero0 w 212 (Lib.nDigits u) (by omega)
 have hfmt := Tryz.internal_strconv_formatBase10 w.heap.size 0 24 u (Array.replicate (Lib.nDigits u) 0) (w.alloc (.cells Lib.zeros24 212)) hH0 (by rw [Array.size_replicate]; exact Lib.lt_pow_nDigits u) hu64 (by rw [Array.size_replicate]; omega)
 rw [Array.size_replicate] at hfmt
 have HH0 := hid hH0
 have HND := hid (fun W (h : Lib.TabIs Tryz.prog W "internal/strconv.uint64pow10" .u64 Lib.pow10Tab) => Tryz.internal_strconv_numDigits u hu1 hu64 W h)
 have HT := hid htab
 have HF := hid hfmt
 have iu : ¬ (u : Int) < 100 := by omega
 have iv : (100 : Int) ≤ (u : Int) := by omega
 clear hH0 hal hfmt hu1 hu64 htab
 go_enter Tryz.func150, Tryz.ntmps150
 go_wp2_with (go_at_call 168; (refine (HND.out _ (Lib.tabIs_alloc HT.out _)).mono ?_); rintro e w1 ⟨rfl, rfl⟩)
 go_at_call 169
 refine (HF.out).mono ?_
 rintro e w' ⟨rfl, k, v', dk, rfl, hF⟩
 have hcv : (convert 159 9 (.slice (some ⟨w.heap.size, 0, none⟩) (Lib.nDigits u) 24)).run Tryz.prog ((putRow (fun (b : UInt8) => Value.int .u8 (b.toNat : Int)) (w.alloc (.cells Lib.zeros24 212)) w.heap.size 0 dk).drewN k) = .ok (.string ⟨(Lib.decDigits u).toArray⟩) ((putRow (fun (b : UInt8) => Value.int .u8 (b.toNat : Int)) (w.alloc (.cells Lib.zeros24 212)) w.heap.size 0 dk).drewN k) := by
  have h := run_convert_bytes_back (P := Tryz.prog) ((putRow (fun (b : UInt8) => Value.int .u8 (b.toNat : Int)) (w.alloc (.cells Lib.zeros24 212)) w.heap.size 0 dk).drewN k) 159 9 5 ⟨w.heap.size, 0, none⟩ 24 (Lib.decDigits u) Tryz.underlying159 Tryz.underlying5 Tryz.underlying9 (fun j hj => by
   rw [Lib.row_is_numeral hF j hj, Lib.add_plain, World.cell?_drewN]
   exact cell?_putRow (fun (b : UInt8) => Value.int .u8 (b.toNat : Int)) _ w.heap.size 0 _ dk HH0.out (by rw [hF.size, Array.size_replicate]) j (by rw [hF.size]; rw [Lib.decDigits_length] at hj; exact hj))
  rw [Lib.decDigits_length] at h
  exact h
 obtain ⟨os, eo⟩ := Lib.fin_at w (.cells Lib.zeros24 212) dk k 0
 have HB := hid (show Below w.heap.size w ((putRow (fun (b : UInt8) => Value.int .u8 (b.toNat : Int)) (w.alloc (.cells Lib.zeros24 212)) w.heap.size 0 dk).drewN k) by rw [eo]; exact Lib.below_grow _ w (Nat.le_refl _) k os)
 clear eo
 go_wp2
 go_ret
 exact ⟨rfl, HB.out⟩
theorem fmtN (n : Nat) (hn : n < 18446744073709551616) (w : World) (hG : GN w) : Calls Tryz.prog 116 #[.int .u64 n, .int .i64 10] w fun e w' => e = .returned (.string (bs10 (Lib.decDigits n))) ∧ Below w.heap.size w w' := by
 have HC := hid (show Calls Tryz.prog 150 #[.int .u64 n, .int .i64 10] w fun e w' => e = .returned (.string (bs10 (Lib.decDigits n))) ∧ Below w.heap.size w w' by
  by_cases h : n < 100
  ·exact fmt_smallN n h w
  ·exact fmt_bigN n (by omega) hn w hG.pow)
 clear hn
 go_enter Tryz.func116, Tryz.ntmps116
 go_wp2_with (go_at_call 150; ((with_reducible refine (HC.out).mono ?_); rintro e w1 ⟨rfl, b1⟩))
 go_ret
 exact ⟨rfl, b1⟩
theorem parse_yesN (s : ByteArray) (hl : s.size ≤ 4) (u : Nat) (h : Lib.parseUintB 32 s.data.toList = .ok u) (w : World) : Calls Tryz.prog 231 #[.string s, .int .i64 10, .int .i64 32] w fun e w' => e = .returned (.tuple #[.int .u64 u, .nilIface]) ∧ Below w.heap.size w w' :=
 (Tryz.strconv_ParseUint_10_at32_ok s (by omega) u h w).mono fun e w' ⟨h1, h2⟩ => ⟨h1, by
   rcases h2 with rfl | rfl
   ·exact Below.refl _ _
   ·exact Lib.bytesWorld_below _ _ _⟩
theorem parse_noN (s : ByteArray) (hl : s.size ≤ 4) (h : ∀ u, Lib.parseUintB 32 s.data.toList ≠ .ok u) (w : World) (hG : GN w) : Calls Tryz.prog 231 #[.string s, .int .i64 10, .int .i64 32] w fun e w' => ∃ (v : Int) (N : Nat), e = .returned (.tuple #[.int .u64 v, .iface 309 (.pointer (some ⟨N, 0, none⟩))]) ∧ 0 ≤ v ∧ v < 4294967296 ∧ Below w.heap.size w w' := by
 obtain ⟨t0, p0, h0⟩ := hG.syn
 obtain ⟨t1, p1, h1⟩ := hG.rng
 rcases hr : Lib.parseUintB 32 s.data.toList with u | _ | _
 ·exact absurd hr (h u)
 ·exact (Tryz.strconv_ParseUint_10_at32_syntax s (by omega) hr _ w h0 (Or.inr ⟨_, _, rfl⟩)).mono fun e w' ⟨N, e1, _, _, e2⟩ => ⟨0, N, e1, by omega, by omega, e2⟩
 ·exact (Tryz.strconv_ParseUint_10_at32_range s (by omega) hr _ w h1 (Or.inr ⟨_, _, rfl⟩)).mono fun e w' ⟨N, e1, _, _, e2⟩ => ⟨4294967295, N, e1, by omega, by omega, e2⟩
theorem decimalN (s : ByteArray) (hs : s.size ≤ maxLen) (w : World) (hG : GN w) : Calls Tryz.prog 207 #[.string s] w fun e w' =>
 e = .returned (.tuple #[.int .u32 ((parse4 s.data.toList).getD 0 : Nat), .bool (parse4 s.data.toList).isSome]) ∧ Below w.heap.size w w' := by
 have hlen : s.data.toList.length = s.size := by simp
 have hs2 : (s.size : Int) ≤ 9223372036854775807 := by unfold maxLen at hs; omega
 by_cases h4 : 4 < s.size
 ·have HV := hid (show parse4 s.data.toList = none from parse4_long (by omega))
  have i1 : (4 : Int) < s.size := by omega
  clear hG hs hlen h4
  go_enter Tryz.func207, Tryz.ntmps207
  go_wp2
  go_ret2
  exact ⟨by rw [HV.out]; rfl, Below.refl _ _⟩
 ·have i1 : ¬ (4 : Int) < s.size := by omega
  by_cases hd : s.data.toList ≠ [] ∧ s.data.toList.all digB10 = true
  ·have hp := parseB_digs hd.1 (by omega) hd.2
   have hv4 : valD s.data.toList < 10000 := Nat.lt_of_lt_of_le (valD_lt _ hd.2) (show 10 ^ s.data.toList.length ≤ 10 ^ 4 from Nat.pow_le_pow_right (by decide) (by omega))
   have HP := hid (fun W => parse_yesN s (by omega) _ hp W)
   have HV := hid (show parse4 s.data.toList = if valD s.data.toList ≤ 4095 then some (valD s.data.toList) else none by unfold parse4; rw [if_pos ⟨hd.1, by omega, hd.2⟩])
   obtain ⟨v, hv⟩ : ∃ v, v = valD s.data.toList := ⟨_, rfl⟩
   rw [← hv] at HP HV hv4
   by_cases h5 : v ≤ 4095
   ·have q1 : ¬ (4095 : Int) < v := by omega
    have hr := hid (show parse4 s.data.toList = some v by rw [HV.out, if_pos h5])
    have hw : IntKind.u32.wrap (v : Int) = v := by rw [IntKind.wrap_u32]; omega
    clear hG hs hlen h4 hd hp hv HV h5
    go_enter Tryz.func207, Tryz.ntmps207
    go_wp2_with (go_at_call 231; ((with_reducible refine (HP.out _).mono ?_); rintro e w1 ⟨rfl, b1⟩))
    go_ret2
    exact ⟨by rw [hr.out]; rfl, b1⟩
   ·have q1 : (4095 : Int) < v := by omega
    have hr := hid (show parse4 s.data.toList = none by rw [HV.out, if_neg h5])
    clear hG hs hlen h4 hd hp hv HV h5
    go_enter Tryz.func207, Tryz.ntmps207
    go_wp2_with (go_at_call 231; ((with_reducible refine (HP.out _).mono ?_); rintro e w1 ⟨rfl, b1⟩))
    go_ret2
    exact ⟨by rw [hr.out]; rfl, b1⟩
  ·have HP := hid (parse_noN s (by omega) (parseB_bad hd) w hG)
   have hr := hid (show parse4 s.data.toList = none by unfold parse4; rw [if_neg (fun h => hd ⟨h.1, h.2.2⟩)])
   clear hG hs hlen h4 hd
   go_enter Tryz.func207, Tryz.ntmps207
   go_wp2_with (go_at_call 231; ((with_reducible refine (HP.out).mono ?_); rintro e w1 ⟨v, N, rfl, v0, v1, b1⟩))
   go_ret2
   exact ⟨by rw [hr.out]; rfl, b1⟩
set_option maxHeartbeats 1600000 in
theorem errnoN (s : ByteArray) (w : World) (hG : GN w) (hs : s.size ≤ maxLen) : Calls Tryz.prog 179 #[.string s] w fun e w' =>
 e = .returned (.tuple #[.int .u32 ((errnoR s).getD 0 : Nat), .int .i64 (errE (errnoR s) 160)]) ∧ Below w.heap.size w w' := by
 have HD := hid (decimalN s hs w hG)
 have GX0 := hid hG
 have HON := hid (fun (w w' : World) => GN.on (w := w) (w' := w'))
 clear hG hs
 cases hp : parse4 s.data.toList with
 | some v =>
  rw [hp] at HD
  have HV := hid (digits_none hp)
  clear hp
  go_enter Tryz.func179, Tryz.ntmps179
  go_wp2_with (go_at_call 207; ((with_reducible refine (HD.out).mono ?_); rintro e w1 ⟨rfl, b1⟩))
  go_ret2
  exact ⟨by rw [HV.out]; rfl, b1⟩
 | none =>
  rw [hp] at HD
  have HV := hid (show errnoR s = findR errnoT s by
   unfold errnoR
   cases hf : findR errnoT s with
   | some x => rfl
   | none => exact hp)
  have HF := hid (fun (b : Nat) (W : World) (h : Rows_u32 W b errnoT) => numOf_u32 errnoT b s 160 W (by decide) h)
  rw [show errnoT.length = 15 from rfl, ← HV.out] at HF
  have HV2 := hid (show errE (errnoR s) 160 = if (errnoR s).isSome = true then 0 else 160 from rfl)
  rw [HV2.out]
  obtain ⟨x, hx⟩ : ∃ x, x = (errnoR s).getD 0 := ⟨_, rfl⟩
  obtain ⟨y, hy⟩ : ∃ y : Int, y = if (errnoR s).isSome = true then 0 else 160 := ⟨_, rfl⟩
  rw [← hx, ← hy] at HF ⊢
  have HI_errs := hid info_errs
  have HJ_errs := hid infa_errs
  clear hx hy hp HV HV2
  go_enter Tryz.func179, Tryz.ntmps179
  go_wp2_with (first
   | (go_at_call 207; ((with_reducible refine (HD.out).mono ?_); rintro e w1 ⟨rfl, b1⟩); have GX := hid (HON.out _ _ GX0.out b1))
   | ((with_reducible show wpList _ _ _ (⟨some 14, .load 154 _, _, _, _, _⟩ :: _) _ _)
      refine wpList_load_mid rfl 154 (.global 2) rfl 2 0 rfl (cellsT .u32 errnoT) _ (range_errs GX.out) Tryz.underlying154 rfl HI_errs.out ?_)
   | ((with_reducible show wpList _ _ _ (⟨some 6, .alloc 154, _, _, _, _⟩ :: _) _ _)
      refine wpList_new_errs rfl rfl ?_)
   | ((with_reducible show wpList _ _ _ (⟨none, .store 154 (.tmp 6) (.tmp 14), _, _, _, _⟩ :: _) _ _)
      refine wpList_store_mid rfl 154 (.tmp 6) (.tmp 14) rfl w1.heap.size 0 (cellsT .u32 errnoT).toArray rfl rfl (there_errs w1) HJ_errs.out (one_errs) ?_
      obtain ⟨rV, bV⟩ := copy_errs w1
      generalize (w1.alloc (.cells (zeroT_errs) 154)).setCells w1.heap.size 0 (cellsT .u32 errnoT).toArray.toList = V at rV bV ⊢)
   | (go_at_call 208; ((with_reducible refine (HF.out _ _ rV).mono ?_); rintro e w2 ⟨rfl, b2⟩)))
  go_ret2
  exact ⟨rfl, thnJ (thnJ b1 bV) b2⟩
set_option maxHeartbeats 1600000 in
theorem errnoNameN (n : Nat) (w : World) (hG : GN w) (hn : n < 4294967296) : Calls Tryz.prog 85 #[.int .u32 n] w fun e w' => e = .returned (.string (errnoNameR n)) ∧ Below w.heap.size w w' := by
 have HF := hid (fun (b : Nat) (W : World) (h : Rows_u32 W b errnoT) => namOf_u32 errnoT b n W (by decide) h)
 rw [show errnoT.length = 15 from rfl] at HF
 have HV := hid (show errnoNameR n = match nameR errnoT n with | some t => t | none => if n < 4096 then bs10 (dig4 n) else ⟨#[]⟩ from rfl)
 have GX := hid hG
 have HON := hid (fun (w w' : World) => GN.on (w := w) (w' := w'))
 have HI_errs := hid info_errs
 have HJ_errs := hid infa_errs
 have u1 : IntKind.u64.wrap (n : Int) = n := by rw [IntKind.wrap_u64]; omega
 clear hG
 cases hf : nameR errnoT n with
 | some t =>
  rw [hf] at HF HV
  obtain ⟨e, he, rfl⟩ := name_mem hf
  have e1 := errno_full e he
  obtain ⟨t, ht⟩ : ∃ t, t = e.1 := ⟨_, rfl⟩
  rw [← ht] at HF HV e1
  clear hf he ht hn
  go_enter Tryz.func85, Tryz.ntmps85
  go_wp2_with (first
   | ((with_reducible show wpList _ _ _ (⟨some 5, .load 154 _, _, _, _, _⟩ :: _) _ _)
      refine wpList_load_mid rfl 154 (.global 2) rfl 2 0 rfl (cellsT .u32 errnoT) _ (range_errs GX.out) Tryz.underlying154 rfl HI_errs.out ?_)
   | ((with_reducible show wpList _ _ _ (⟨some 3, .alloc 154, _, _, _, _⟩ :: _) _ _)
      refine wpList_new_errs rfl rfl ?_)
   | ((with_reducible show wpList _ _ _ (⟨none, .store 154 (.tmp 3) (.tmp 5), _, _, _, _⟩ :: _) _ _)
      refine wpList_store_mid rfl 154 (.tmp 3) (.tmp 5) rfl w.heap.size 0 (cellsT .u32 errnoT).toArray rfl rfl (there_errs w) HJ_errs.out (one_errs) ?_
      obtain ⟨rV, bV⟩ := copy_errs w
      generalize (w.alloc (.cells (zeroT_errs) 154)).setCells w.heap.size 0 (cellsT .u32 errnoT).toArray.toList = V at rV bV ⊢)
   | (go_at_call 115; ((with_reducible refine (HF.out _ _ rV).mono ?_); rintro e w2 ⟨rfl, b2⟩)))
  go_ret
  exact ⟨by rw [HV.out]; rfl, thnJ bV b2⟩
 | none =>
  rw [hf] at HF HV
  by_cases h4 : n < 4096
  ·have i1 : (n : Int) ≤ 4095 := by omega
   have HV2 := hid (show errnoNameR n = bs10 (dig4 n) by rw [HV.out]; show (if n < 4096 then _ else _) = _; rw [if_pos h4])
   have HD := hid (fun W (g : GN W) => fmtN n (by omega) W g)
   rw [dec_dig4 (by omega)] at HD
   clear hf h4 hn
   go_enter Tryz.func85, Tryz.ntmps85
   go_wp2_with (first
    | ((with_reducible show wpList _ _ _ (⟨some 5, .load 154 _, _, _, _, _⟩ :: _) _ _)
       refine wpList_load_mid rfl 154 (.global 2) rfl 2 0 rfl (cellsT .u32 errnoT) _ (range_errs GX.out) Tryz.underlying154 rfl HI_errs.out ?_)
    | ((with_reducible show wpList _ _ _ (⟨some 3, .alloc 154, _, _, _, _⟩ :: _) _ _)
       refine wpList_new_errs rfl rfl ?_)
    | ((with_reducible show wpList _ _ _ (⟨none, .store 154 (.tmp 3) (.tmp 5), _, _, _, _⟩ :: _) _ _)
       refine wpList_store_mid rfl 154 (.tmp 3) (.tmp 5) rfl w.heap.size 0 (cellsT .u32 errnoT).toArray rfl rfl (there_errs w) HJ_errs.out (one_errs) ?_
       obtain ⟨rV, bV⟩ := copy_errs w
       generalize (w.alloc (.cells (zeroT_errs) 154)).setCells w.heap.size 0 (cellsT .u32 errnoT).toArray.toList = V at rV bV ⊢)
    | (go_at_call 115; ((with_reducible refine (HF.out _ _ rV).mono ?_); rintro e w2 ⟨rfl, b2⟩); have B2 := hid (thnJ bV b2); have GY := hid (HON.out _ _ GX.out B2.out))
    | (go_at_call 116; ((with_reducible refine (HD.out _ GY.out).mono ?_); rintro e w3 ⟨rfl, b3⟩)))
   go_ret
   exact ⟨by rw [HV2.out]; rfl, thnJ B2.out b3⟩
  ·have i1 : ¬ (n : Int) ≤ 4095 := by omega
   have HV2 := hid (show errnoNameR n = ⟨#[]⟩ by rw [HV.out]; show (if n < 4096 then _ else _) = _; rw [if_neg h4])
   clear hf h4 hn
   go_enter Tryz.func85, Tryz.ntmps85
   go_wp2_with (first
    | ((with_reducible show wpList _ _ _ (⟨some 5, .load 154 _, _, _, _, _⟩ :: _) _ _)
       refine wpList_load_mid rfl 154 (.global 2) rfl 2 0 rfl (cellsT .u32 errnoT) _ (range_errs GX.out) Tryz.underlying154 rfl HI_errs.out ?_)
    | ((with_reducible show wpList _ _ _ (⟨some 3, .alloc 154, _, _, _, _⟩ :: _) _ _)
       refine wpList_new_errs rfl rfl ?_)
    | ((with_reducible show wpList _ _ _ (⟨none, .store 154 (.tmp 3) (.tmp 5), _, _, _, _⟩ :: _) _ _)
       refine wpList_store_mid rfl 154 (.tmp 3) (.tmp 5) rfl w.heap.size 0 (cellsT .u32 errnoT).toArray rfl rfl (there_errs w) HJ_errs.out (one_errs) ?_
       obtain ⟨rV, bV⟩ := copy_errs w
       generalize (w.alloc (.cells (zeroT_errs) 154)).setCells w.heap.size 0 (cellsT .u32 errnoT).toArray.toList = V at rV bV ⊢)
    | (go_at_call 115; ((with_reducible refine (HF.out _ _ rV).mono ?_); rintro e w2 ⟨rfl, b2⟩)))
   go_ret
   exact ⟨by rw [HV2.out]; rfl, thnJ bV b2⟩
end Go.Proofs.YtlenjfodjkhpmaaGreatDoor
