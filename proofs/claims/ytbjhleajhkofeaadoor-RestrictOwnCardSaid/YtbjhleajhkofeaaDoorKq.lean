/- Which runes are white space, as the landed package asks the library: a rune is sought among three bytes. No condition. -/
import Derived.Test.YtbjhleajhkofeaaDoorKh
import Derived.Test.YtbjhleajhkofeaaDoorWd
import Derived.Test.YtbjhleajhkofeaaDoorHc
import Derived.RangeFuncBox
import Derived.Deep.DrawnRows
import Derived.RegionTactic
import Derived.BigRegion
import Derived.Deep.AppendLies
import Derived.Lib.AppendIntMem
import Derived.Lib.AtoiErrMem
import Derived.Lib.IndexLaws
import Derived.OwnWalk
import Derived.Deep.QuietTactic
import Derived.WalkSmall
import Derived.Lib.FrozenHead2
import Derived.Lib.OthersKept
import Derived.Laws.Externs
import Derived.Laws.Concat
import Derived.Shelf.Strings.FuncGrows
import Derived.Deep.LoopGhost
import Derived.BigQuiet
import Derived.Scope
namespace Go.Proofs.YtbjhleajhkofeaaDoor
open Go.RowKit Go.Shelf
set_option linter.unusedVariables false
set_option linter.unusedSimpArgs false
section
open Go.RowKit Go.Shelf Go.Sort
attribute [local go_sem ↓] Go.wp_at_zero Go.wp_at_succ
theorem index8_call (l : List UInt8) (c : UInt8) (w : World) : Calls Tryd.prog 76 #[.string (bs l), .int .u8 (c.toNat : Int)] w fun e w' => e = .returned (.int .i64 (Lib.indexByte l c)) ∧ w = w' :=
  (Tryd.stringslite_IndexByte (bs l) c.toNat w).mono fun e w' ⟨h1, h2⟩ => ⟨by rw [h1, bs_list, Int.toNat_natCast]; simp, h2.symm⟩
end
section
open Go.RowKit Go.Shelf
attribute [local go_sem ↓] Go.wp_at_zero Go.wp_at_succ
theorem th2 {A B C : World} (h : Below A.heap.size A B) (k : Below B.heap.size B C) : Below A.heap.size A C := h.trans (k.mono h.size)
theorem ball (w : World) (o : Obj) : Below w.heap.size w (w.alloc o) := (Below.refl _ _).alloc (Nat.le_refl _) o
end
section
open Go.RowKit Go.Shelf
attribute [local go_sem] Oper.semAt_some
theorem boxed_below {W W' : World} {B : Nat} {t : TypeId} {v : Value} (h : Boxed W B t v) (b : Below W.heap.size W W') : Boxed W' B t v := (b.block _ (Array.getElem?_eq_some_iff.1 h).1).trans h
end
section
open Go.RowKit Go.Shelf
attribute [local go_sem ↓] Go.wp_at_zero Go.wp_at_succ
theorem indexB_call (l : List UInt8) (c : UInt8) (w : World) : Calls Tryd.prog 61 #[.string (bs l), .int .u8 (c.toNat : Int)] w fun e w' => e = .returned (.int .i64 (Lib.indexByte l c)) ∧ w' = w := by
  have HC := Lib.hid (fun W => index8_call l c W)
  go_enter Tryd.func61, Tryd.ntmps61
  go_wp2_with (go_at_call 76; ((with_reducible refine (HC.out _).mono ?_); rintro e w1 ⟨rfl, rfl⟩))
  go_ret
  exact ⟨rfl, rfl⟩
theorem white_dec : ∀ pos, pos < 3 → (Utf8.decode (⟨#[32, 9, 13]⟩ : ByteArray) pos).2 = 1 ∧ (Utf8.decode (⟨#[32, 9, 13]⟩ : ByteArray) pos).1 < 128 := by decide
set_option maxRecDepth 100000 in
set_option maxHeartbeats 4000000 in
theorem idx_err (w : World) : Calls Tryd.prog 49 #[.string (⟨#[32, 9, 13]⟩ : ByteArray), .int .i32 65533] w fun e w' => e = .returned (.int .i64 (-1)) ∧ Below w.heap.size w w' := by
  obtain ⟨S, hS⟩ : ∃ S, S = (⟨#[32, 9, 13]⟩ : ByteArray) := ⟨_, rfl⟩
  have hd := white_dec
  have h3 : S.size = 3 := by rw [hS]; rfl
  rw [← hS] at hd ⊢
  clear hS
  go_enter Tryd.func49, Tryd.ntmps49
  go_wp2
  go_loopg [] S.size (fun gf wx => ∃ pos : Nat, wx.heap[w.heap.size]? = some (.stringIter S pos) ∧ Below w.heap.size w wx ∧ S.size ≤ pos + gf)
  case atStart => exact ⟨0, World.iter_heap w S 0, (Below.refl _ w).alloc (Nat.le_refl _) _, by omega⟩
  case round =>
    obtain ⟨pos, hit, hbw, hfu⟩ := hrel
    by_cases hps : pos < S.size
    · obtain ⟨g', rfl⟩ : ∃ g', gk = g' + 1 := ⟨gk - 1, by omega⟩
      have hnx : ∀ ty, (Instr.next (.pointer (some ⟨w.heap.size, 0, none⟩)) true ty).run Tryd.prog wr = _ := fun ty => Lib.run_next_any_at wr w.heap.size S pos ty hit hps
      obtain ⟨hd1, hd2⟩ := hd pos (by omega)
      obtain ⟨R, hR⟩ : ∃ R, (Utf8.decode S pos).1 = R := ⟨_, rfl⟩
      rw [hR, hd1] at hnx
      rw [hR] at hd2
      have hit2 := Lib.iterAt_heap wr w.heap.size S pos (pos + 1) hit
      have hbw2 := Lib.below_iterAt hbw (k := w.heap.size) (Nat.le_refl _) S (pos + 1)
      obtain ⟨W, hWd⟩ : ∃ W, wr.iterAt w.heap.size S (pos + 1) = W := ⟨_, rfl⟩
      rw [hWd] at hnx hit2 hbw2
      have hne : ((R : Int) == 65533) = false := beq_eq_false_iff_ne.2 (by omega)
      clear hd hd1 hR hd2 hWd
      go_wp2
      go_roundg g'
      case measure => omega
      case rel => exact ⟨pos + 1, hit2, hbw2, by omega⟩
    · have hnx : ∀ ty, (Instr.next (.pointer (some ⟨w.heap.size, 0, none⟩)) true ty).run Tryd.prog wr = _ := fun ty => Lib.run_next_end_at wr w.heap.size S pos ty hit hps
      go_wp2
      go_ret
      exact ⟨rfl, hbw⟩
theorem enc_last {x : Nat} (h0 : 128 ≤ x) : ∃ (rs : ByteArray) (m : Nat) (c : UInt8), Utf8.encode x = rs ∧ rs.size = m + 1 ∧ 1 ≤ m ∧ m ≤ 3 ∧ rs.data[m]? = some c ∧ 128 ≤ c.toNat := by
  have lo : ∀ k : Nat, k < 64 → 128 ≤ (UInt8.ofNat (0x80 + k)).toNat := fun k hk => by rw [UInt8.toNat_ofNat']; omega
  obtain ⟨c, hc⟩ : ∃ c : Nat, (if Utf8.valid (x : Int) then (x : Int).toNat else Utf8.runeError) = c := ⟨_, rfl⟩
  have hcx : 128 ≤ c := by
    rw [← hc]
    split
    · omega
    · decide
  unfold Utf8.encode
  simp only [hc]
  rw [if_neg (by omega)]
  split
  · exact ⟨_, 1, _, rfl, rfl, by omega, by omega, rfl, lo _ (Nat.mod_lt _ (by omega))⟩
  · split
    · exact ⟨_, 2, _, rfl, rfl, by omega, by omega, rfl, lo _ (Nat.mod_lt _ (by omega))⟩
    · exact ⟨_, 3, _, rfl, rfl, by omega, by omega, rfl, lo _ (Nat.mod_lt _ (by omega))⟩
theorem no_high (c : UInt8) (h : 128 ≤ c.toNat) : Lib.indexByte [13] c = -1 ∧ Lib.indexByte [] c = -1 ∧ (9 : Int) ≠ c.toNat ∧ (13 : Int) ≠ c.toNat := by
  refine ⟨?_, rfl, by omega, by omega⟩
  unfold Lib.indexByte
  rw [beq_eq_false_iff_ne.2 (fun e => by subst e; exact absurd h (by decide))]; rfl
theorem run_rune (x : Int) (w : World) : (convert 21 9 (.int .i32 x)).run Tryd.prog w = .ok (.string (Utf8.encode x)) w := by
  simp [convert, Conv.intToString, Sem.run_bind, Result.andThen, go_sem]
set_option maxRecDepth 100000 in
set_option maxHeartbeats 4000000 in
theorem idx_high1 (x : Nat) (h0 : 128 ≤ x) (hv : Lib.validRune x = true) (hx : x ≠ 65533) (rs : ByteArray) (c : UInt8) (hrs : Utf8.encode x = rs) (hsz : rs.size = 1 + 1) (hc : rs.data[1]? = some c) (hc1 : 128 ≤ c.toNat) (w : World) : Calls Tryd.prog 49 #[.string (⟨#[32, 9, 13]⟩ : ByteArray), .int .i32 x] w fun e w' => e = .returned (.int .i64 (-1)) ∧ Below w.heap.size w w' := by
  have HV := Lib.hid (fun W => Tryd.utf8_ValidRune (x : Int) W)
  rw [hv] at HV
  obtain ⟨n1, n2, n3, n4⟩ := no_high c hc1
  have HIB := Lib.hid (fun W => indexB_call [13] c W)
  rw [n1, show bs [13] = (⟨#[32, 9, 13]⟩ : ByteArray).extract 2 3 from by decide] at HIB
  have HRS := run_rune (x : Int)
  rw [hrs] at HRS
  have hms : 1 < rs.size := by omega
  obtain ⟨y, hy⟩ : ∃ y : Int, y = (c.toNat : Int) := ⟨_, rfl⟩
  have hidx : ((rs[1]'hms).toNat : Int) = y := by
    rw [hy]
    have h2 : rs.data[1]? = some (rs[1]'hms) := Array.getElem?_eq_getElem (xs := rs.data) hms
    rw [show rs[1]'hms = c from (Option.some.inj (hc.symm.trans h2)).symm]
  rw [← hy] at HIB n3 n4
  have q0 : ((x : Int) == 65533) = false := beq_eq_false_iff_ne.2 (by omega)
  have q1 : ¬ (x : Int) < 128 := by omega
  have q2 : (0 : Int) ≤ x := by omega
  obtain ⟨S, hS⟩ : ∃ S, S = (⟨#[32, 9, 13]⟩ : ByteArray) := ⟨_, rfl⟩
  have h3 : S.size = 3 := by rw [hS]; rfl
  have g1 : ((S[1]'(by omega)).toNat : Int) = 9 := by subst hS; rfl
  have g2 : ((9 : Int) != y) = true := bne_iff_ne.2 n3
  have g3 : ((9 : Int) == y) = false := beq_eq_false_iff_ne.2 n3
  rw [← hS] at HIB ⊢
  clear hv hx hrs hc hc1 hy n1 n2 h0 hS
  go_enter Tryd.func49, Tryd.ntmps49
  go_wp2_with (go_at_call 62; ((with_reducible refine (HV.out _).mono ?_); rintro e w1 ⟨rfl, rfl⟩))
  refine wp_scope_straight ?_
  go_wp2
  refine wp_loop_rounds 2 ?_
  rw [rounds_succ]
  go_wp2_with fail
  refine wp_scope_straight ?_
  go_wp2_with fail
  go_quiet (fail)
  go_wp2_with fail
  go_quiet ((go_at_call 61; go_loud (exact (HIB.out _).mono fun e w'' h => ⟨h.1, _, h.2⟩)))
  go_wp2_with fail
  simp only [Exit.noGoto, Exit.then, Exit.inBlock]
  go_ret
  exact ⟨rfl, by first | exact Below.refl _ _ | exact Go.Proofs.below_drewN' (Below.refl _ _) _ | exact Go.Proofs.below_drewN' (Go.Proofs.below_drewN' (Below.refl _ _) _) _⟩
set_option maxRecDepth 100000 in
set_option maxHeartbeats 4000000 in
theorem idx_high2 (x : Nat) (h0 : 128 ≤ x) (hv : Lib.validRune x = true) (hx : x ≠ 65533) (rs : ByteArray) (c : UInt8) (hrs : Utf8.encode x = rs) (hsz : rs.size = 2 + 1) (hc : rs.data[2]? = some c) (hc1 : 128 ≤ c.toNat) (w : World) : Calls Tryd.prog 49 #[.string (⟨#[32, 9, 13]⟩ : ByteArray), .int .i32 x] w fun e w' => e = .returned (.int .i64 (-1)) ∧ Below w.heap.size w w' := by
  have HV := Lib.hid (fun W => Tryd.utf8_ValidRune (x : Int) W)
  rw [hv] at HV
  obtain ⟨n1, n2, n3, n4⟩ := no_high c hc1
  have HIB := Lib.hid (fun W => indexB_call [] c W)
  rw [n2, show bs [] = ByteArray.empty from by rfl] at HIB
  have HRS := run_rune (x : Int)
  rw [hrs] at HRS
  have hms : 2 < rs.size := by omega
  obtain ⟨y, hy⟩ : ∃ y : Int, y = (c.toNat : Int) := ⟨_, rfl⟩
  have hidx : ((rs[2]'hms).toNat : Int) = y := by
    rw [hy]
    have h2 : rs.data[2]? = some (rs[2]'hms) := Array.getElem?_eq_getElem (xs := rs.data) hms
    rw [show rs[2]'hms = c from (Option.some.inj (hc.symm.trans h2)).symm]
  rw [← hy] at HIB n3 n4
  have q0 : ((x : Int) == 65533) = false := beq_eq_false_iff_ne.2 (by omega)
  have q1 : ¬ (x : Int) < 128 := by omega
  have q2 : (0 : Int) ≤ x := by omega
  obtain ⟨S, hS⟩ : ∃ S, S = (⟨#[32, 9, 13]⟩ : ByteArray) := ⟨_, rfl⟩
  have h3 : S.size = 3 := by rw [hS]; rfl
  have g1 : ((S[2]'(by omega)).toNat : Int) = 13 := by subst hS; rfl
  have g2 : ((13 : Int) != y) = true := bne_iff_ne.2 n4
  have g3 : ((13 : Int) == y) = false := beq_eq_false_iff_ne.2 n4
  rw [← hS]
  clear hv hx hrs hc hc1 hy n1 n2 h0 hS
  go_enter Tryd.func49, Tryd.ntmps49
  go_wp2_with (go_at_call 62; ((with_reducible refine (HV.out _).mono ?_); rintro e w1 ⟨rfl, rfl⟩))
  refine wp_scope_straight ?_
  go_wp2
  refine wp_loop_rounds 2 ?_
  rw [rounds_succ]
  go_wp2_with fail
  refine wp_scope_straight ?_
  go_wp2_with fail
  go_quiet (fail)
  go_wp2_with fail
  go_quiet ((go_at_call 61; go_loud (exact (HIB.out _).mono fun e w'' h => ⟨h.1, _, h.2⟩)))
  go_wp2_with fail
  simp only [Exit.noGoto, Exit.then, Exit.inBlock]
  go_ret
  exact ⟨rfl, by first | exact Below.refl _ _ | exact Go.Proofs.below_drewN' (Below.refl _ _) _ | exact Go.Proofs.below_drewN' (Go.Proofs.below_drewN' (Below.refl _ _) _) _⟩
set_option maxRecDepth 100000 in
set_option maxHeartbeats 4000000 in
theorem idx_high3 (x : Nat) (h0 : 128 ≤ x) (hv : Lib.validRune x = true) (hx : x ≠ 65533) (rs : ByteArray) (c : UInt8) (hrs : Utf8.encode x = rs) (hsz : rs.size = 3 + 1) (hc : rs.data[3]? = some c) (hc1 : 128 ≤ c.toNat) (w : World) : Calls Tryd.prog 49 #[.string (⟨#[32, 9, 13]⟩ : ByteArray), .int .i32 x] w fun e w' => e = .returned (.int .i64 (-1)) ∧ Below w.heap.size w w' := by
  have HV := Lib.hid (fun W => Tryd.utf8_ValidRune (x : Int) W)
  rw [hv] at HV
  obtain ⟨n1, n2, n3, n4⟩ := no_high c hc1
  have HIB := Lib.hid (fun W => indexB_call [] c W)
  rw [n2, show bs [] = ByteArray.empty from by rfl] at HIB
  have HRS := run_rune (x : Int)
  rw [hrs] at HRS
  have hms : 3 < rs.size := by omega
  obtain ⟨y, hy⟩ : ∃ y : Int, y = (c.toNat : Int) := ⟨_, rfl⟩
  have hidx : ((rs[3]'hms).toNat : Int) = y := by
    rw [hy]
    have h2 : rs.data[3]? = some (rs[3]'hms) := Array.getElem?_eq_getElem (xs := rs.data) hms
    rw [show rs[3]'hms = c from (Option.some.inj (hc.symm.trans h2)).symm]
  rw [← hy] at HIB n3 n4
  have q0 : ((x : Int) == 65533) = false := beq_eq_false_iff_ne.2 (by omega)
  have q1 : ¬ (x : Int) < 128 := by omega
  have q2 : (0 : Int) ≤ x := by omega
  obtain ⟨S, hS⟩ : ∃ S, S = (⟨#[32, 9, 13]⟩ : ByteArray) := ⟨_, rfl⟩
  have h3 : S.size = 3 := by rw [hS]; rfl
  rw [← hS]
  clear hv hx hrs hc hc1 hy n1 n2 h0 hS
  go_enter Tryd.func49, Tryd.ntmps49
  go_wp2_with (go_at_call 62; ((with_reducible refine (HV.out _).mono ?_); rintro e w1 ⟨rfl, rfl⟩))
  refine wp_scope_straight ?_
  go_wp2
  refine wp_loop_rounds 2 ?_
  rw [rounds_succ]
  go_wp2
  simp only [Exit.noGoto, Exit.then, Exit.inBlock]
  go_ret
  exact ⟨rfl, Below.refl _ _⟩
end
section
open Go.RowKit Go.Shelf
attribute [local go_sem ↓] Go.wp_at_zero Go.wp_at_succ
set_option maxRecDepth 100000 in
set_option maxHeartbeats 4000000 in
theorem idx_bad (x : Nat) (h0 : 128 ≤ x) (hv : Lib.validRune x = false) (hx : x ≠ 65533) (w : World) : Calls Tryd.prog 49 #[.string (⟨#[32, 9, 13]⟩ : ByteArray), .int .i32 x] w fun e w' => e = .returned (.int .i64 (-1)) ∧ Below w.heap.size w w' := by
  have HV := Lib.hid (fun W => Tryd.utf8_ValidRune (x : Int) W)
  rw [hv] at HV
  have q0 : ((x : Int) == 65533) = false := beq_eq_false_iff_ne.2 (by omega)
  have q1 : ¬ (x : Int) < 128 := by omega
  have q2 : (0 : Int) ≤ x := by omega
  clear hv hx h0
  go_enter Tryd.func49, Tryd.ntmps49
  go_wp2_with (go_at_call 62; ((with_reducible refine (HV.out _).mono ?_); rintro e w1 ⟨rfl, rfl⟩))
  go_ret
  exact ⟨rfl, Below.refl _ _⟩
theorem idx_none (x : Nat) (h0 : 128 ≤ x) (w : World) : Calls Tryd.prog 49 #[.string (⟨#[32, 9, 13]⟩ : ByteArray), .int .i32 x] w fun e w' => e = .returned (.int .i64 (-1)) ∧ Below w.heap.size w w' := by
  by_cases hx : x = 65533
  · subst hx; exact idx_err w
  · cases hv : Lib.validRune x with
    | false => exact idx_bad x h0 hv hx w
    | true =>
      obtain ⟨rs, m, c, h1, h2, h3, h4, h5, h6⟩ := enc_last h0
      have : m = 1 ∨ m = 2 ∨ m = 3 := by omega
      rcases this with rfl | rfl | rfl
      · exact idx_high1 x h0 hv hx rs c h1 h2 h5 h6 w
      · exact idx_high2 x h0 hv hx rs c h1 h2 h5 h6 w
      · exact idx_high3 x h0 hv hx rs c h1 h2 h5 h6 w
theorem white_low : ∀ x : Nat, x < 128 → decide (0 ≤ Lib.indexByte [32, 9, 13] x.toUInt8) = whR15 x := by decide
theorem contains_white (x : Nat) (w : World) : Calls Tryd.prog 41 #[.string (⟨#[32, 9, 13]⟩ : ByteArray), .int .i32 x] w fun e w' => e = .returned (.bool (whR15 x)) ∧ Below w.heap.size w w' := by
  by_cases h : x < 128
  · refine (Tryd.strings_ContainsRune_ascii (⟨#[32, 9, 13]⟩ : ByteArray) (x : Int) w (by omega) (by omega)).mono ?_
    rintro e w' ⟨rfl, rfl⟩
    refine ⟨?_, Below.refl _ _⟩
    rw [Int.toNat_natCast]
    exact congrArg (fun b => Ending.returned (.bool b)) (white_low x h)
  · have HI := Lib.hid (fun W => idx_none x (by omega) W)
    rw [whR15_big (show 128 ≤ x by omega)]
    clear h
    go_enter Tryd.func41, Tryd.ntmps41
    go_wp2_with (go_at_call 49; ((with_reducible refine (HI.out _).mono ?_); rintro e w1 ⟨rfl, b1⟩))
    go_ret
    exact ⟨rfl, b1⟩
end
end Go.Proofs.YtbjhleajhkofeaaDoor
