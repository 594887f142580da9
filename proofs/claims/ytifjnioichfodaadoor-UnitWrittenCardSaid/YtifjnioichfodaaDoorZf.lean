/- The landed Trim and Comment: what they return of any string. Conditions: the library's two tables lie in their variables; a string has at most 2^48 bytes. -/
import Derived.Test.YtifjnioichfodaaDoorZc
namespace Go.Proofs.YtifjnioichfodaaDoor
open Go.RowKit Go.Shelf
set_option linter.unusedVariables false
set_option linter.unusedSimpArgs false
attribute [local go_sem ↓] Go.wp_at_zero Go.wp_at_succ

/-- What lies in memory: the library's two tables. -/
abbrev G12 (w : World) : Prop := Lib.Utf8Tabs 1 2 w
theorem G12_on {w w' : World} (h : G12 w) (b : Below w.heap.size w w') : G12 w' := Utf8Tabs_below h b
set_option maxRecDepth 100000 in
set_option maxHeartbeats 4000000 in
theorem idx_bad (x : Nat) (h0 : 128 ≤ x) (hv : Lib.validRune x = false) (hx : x ≠ 65533) (w : World) : Calls Tryd.prog 57 #[.string (⟨#[32, 9, 13]⟩ : ByteArray), .int .i32 x] w fun e w' => e = .returned (.int .i64 (-1)) ∧ Below w.heap.size w w' := by
  have HV := Lib.hid (fun W => Tryd.utf8_ValidRune (x : Int) W)
  rw [hv] at HV
  have q0 : ((x : Int) == 65533) = false := beq_eq_false_iff_ne.2 (by omega)
  have q1 : ¬ (x : Int) < 128 := by omega
  have q2 : (0 : Int) ≤ x := by omega
  clear hv hx h0
  go_enter Tryd.func57, Tryd.ntmps57
  go_wp2_with (go_at_call 71; ((with_reducible refine (HV.out _).mono ?_); rintro e w1 ⟨rfl, rfl⟩))
  go_ret
  exact ⟨rfl, Below.refl _ _⟩
theorem idx_none (x : Nat) (h0 : 128 ≤ x) (w : World) : Calls Tryd.prog 57 #[.string (⟨#[32, 9, 13]⟩ : ByteArray), .int .i32 x] w fun e w' => e = .returned (.int .i64 (-1)) ∧ Below w.heap.size w w' := by
  by_cases hx : x = 65533
  · subst hx; exact idx_err w
  · cases hv : Lib.validRune x with
    | false => exact idx_bad x h0 hv hx w
    | true =>
      obtain ⟨rs, m, c, h1, h2, h3, h4, h5, h6⟩ := enc_last h0
      have : m = 1 ∨ m = 2 ∨ m = 3 := by omega
      rcases this with rfl | rfl | rfl
      · exact idx_high1 x h0 hv hx rs c h1 h2 h5 h6 w
      · exact idx_high2 x h0 hv hx rs c h1 h2 h5 h6 w
      · exact idx_high3 x h0 hv hx rs c h1 h2 h5 h6 w
theorem white_low : ∀ x : Nat, x < 128 → decide (0 ≤ Lib.indexByte [32, 9, 13] x.toUInt8) = whR x := by decide
theorem contains_white (x : Nat) (w : World) : Calls Tryd.prog 62 #[.string (⟨#[32, 9, 13]⟩ : ByteArray), .int .i32 x] w fun e w' => e = .returned (.bool (whR x)) ∧ Below w.heap.size w w' := by
  by_cases h : x < 128
  · refine (Tryd.strings_ContainsRune_ascii (⟨#[32, 9, 13]⟩ : ByteArray) (x : Int) w (by omega) (by omega)).mono ?_
    rintro e w' ⟨rfl, rfl⟩
    refine ⟨?_, Below.refl _ _⟩
    rw [Int.toNat_natCast]
    exact congrArg (fun b => Ending.returned (.bool b)) (white_low x h)
  · have HI := Lib.hid (fun W => idx_none x (by omega) W)
    rw [whR_big (show 128 ≤ x by omega)]
    clear h
    go_enter Tryd.func62, Tryd.ntmps62
    go_wp2_with (go_at_call 57; ((with_reducible refine (HI.out _).mono ?_); rintro e w1 ⟨rfl, b1⟩))
    go_ret
    exact ⟨rfl, b1⟩
/-- The closure that tells white space. -/
theorem among_pays (B : Nat) (w : World) (hB : Boxed w B 9 (.string (⟨#[32, 9, 13]⟩ : ByteArray))) : PredGrows Tryd.prog 65 #[.pointer (some ⟨B, 0, none⟩)] whR w := by
  intro W x hx hb
  have hc := (boxed_below hB hb).cell
  have HC := Lib.hid (fun W => contains_white x W)
  clear hb hB hx
  show Calls Tryd.prog 65 #[.int .i32 x, .pointer (some ⟨B, 0, none⟩)] W _
  go_enter Tryd.func65, Tryd.ntmps65
  go_wp2_with (go_at_call 62; ((with_reducible refine (HC.out _).mono ?_); rintro e w1 ⟨rfl, b1⟩))
  go_ret
  exact ⟨rfl, b1⟩
theorem among_call (s : ByteArray) (w : World) : Calls Tryd.prog 48 #[.string s] w fun e w' => e = .returned (.func (.func 65) #[] #[.pointer (some ⟨w.heap.size, 0, none⟩)]) ∧ w' = w.alloc (.cells #[.string s] 9) := by
  go_enter Tryd.func48, Tryd.ntmps48
  go_wp2
  go_ret
  exact ⟨rfl, rfl⟩
theorem trim_in (l : List UInt8) (hl : l.length ≤ maxLen) (w : World) (hG : G12 w) : Calls Tryd.prog 32 #[.string (bs l)] w fun e w' => e = .returned (.string (bs (trimL l))) ∧ Below w.heap.size w w' := by
  have HA := Lib.hid (fun W => among_call (⟨#[32, 9, 13]⟩ : ByteArray) W)
  have eg : ∀ args w, (callFunc 65 args).run Tryd.prog w = .ok (.enter 65 args) w := enters_of Tryd.func65 (by kernel_rfl) rfl
  have HT := Lib.hid (Tryd.strings_TrimFunc_grows 65 _ eg whR (bs l) (w.alloc (.cells #[.string (⟨#[32, 9, 13]⟩ : ByteArray)] 9)) (by rw [bs_size]; unfold maxLen at hl; omega) (G12_on hG (ball w _)) (among_pays w.heap.size _ (Boxed.new w _ _)))
  rw [trim_is] at HT
  have HB := Lib.hid (ball w (.cells #[.string (⟨#[32, 9, 13]⟩ : ByteArray)] 9))
  clear hl hG eg
  go_enter Tryd.func32, Tryd.ntmps32
  go_wp2_with (first
    | (go_at_call 48; ((with_reducible refine (HA.out _).mono ?_); rintro e w1 ⟨rfl, rfl⟩))
    | (go_at_call 47; ((with_reducible refine (HT.out).mono ?_); rintro e w2 ⟨rfl, b2⟩)))
  go_ret
  exact ⟨rfl, th2 HB.out b2⟩
theorem bs_nil_is (l : List UInt8) (h : l = []) : bs l = ⟨#[]⟩ := by rw [h]; rfl
theorem com_in (l : List UInt8) (hl : l.length ≤ maxLen) (w : World) (hG : G12 w) : Calls Tryd.prog 54 #[.string (bs l)] w fun e w' => e = .returned (.bool (comL l)) ∧ Below w.heap.size w w' := by
  have HA := Lib.hid (fun W => among_call (⟨#[32, 9, 13]⟩ : ByteArray) W)
  have eg : ∀ args w, (callFunc 65 args).run Tryd.prog w = .ok (.enter 65 args) w := enters_of Tryd.func65 (by kernel_rfl) rfl
  have HT := Lib.hid (Tryd.strings_TrimLeftFunc_grows 65 _ eg whR (bs l) (w.alloc (.cells #[.string (⟨#[32, 9, 13]⟩ : ByteArray)] 9)) (among_pays w.heap.size _ (Boxed.new w _ _)))
  rw [left_is] at HT
  have HB := Lib.hid (ball w (.cells #[.string (⟨#[32, 9, 13]⟩ : ByteArray)] 9))
  rw [com_rest l]
  clear hl hG eg
  obtain ⟨r, hr⟩ : ∃ r, r = l.dropWhile blkB := ⟨_, rfl⟩
  rw [← hr] at HT ⊢
  clear hr
  cases r with
  | nil =>
    have e0 : (bs []).toList.isEmpty = true := by rw [bs_toList]; rfl
    have e1 : bs [] = ⟨#[]⟩ := rfl
    rw [e1] at HT
    go_enter Tryd.func54, Tryd.ntmps54
    go_wp2_with (first
      | (go_at_call 48; ((with_reducible refine (HA.out _).mono ?_); rintro e w1 ⟨rfl, rfl⟩))
      | (go_at_call 64; ((with_reducible refine (HT.out).mono ?_); rintro e w2 ⟨rfl, b2⟩)))
    go_ret
    exact ⟨rfl, th2 HB.out b2⟩
  | cons c r =>
    obtain ⟨S, hS⟩ : ∃ S, S = bs (c :: r) := ⟨_, rfl⟩
    have e0 : S.toList.isEmpty = false := by rw [hS, bs_toList]; rfl
    have e1 : (S.toList == []) = false := by rw [hS, bs_toList]; rfl
    have e2 : S.toList ≠ [] := by rw [hS, bs_toList]; simp
    have hz : 0 < S.size := by rw [hS, bs_size]; simp
    obtain ⟨y, hy⟩ : ∃ y : Int, y = (c.toNat : Int) := ⟨_, rfl⟩
    have hidx : ((S[0]'hz).toNat : Int) = y := by subst hS; rw [bs_get, hy]; rfl
    have hz1 : (0 : Int) < S.size := by omega
    have HI := Lib.hid (fun W => indexB_call [35, 59] c W)
    rw [← hy, show bs [35, 59] = ⟨#[35, 59]⟩ from rfl] at HI
    obtain ⟨I, hI⟩ : ∃ I, I = Lib.indexByte [35, 59] c := ⟨_, rfl⟩
    rw [← hI] at HI
    show Calls _ _ _ _ fun e w' => e = .returned (.bool (decide (0 ≤ Lib.indexByte [35, 59] c))) ∧ _
    rw [← hI]
    rw [← hS] at HT
    clear hI hy hS
    go_enter Tryd.func54, Tryd.ntmps54
    go_wp2_with (first
      | (go_at_call 48; ((with_reducible refine (HA.out _).mono ?_); rintro e w1 ⟨rfl, rfl⟩))
      | (go_at_call 64; ((with_reducible refine (HT.out).mono ?_); rintro e w2 ⟨rfl, b2⟩))
      | (go_at_call 69; ((with_reducible refine (HI.out _).mono ?_); rintro e w3 ⟨rfl, rfl⟩)))
    go_ret
    exact ⟨rfl, th2 HB.out b2⟩
/-- What the landed Trim and Comment return. -/
theorem trim12 (s : ByteArray) (w : World) (hG : G12 w) (hs : s.size ≤ maxLen) : Calls Tryd.prog 32 #[.string s] w fun e w' => e = .returned (.string (bs (trimL s.data.toList))) ∧ Below w.heap.size w w' := by
  have := trim_in s.data.toList (by rw [← Lib.size_eq]; exact hs) w hG
  rwa [bs_self] at this
theorem com12 (s : ByteArray) (w : World) (hG : G12 w) (hs : s.size ≤ maxLen) : Calls Tryd.prog 54 #[.string s] w fun e w' => e = .returned (.bool (comL s.data.toList)) ∧ Below w.heap.size w w' := by
  have := com_in s.data.toList (by rw [← Lib.size_eq]; exact hs) w hG
  rwa [bs_self] at this
end Go.Proofs.YtifjnioichfodaaDoor
