/- A rune above 127 is neither of two brackets; whether a text holds a byte of a set, as the landed package asks the library. Condition: a text of less than 2^32 - 15 bytes. -/
import Derived.Test.YtifjnioichfodaaDoorXa
import Derived.Test.YtifjnioichfodaaDoorZf
import Derived.Test.YtifjnioichfodaaDoorHc
namespace Go.Proofs.YtifjnioichfodaaDoor
open Go.RowKit Go.Shelf
set_option linter.unusedVariables false
set_option linter.unusedSimpArgs false
attribute [local go_sem ↓] Go.wp_at_zero Go.wp_at_succ

theorem brk_dec : ∀ pos, pos < 2 → (Utf8.decode (⟨#[91, 93]⟩ : ByteArray) pos).2 = 1 ∧ (Utf8.decode (⟨#[91, 93]⟩ : ByteArray) pos).1 < 128 := by decide
set_option maxRecDepth 100000 in
set_option maxHeartbeats 4000000 in
theorem brk_err (w : World) : Calls Tryd.prog 57 #[.string (⟨#[91, 93]⟩ : ByteArray), .int .i32 65533] w fun e w' => e = .returned (.int .i64 (-1)) ∧ Below w.heap.size w w' := by
  obtain ⟨S, hS⟩ : ∃ S, S = (⟨#[91, 93]⟩ : ByteArray) := ⟨_, rfl⟩
  have hd := brk_dec
  have h3 : S.size = 2 := by rw [hS]; rfl
  rw [← hS] at hd ⊢
  clear hS
  go_enter Tryd.func57, Tryd.ntmps57
  go_wp2
  go_loopg [] S.size (fun gf wx => ∃ pos : Nat, wx.heap[w.heap.size]? = some (.stringIter S pos) ∧ Below w.heap.size w wx ∧ S.size ≤ pos + gf)
  case atStart => exact ⟨0, World.iter_heap w S 0, (Below.refl _ w).alloc (Nat.le_refl _) _, by omega⟩
  case round =>
    obtain ⟨pos, hit, hbw, hfu⟩ := hrel
    by_cases hps : pos < S.size
    · obtain ⟨g', rfl⟩ : ∃ g', gk = g' + 1 := ⟨gk - 1, by omega⟩
      have hnx : ∀ ty, (Instr.next (.pointer (some ⟨w.heap.size, 0, none⟩)) true ty).run Tryd.prog wr = _ := fun ty => Lib.run_next_any_at wr w.heap.size S pos ty hit hps
      obtain ⟨hd1, hd2⟩ := hd pos (by omega)
      obtain ⟨R, hR⟩ : ∃ R, (Utf8.decode S pos).1 = R := ⟨_, rfl⟩
      rw [hR, hd1] at hnx
      rw [hR] at hd2
      have hit2 := Lib.iterAt_heap wr w.heap.size S pos (pos + 1) hit
      have hbw2 := Lib.below_iterAt hbw (k := w.heap.size) (Nat.le_refl _) S (pos + 1)
      obtain ⟨W, hWd⟩ : ∃ W, wr.iterAt w.heap.size S (pos + 1) = W := ⟨_, rfl⟩
      rw [hWd] at hnx hit2 hbw2
      have hne : ((R : Int) == 65533) = false := beq_eq_false_iff_ne.2 (by omega)
      clear hd hd1 hR hd2 hWd
      go_wp2
      go_roundg g'
      case measure => omega
      case rel => exact ⟨pos + 1, hit2, hbw2, by omega⟩
    · have hnx : ∀ ty, (Instr.next (.pointer (some ⟨w.heap.size, 0, none⟩)) true ty).run Tryd.prog wr = _ := fun ty => Lib.run_next_end_at wr w.heap.size S pos ty hit hps
      go_wp2
      go_ret
      exact ⟨rfl, hbw⟩
set_option maxRecDepth 100000 in
set_option maxHeartbeats 4000000 in
theorem brk_bad (x : Nat) (h0 : 128 ≤ x) (hv : Lib.validRune x = false) (hx : x ≠ 65533) (w : World) : Calls Tryd.prog 57 #[.string (⟨#[91, 93]⟩ : ByteArray), .int .i32 x] w fun e w' => e = .returned (.int .i64 (-1)) ∧ Below w.heap.size w w' := by
  have HV := Lib.hid (fun W => Tryd.utf8_ValidRune (x : Int) W)
  rw [hv] at HV
  have q0 : ((x : Int) == 65533) = false := beq_eq_false_iff_ne.2 (by omega)
  have q1 : ¬ (x : Int) < 128 := by omega
  have q2 : (0 : Int) ≤ x := by omega
  clear hv hx h0
  go_enter Tryd.func57, Tryd.ntmps57
  go_wp2_with (go_at_call 71; ((with_reducible refine (HV.out _).mono ?_); rintro e w1 ⟨rfl, rfl⟩))
  go_ret
  exact ⟨rfl, Below.refl _ _⟩
theorem brk_high (c : UInt8) (h : 128 ≤ c.toNat) : Lib.indexByte [] c = -1 ∧ (93 : Int) ≠ c.toNat := ⟨rfl, by omega⟩
set_option maxRecDepth 100000 in
set_option maxHeartbeats 4000000 in
theorem brk_high1 (x : Nat) (h0 : 128 ≤ x) (hv : Lib.validRune x = true) (hx : x ≠ 65533) (rs : ByteArray) (c : UInt8) (hrs : Utf8.encode x = rs) (hsz : rs.size = 1 + 1) (hc : rs.data[1]? = some c) (hc1 : 128 ≤ c.toNat) (w : World) : Calls Tryd.prog 57 #[.string (⟨#[91, 93]⟩ : ByteArray), .int .i32 x] w fun e w' => e = .returned (.int .i64 (-1)) ∧ Below w.heap.size w w' := by
  have HV := Lib.hid (fun W => Tryd.utf8_ValidRune (x : Int) W)
  rw [hv] at HV
  obtain ⟨n2, n3⟩ := brk_high c hc1
  have HIB := Lib.hid (fun W => indexB_call [] c W)
  rw [n2, show bs [] = ByteArray.empty from rfl] at HIB
  have HRS := run_rune (x : Int)
  rw [hrs] at HRS
  have hms : 1 < rs.size := by omega
  obtain ⟨y, hy⟩ : ∃ y : Int, y = (c.toNat : Int) := ⟨_, rfl⟩
  have hidx : ((rs[1]'hms).toNat : Int) = y := by
    rw [hy]
    have h2 : rs.data[1]? = some (rs[1]'hms) := Array.getElem?_eq_getElem (xs := rs.data) hms
    rw [show rs[1]'hms = c from (Option.some.inj (hc.symm.trans h2)).symm]
  rw [← hy] at HIB n3
  have q0 : ((x : Int) == 65533) = false := beq_eq_false_iff_ne.2 (by omega)
  have q1 : ¬ (x : Int) < 128 := by omega
  have q2 : (0 : Int) ≤ x := by omega
  obtain ⟨S, hS⟩ : ∃ S, S = (⟨#[91, 93]⟩ : ByteArray) := ⟨_, rfl⟩
  have h3 : S.size = 2 := by rw [hS]; rfl
  have g1 : ((S[1]'(by omega)).toNat : Int) = 93 := by subst hS; rfl
  have g2 : ((93 : Int) != y) = true := bne_iff_ne.2 n3
  have g3 : ((93 : Int) == y) = false := beq_eq_false_iff_ne.2 n3
  rw [← hS]
  clear hv hx hrs hc hc1 hy n2 h0 hS
  go_enter Tryd.func57, Tryd.ntmps57
  go_wp2_with (go_at_call 71; ((with_reducible refine (HV.out _).mono ?_); rintro e w1 ⟨rfl, rfl⟩))
  refine wp_scope_straight ?_
  go_wp2
  refine wp_loop_rounds 2 ?_
  rw [rounds_succ]
  go_wp2_with fail
  refine wp_scope_straight ?_
  go_wp2_with fail
  go_quiet (fail)
  go_wp2_with fail
  go_quiet ((go_at_call 69; go_loud (exact (HIB.out _).mono fun e w'' h => ⟨h.1, _, h.2⟩)))
  go_wp2_with fail
  simp only [Exit.noGoto, Exit.then, Exit.inBlock]
  go_ret
  exact ⟨rfl, by first | exact Below.refl _ _ | exact Go.Proofs.below_drewN' (Below.refl _ _) _ | exact Go.Proofs.below_drewN' (Go.Proofs.below_drewN' (Below.refl _ _) _) _⟩
set_option maxRecDepth 100000 in
set_option maxHeartbeats 4000000 in
theorem brk_high2 (x : Nat) (h0 : 128 ≤ x) (hv : Lib.validRune x = true) (hx : x ≠ 65533) (rs : ByteArray) (c : UInt8) (hrs : Utf8.encode x = rs) (hsz : rs.size = 2 + 1) (hc : rs.data[2]? = some c) (hc1 : 128 ≤ c.toNat) (w : World) : Calls Tryd.prog 57 #[.string (⟨#[91, 93]⟩ : ByteArray), .int .i32 x] w fun e w' => e = .returned (.int .i64 (-1)) ∧ Below w.heap.size w w' := by
  have HV := Lib.hid (fun W => Tryd.utf8_ValidRune (x : Int) W)
  rw [hv] at HV
  obtain ⟨n2, n3⟩ := brk_high c hc1
  have HIB := Lib.hid (fun W => indexB_call [] c W)
  rw [n2, show bs [] = ByteArray.empty from rfl] at HIB
  have HRS := run_rune (x : Int)
  rw [hrs] at HRS
  have hms : 2 < rs.size := by omega
  obtain ⟨y, hy⟩ : ∃ y : Int, y = (c.toNat : Int) := ⟨_, rfl⟩
  have hidx : ((rs[2]'hms).toNat : Int) = y := by
    rw [hy]
    have h2 : rs.data[2]? = some (rs[2]'hms) := Array.getElem?_eq_getElem (xs := rs.data) hms
    rw [show rs[2]'hms = c from (Option.some.inj (hc.symm.trans h2)).symm]
  rw [← hy] at HIB n3
  have q0 : ((x : Int) == 65533) = false := beq_eq_false_iff_ne.2 (by omega)
  have q1 : ¬ (x : Int) < 128 := by omega
  have q2 : (0 : Int) ≤ x := by omega
  obtain ⟨S, hS⟩ : ∃ S, S = (⟨#[91, 93]⟩ : ByteArray) := ⟨_, rfl⟩
  have h3 : S.size = 2 := by rw [hS]; rfl
  rw [← hS]
  clear hv hx hrs hc hc1 hy n2 h0 hS
  go_enter Tryd.func57, Tryd.ntmps57
  go_wp2_with (go_at_call 71; ((with_reducible refine (HV.out _).mono ?_); rintro e w1 ⟨rfl, rfl⟩))
  refine wp_scope_straight ?_
  go_wp2
  refine wp_loop_rounds 2 ?_
  rw [rounds_succ]
  go_wp2
  simp only [Exit.noGoto, Exit.then, Exit.inBlock]
  go_ret
  exact ⟨rfl, Below.refl _ _⟩
set_option maxRecDepth 100000 in
set_option maxHeartbeats 4000000 in
theorem brk_high3 (x : Nat) (h0 : 128 ≤ x) (hv : Lib.validRune x = true) (hx : x ≠ 65533) (rs : ByteArray) (c : UInt8) (hrs : Utf8.encode x = rs) (hsz : rs.size = 3 + 1) (hc : rs.data[3]? = some c) (hc1 : 128 ≤ c.toNat) (w : World) : Calls Tryd.prog 57 #[.string (⟨#[91, 93]⟩ : ByteArray), .int .i32 x] w fun e w' => e = .returned (.int .i64 (-1)) ∧ Below w.heap.size w w' := by
  have HV := Lib.hid (fun W => Tryd.utf8_ValidRune (x : Int) W)
  rw [hv] at HV
  obtain ⟨n2, n3⟩ := brk_high c hc1
  have HIB := Lib.hid (fun W => indexB_call [] c W)
  rw [n2, show bs [] = ByteArray.empty from rfl] at HIB
  have HRS := run_rune (x : Int)
  rw [hrs] at HRS
  have hms : 3 < rs.size := by omega
  obtain ⟨y, hy⟩ : ∃ y : Int, y = (c.toNat : Int) := ⟨_, rfl⟩
  have hidx : ((rs[3]'hms).toNat : Int) = y := by
    rw [hy]
    have h2 : rs.data[3]? = some (rs[3]'hms) := Array.getElem?_eq_getElem (xs := rs.data) hms
    rw [show rs[3]'hms = c from (Option.some.inj (hc.symm.trans h2)).symm]
  rw [← hy] at HIB n3
  have q0 : ((x : Int) == 65533) = false := beq_eq_false_iff_ne.2 (by omega)
  have q1 : ¬ (x : Int) < 128 := by omega
  have q2 : (0 : Int) ≤ x := by omega
  obtain ⟨S, hS⟩ : ∃ S, S = (⟨#[91, 93]⟩ : ByteArray) := ⟨_, rfl⟩
  have h3 : S.size = 2 := by rw [hS]; rfl
  rw [← hS]
  clear hv hx hrs hc hc1 hy n2 h0 hS
  go_enter Tryd.func57, Tryd.ntmps57
  go_wp2_with (go_at_call 71; ((with_reducible refine (HV.out _).mono ?_); rintro e w1 ⟨rfl, rfl⟩))
  refine wp_scope_straight ?_
  go_wp2
  refine wp_loop_rounds 2 ?_
  rw [rounds_succ]
  go_wp2
  simp only [Exit.noGoto, Exit.then, Exit.inBlock]
  go_ret
  exact ⟨rfl, Below.refl _ _⟩
theorem brk_none (x : Nat) (h0 : 128 ≤ x) (w : World) : Calls Tryd.prog 57 #[.string (⟨#[91, 93]⟩ : ByteArray), .int .i32 x] w fun e w' => e = .returned (.int .i64 (-1)) ∧ Below w.heap.size w w' := by
  by_cases hx : x = 65533
  · subst hx; exact brk_err w
  · cases hv : Lib.validRune x with
    | false => exact brk_bad x h0 hv hx w
    | true =>
      obtain ⟨rs, m, c, h1, h2, h3, h4, h5, h6⟩ := enc_last h0
      have : m = 1 ∨ m = 2 ∨ m = 3 := by omega
      rcases this with rfl | rfl | rfl
      · exact brk_high1 x h0 hv hx rs c h1 h2 h5 h6 w
      · exact brk_high2 x h0 hv hx rs c h1 h2 h5 h6 w
      · exact brk_high3 x h0 hv hx rs c h1 h2 h5 h6 w
/-- A set of bytes of the lower half, of which a rune above 127 is none. -/
structure SetC (C : List UInt8) : Prop where
  two : 2 ≤ C.length
  few : C.length < 100
  low : LowSet C
  none_ : ∀ (x : Nat) (h0 : 128 ≤ x) (w : World), Calls Tryd.prog 57 #[.string (bs C), .int .i32 x] w fun e w' => e = .returned (.int .i64 (-1)) ∧ Below w.heap.size w w'
theorem SetC.ascii {C : List UInt8} (h : SetC C) : ∀ (j : Nat) b, (bs C).data.toList[j]? = some b → b.toNat < 128 := fun j b hb => by
  rw [bs_list] at hb
  rcases Nat.lt_or_ge b.toNat 128 with h1 | h1
  · exact h1
  · have := h.low b h1
    rw [List.contains_iff_mem.2 (List.mem_of_getElem? hb)] at this
    cases this
theorem set_brk : SetC [91, 93] := ⟨by decide, by decide, low_brk, brk_none⟩
theorem set_wht : SetC [32, 9, 13] := ⟨by decide, by decide, low_wht, idx_none⟩
theorem two_split : ∀ {C : List UInt8}, 2 ≤ C.length → ∃ c0 c1 C', C = c0 :: c1 :: C'
  | [], h => by simp at h
  | [_], h => by simp at h
  | c0 :: c1 :: C', _ => ⟨c0, c1, C', rfl⟩
set_option maxHeartbeats 8000000 in
set_option maxRecDepth 1000000 in
theorem any_short {C : List UInt8} (hC : SetC C) (l : List UInt8) (h8 : l.length ≤ 8) (w : World) : Calls Tryd.prog 40 #[.string (bs l), .string (bs C)] w fun e w' => e = .returned (.int .i64 (Lib.indexAny l C)) ∧ Below w.heap.size w w' := by
  have HIR := Lib.hid hC.none_
  have HIA := Lib.hid (fun (x : Nat) (h : x < 128) (W : World) => (Tryd.strings_IndexRune_ascii (bs C) (x : Int) W (by omega) (by omega)).mono fun e w' (h : _ ∧ w' = W) => And.intro h.1 h.2.symm)
  have HLOW := Lib.hid hC.low
  have hc2 := hC.two
  obtain ⟨c0, c1, C', hCC⟩ := two_split hc2
  have hcs : (bs C).size = C'.length + 2 := by rw [bs_size, hCC]; rfl
  have hemp : (bs C).toList.isEmpty = false := by rw [bs_toList, hCC]; rfl
  have hemp2 : ((bs C).toList == []) = false := by rw [bs_toList, hCC]; rfl
  have hn1 : (((bs C).size : Int) == 1) = false := beq_eq_false_iff_ne.2 (by omega)
  have hl : (bs l).size = l.length := bs_size l
  have h8z : decide ((8 : Int) < ((bs l).size : Int)) = false := decide_eq_false (by omega)
  have HSU := Lib.hid (fun W => (Tryd.strings_shouldUseASCIISet ((bs l).size : Int) W).mono fun e w' (h : _ ∧ w' = W) => And.intro h.1 h.2.symm)
  rw [h8z] at HSU
  have HBS := Lib.hid (show (bs C).data.toList = C from bs_list C)
  rw [HBS.out] at HIA
  have HGET := Lib.hid (show ∀ i (h : i < (bs l).size), l[i]? = some ((bs l)[i]'h) from fun i h => by rw [List.getElem?_eq_getElem (by omega)]; rfl)
  have HLO := Lib.hid (fun k x h h2 => dec_low (l := l) (k := k) (x := x) h h2)
  have HHI := Lib.hid (fun k x h h2 => dec_high (l := l) (k := k) (x := x) h h2)
  have HHIT := Lib.hid (fun i x h1 h2 h3 => Lib.indexAny_hit (s := l) (chars := C) (i := i) (x := x) h1 h2 h3)
  have HNONE := Lib.hid (fun h => Lib.indexAny_none (s := l) (chars := C) h)
  obtain ⟨D, hD⟩ : ∃ D, D = bs C := ⟨_, rfl⟩
  rw [← hD] at HIR HIA hcs hemp hemp2 hn1 ⊢
  obtain ⟨S, hS⟩ : ∃ S, S = bs l := ⟨_, rfl⟩
  have HL := Lib.hid hl
  rw [← hS] at HLO HHI HSU hl HGET HL ⊢
  clear hC hc2 hCC h8z hD hS h8 hl
  go_enter Tryd.func40, Tryd.ntmps40
  go_wp2_with (go_at_call 58; ((with_reducible refine (HSU.out _).mono ?_); rintro e w1 ⟨rfl, rfl⟩))
  go_loopg [9, 10] S.size (fun gf _ _ wx => ∃ pos : Nat, wx.heap[w.heap.size]? = some (.stringIter S pos) ∧ Below w.heap.size w wx ∧ pos ≤ S.size ∧ S.size ≤ pos + gf ∧ Lib.NoAny l C pos)
  case atStart => exact ⟨0, World.iter_heap w S 0, (Below.refl _ w).alloc (Nat.le_refl _) _, Nat.zero_le _, by omega, Lib.NoAny.zero _ _⟩
  case round =>
    obtain ⟨pos, hit, hbw, hle, hfu, hno⟩ := hrel
    have HN := Lib.hid hno
    clear hno
    by_cases hps : pos < S.size
    · obtain ⟨g', rfl⟩ : ∃ g', gk = g' + 1 := ⟨gk - 1, by omega⟩
      have hnx : ∀ ty, (Instr.next (.pointer (some ⟨w.heap.size, 0, none⟩)) true ty).run Tryd.prog wr = _ := fun ty => Lib.run_next_any_at wr w.heap.size S pos ty hit hps
      obtain ⟨x, hx⟩ : ∃ x, x = S[pos]'hps := ⟨_, rfl⟩
      have hxl := HGET.out pos hps
      rw [← hx] at hxl
      by_cases hlow : x.toNat < 128
      · rw [HLO.out pos x hxl hlow] at hnx
        simp only at hnx
        have hit2 := Lib.iterAt_heap wr w.heap.size S pos (pos + 1) hit
        have hbw2 := Lib.below_iterAt hbw (k := w.heap.size) (Nat.le_refl _) S (pos + 1)
        obtain ⟨W, hWd⟩ : ∃ W, wr.iterAt w.heap.size S (pos + 1) = W := ⟨_, rfl⟩
        rw [hWd] at hnx hit2 hbw2
        have HI2 := Lib.hid (HIA.out x.toNat hlow)
        have hcon := Lib.contains_iff_indexByte C x
        have hback : ((x.toNat : Int)).toNat.toUInt8 = x := by simp
        rw [hback] at HI2
        obtain ⟨I, hI⟩ : ∃ I, I = Lib.indexByte C x := ⟨_, rfl⟩
        rw [← hI] at HI2 hcon
        have HX := Lib.hid hxl
        obtain ⟨R, hR⟩ : ∃ R : Nat, R = x.toNat := ⟨_, rfl⟩
        rw [← hR] at HI2 hnx
        clear hI hxl hx hlow hWd hback hR
        cases hin : C.contains x with
        | false =>
          rw [hin] at hcon
          have hlt : ¬ ((0 : Int) ≤ I) := of_decide_eq_false hcon.symm
          have HIN := Lib.hid hin
          clear hcon hin
          go_wp2_with (go_at_call 57; ((with_reducible refine (HI2.out _).mono ?_); rintro e w2 ⟨rfl, rfl⟩))
          go_roundg g'
          case measure => omega
          case rel => exact ⟨pos + 1, hit2, hbw2, by omega, by omega, HN.out.succ HX.out HIN.out⟩
        | true =>
          rw [hin] at hcon
          have hge : (0 : Int) ≤ I := of_decide_eq_true hcon.symm
          have HE := Lib.hid (HHIT.out pos x HN.out HX.out hin)
          clear hcon hin
          go_wp2_with (go_at_call 57; ((with_reducible refine (HI2.out _).mono ?_); rintro e w2 ⟨rfl, rfl⟩))
          go_ret
          exact ⟨by rw [HE.out]; rfl, hbw2⟩
      · obtain ⟨d1, d2, d3, d4⟩ := HHI.out pos x hxl (by omega)
        obtain ⟨R, hR⟩ : ∃ R, R = (Utf8.decode S pos).1 := ⟨_, rfl⟩
        obtain ⟨K, hK⟩ : ∃ K, K = (Utf8.decode S pos).2 := ⟨_, rfl⟩
        rw [← hR, ← hK] at hnx
        rw [← hR] at d1
        rw [← hK] at d2 d3 d4
        have hit2 := Lib.iterAt_heap wr w.heap.size S pos (pos + K) hit
        have hbw2 := Lib.below_iterAt hbw (k := w.heap.size) (Nat.le_refl _) S (pos + K)
        obtain ⟨W, hWd⟩ : ∃ W, wr.iterAt w.heap.size S (pos + K) = W := ⟨_, rfl⟩
        rw [hWd] at hnx hit2 hbw2
        have hltW : w.heap.size < W.heap.size := (Array.getElem?_eq_some_iff.1 hit2).1
        have HI2 := Lib.hid (fun W => HIR.out R d1 W)
        have HNX := Lib.hid (show Lib.NoAny l C (pos + K) from fun j b hj hb => by
          rcases Nat.lt_or_ge j pos with h1 | h1
          · exact HN.out j b h1 hb
          · exact HLOW.out b (d4 j b h1 hj hb))
        have HD := Lib.hid (And.intro d2 d3)
        clear hxl hx hlow hWd hR hK d1 d2 d3 d4
        go_wp2_with (go_at_call 57; ((with_reducible refine (HI2.out _).mono ?_); rintro e w2 ⟨rfl, b2⟩))
        go_roundg g'
        case measure => omega
        case rel => exact ⟨pos + K, (b2.block _ hltW).trans hit2, hbw2.trans (b2.mono hbw2.size), by have := HD.out.2; have := HL.out; omega, by have := HD.out.1; omega, HNX.out⟩
    · have hnx : ∀ ty, (Instr.next (.pointer (some ⟨w.heap.size, 0, none⟩)) true ty).run Tryd.prog wr = _ := fun ty => Lib.run_next_end_at wr w.heap.size S pos ty hit hps
      have HE := Lib.hid (HNONE.out (by rw [show l.length = pos by have := HL.out; omega]; exact HN.out))
      go_wp2
      go_ret
      exact ⟨by rw [HE.out]; rfl, hbw⟩
theorem bool256_info : (Tryd.prog.info? 74).map (fun i => (i.zero, i.size)) = some (some (.agg (Array.replicate 256 (.bool false))), 256) := by kernel_rfl
set_option maxRecDepth 1000000 in
theorem any_idx {C : List UInt8} (hC : SetC C) (l : List UInt8) (hl : l.length < 4294967281) (w : World) : Calls Tryd.prog 40 #[.string (bs l), .string (bs C)] w fun e w' => e = .returned (.int .i64 (Lib.indexAny l C)) ∧ Below w.heap.size w w' := by
  by_cases h8 : l.length ≤ 8
  · exact any_short hC l h8 w
  · have h := Tryd.strings_IndexAny_long (zero_of_info bool256_info).1 (bs l) (bs C) w (by rw [bs_size]; exact hC.two) (by rw [bs_size]; omega) (by rw [bs_size]; exact hl) (by rw [bs_size]; have := hC.few; omega) hC.ascii
    refine h.mono ?_
    rintro e w' ⟨rfl, rfl⟩
    rw [bs_list, bs_list]
    exact ⟨rfl, ((Below.refl _ _).alloc (Nat.le_refl _) _).alloc (by simp) _⟩
theorem any_call {C : List UInt8} (hC : SetC C) (l : List UInt8) (hl : l.length < 4294967281) (w : World) : Calls Tryd.prog 28 #[.string (bs l), .string (bs C)] w fun e w' => e = .returned (.bool (Lib.containsAny l C)) ∧ Below w.heap.size w w' := by
  have HI := Lib.hid (fun W => any_idx hC l hl W)
  unfold Lib.containsAny
  obtain ⟨I, hI⟩ : ∃ I, I = Lib.indexAny l C := ⟨_, rfl⟩
  rw [← hI] at HI ⊢
  clear hI hC hl
  go_enter Tryd.func28, Tryd.ntmps28
  go_wp2_with (go_at_call 40; ((with_reducible refine (HI.out _).mono ?_); rintro e w1 ⟨rfl, b1⟩))
  go_ret
  exact ⟨rfl, b1⟩
end Go.Proofs.YtifjnioichfodaaDoor
