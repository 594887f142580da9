/- The statement InsnParse holds: any bytes are read as the program, the instruction, that the chapter says, or refused; they stay. No condition. -/
import Derived.Test.YtekmbhjdacaphaaRows
import Derived.Test.YtekmbhjdacaphaaFr
import Derived.Test.YtekmbhjdacaphaaIn
import Derived.Test.YtekmbhjdacaphaaWg
import Derived.Deep.RegionHeld3
import Derived.Deep.DrawnRows
import Derived.Test.YtekmbhjdacaphaaFi
import Derived.Test.YtekmbhjdacaphaaMp
namespace Go.Proofs.Ytekmbhjdacaphaa.insnParse
open Go.ChangeShapes Go.WideShapes Go.ChangeAt Go.RowKit
open Go.ChangeMaps (open_string shut_string)
open Go.Proofs.Ytekmbhjdacaphaa.insnPrint (sameI_yes keepS below_drewN)
set_option linter.unusedVariables false
attribute [local go_sem ↓] Go.wp_at_zero Go.wp_at_succ

/-- Instructions that the call owns, whatever they are. -/
def MineI (w : World) (B : Nat) (v : Value) (n : Nat) : Prop := ∃ l : List Ins, w.ownsRow B 35 4 v n (progC l)
theorem MineI.on {w w' : World} {B n : Nat} {v : Value} (h : MineI w B v n) (hb : Below w.heap.size w w') : MineI w' B v n := by
  obtain ⟨l, h⟩ := h
  exact ⟨l, own_on h hb⟩
theorem MineI.form {w : World} {B n d : Nat} {p : Option Addr} (h : MineI w B (.slice p n d) n) (hn : 0 < n) : ∃ g, p = some ⟨g, 0, none⟩ ∧ B ≤ g := by
  obtain ⟨l, h⟩ := h
  obtain ⟨g, c, e⟩ := own_some h hn
  injection e with e1 e2 e3
  subst e1
  exact ⟨g, rfl, (h.lt g rfl).1⟩
theorem MineI.cell {w : World} {B g n d j : Nat} (m : MineI w B (.slice (some ⟨g, 0, none⟩) n d) n) (hj : j < n) : (∃ v, w.cell? ⟨g, j * 4 + 3, none⟩ = some (.int .u32 v)) ∧ w.frozen? ⟨g, j * 4 + 3, none⟩ = false := by
  obtain ⟨l, m⟩ := m
  refine ⟨?_, m.frozenAt _⟩
  have hl : l.length = n := by have := m.1; rw [progC_length] at this; omega
  rw [m.cellAt _ (by omega), progC_get (by omega) 3 (by omega)]
  exact ⟨_, rfl⟩
theorem progC_set : ∀ {l : List Ins} {i : Nat} (h : i < l.length) (u : Int), (progC l).set (i * 4 + 3) (.int .u32 u) = progC (l.set i { l[i] with k := u })
  | a :: r, 0, _, u => by
    show (insC a ++ progC r).set (0 * 4 + 3) _ = _
    rw [Nat.zero_mul, Nat.zero_add, List.set_append_left _ _ (by show 3 < 4; omega)]; rfl
  | a :: r, i + 1, h, u => by
    show (insC a ++ progC r).set ((i + 1) * 4 + 3) _ = _
    have e : (i + 1) * 4 + 3 = (insC a).length + (i * 4 + 3) := by show _ = 4 + _; omega
    rw [e, List.set_append_right _ _ (by omega), Nat.add_sub_cancel_left, progC_set (l := r) (i := i) (by simpa using h) u]
    rfl
theorem MineI.set_ {w : World} {B g n d : Nat} (m : MineI w B (.slice (some ⟨g, 0, none⟩) n d) n) (j : Nat) (u : Int) : MineI (w.setCell ⟨g, j * 4 + 3, none⟩ (.int .u32 u)) B (.slice (some ⟨g, 0, none⟩) n d) n := by
  obtain ⟨l, m⟩ := m
  have hl : l.length = n := by have := m.1; rw [progC_length] at this; omega
  have h := (m.stored (j * 4 + 3) (.int .u32 u)).1
  by_cases hj : j < l.length
  · rw [progC_set hj] at h
    exact ⟨_, h⟩
  · rw [List.set_eq_of_length_le (by rw [progC_length]; omega)] at h
    exact ⟨_, h⟩
theorem below_box {w0 w w7 : World} {o : Obj} (h : Below w0.heap.size w0 w) (b : Below (w.alloc o).heap.size (w.alloc o) w7) : Below w0.heap.size w0 w7 :=
  thn (h.alloc h.size o) b
theorem _root_.Go.Proofs.Ytekmbhjdacaphaa.Rd.on' {w w' : World} {o : Obj} {p : Option Addr} {xs : List Int} (h : Rd (w.alloc o) w.heap.size p xs) (hb : Below (w.alloc o).heap.size (w.alloc o) w') : Rd w' w'.heap.size p xs :=
  (h.below hb (by simp)).more (by have := hb.size; simp at this; omega)
theorem _root_.Go.Proofs.Ytekmbhjdacaphaa.RdI.on' {w w' : World} {o : Obj} {p : Option Addr} {xs : List Ins} (h : RdI (w.alloc o) w.heap.size p xs) (hb : Below (w.alloc o).heap.size (w.alloc o) w') : RdI w' w'.heap.size p xs :=
  (h.below hb (by simp)).more (by have := hb.size; simp at this; omega)
set_option maxRecDepth 100000 in
set_option maxHeartbeats 8000000 in
theorem bad (HC : InsnB) (a0 : Option Addr) (len0 cap0 : Nat) (z0 : List Int) (w : World) (w0 : IsBytes w a0 len0 cap0 z0) (hbig : ¬ (3000 : Int) < len0) (hn : len0 % 8 ≠ 0) :
    Calls Try.prog 4 #[.slice a0 len0 cap0] w fun e w' => e = .returned (.bool true) ∧ Below w.heap.size w w' := by
  obtain ⟨hz, hB, hfit, hmost, hr, hnil⟩ := w0
  have hs3 : len0 ≤ 3000 := by omega
  have hmost2 : cap0 ≤ 9223372036854775807 := hmost
  have hlm : len0 ≤ maxLen := by unfold maxLen; omega
  have HZ := Lib.hid hz
  have HB := Lib.hid hB
  have HR := Lib.hid hr
  have H1 := Lib.hid (refCopy_any a0 len0 cap0 z0 w hz (by omega) hr)
  have HP := Lib.hid (fun p W => HC.parseBad p len0 len0 W hn (by omega))
  have HQ := Lib.hid (fun W => refParse_bad a0 len0 cap0 W hn (by omega))
  have HD := Lib.hid (fun p W => HC.decodeBad p len0 len0 W (by omega) (by omega))
  have n8 : ((len0 : Int) != 8) = true := by simp; omega
  clear hz hB hr hnil HC hmost
  go_enter Try.func4, Try.ntmps4
  go_wp2_with (go_at_call 13; ((with_reducible refine (H1.out).mono ?_); rintro e w1 ⟨g1, rfl, o1, b1⟩))
  have rm := Rd.of_own o1
  have rb := HR.out.on b1
  clear H1 o1
  go_loopw [4] (fun i wr => ∃ k : Nat, k ≤ 2 ∧ i = .int .i64 k ∧ Below w1.heap.size w1 wr) (fun i _ => 2 - (intOf i).toNat)
  case atStart => exact ⟨0, by omega, rfl, Below.refl _ _⟩
  case round =>
    obtain ⟨k, hk, rfl, hb⟩ := hrel
    obtain ⟨W, rfl⟩ : ∃ wo : World, wo = wr := ⟨_, rfl⟩
    by_cases hlt : k < 2
    · have rm0 := rm.on hb
      have rb0 := rb.on hb
      go_wp2_with (first
        | (go_at_call 14; (with_reducible refine (HP.out _ _).mono ?_); rintro e w3 ⟨rfl, b3⟩; have rm3 := rm0.on b3; have rb3 := rb0.on b3)
        | (go_at_call 15; (with_reducible refine (HQ.out _).mono ?_); rintro e w4 ⟨rfl, rfl⟩; have b4 := Below.refl w3.heap.size w3; have rm4 := rm3.on b4; have rb4 := rb3.on b4)
        | (go_at_call 16; (with_reducible refine (HD.out _ _).mono ?_); rintro e w5 ⟨rfl, b5⟩; have rm5 := rm4.on b5; have rb5 := rb4.on b5)
        | (go_at_call 10; (with_reducible refine (sameI_yes none none 0 _ _ 0 0 [] _ rfl (by omega) (RdI.nil _ _ _) (RdI.nil _ _ _)).mono ?_); rintro e w6 ⟨rfl, b6⟩)
        | (go_at_call 9; (with_reducible refine (refSame_yes _ _ len0 _ _ _ _ z0 z0 w6 rfl HZ.out (by omega) ((rm5.alloc (Nat.le_refl _) _).on' b6) ((rb5.alloc (Nat.le_refl _) _).on' b6)).mono ?_); rintro e w7 ⟨rfl, b7⟩; have b67 := b6.trans (b7.mono b6.size); have x0 := box_cells b67 0 (.int .u16 0) rfl; have x1 := box_cells b67 1 (.int .u8 0) rfl; have x2 := box_cells b67 2 (.int .u8 0) rfl; have x3 := box_cells b67 3 (.int .u32 0) rfl))
      have hbk : Below w1.heap.size w1 w7 := below_box (thn (thn (thn hb b3) b4) b5) b67
      clear b3 b4 b5 b6 b7 b67 rm3 rm4 rm5 rb3 rb4 rb5 rm0 rb0 x0 x1 x2 x3 rm rb HQ HP HD
      go_loopw [11] (fun i wr => i = .int .i64 0 ∧ Below w1.heap.size w1 wr) (fun i _ => 1)
      case atStart => exact ⟨rfl, hbk⟩
      case round =>
        clear hbk
        obtain ⟨rfl, hbk⟩ := hrel
        go_wp2_with fail
        go_roundw
        case rel => exact ⟨k + 1, by omega, by go_num, hbk⟩
        case measure => simp [intOf]; omega
    · go_wp2_with fail
      go_ret
      exact ⟨rfl, thn b1 hb⟩
set_option maxRecDepth 100000 in
set_option maxHeartbeats 8000000 in
theorem good (HC : InsnB) (a0 : Option Addr) (len0 cap0 : Nat) (z0 : List Int) (w : World) (w0 : IsBytes w a0 len0 cap0 z0) (hbig : ¬ (3000 : Int) < len0) (N : Nat) (hN : len0 = 8 * N) (hne : len0 ≠ 8) :
    Calls Try.prog 4 #[.slice a0 len0 cap0] w fun e w' => e = .returned (.bool true) ∧ Below w.heap.size w w' := by
  obtain ⟨hz, hB, hfit, hmost, hr, hnil⟩ := w0
  have hs3 : len0 ≤ 3000 := by omega
  have hmost2 : cap0 ≤ 9223372036854775807 := hmost
  have hlm : len0 ≤ maxLen := by unfold maxLen; omega
  have HZ := Lib.hid hz
  have HB := Lib.hid hB
  have HR := Lib.hid hr
  have H1 := Lib.hid (refCopy_any a0 len0 cap0 z0 w hz (by omega) hr)
  have hN3 : N ≤ 375 := by omega
  have HP := Lib.hid (fun g W hr => HC.parse (some ⟨g, 0, none⟩) len0 len0 N z0 W hz hB hN (by omega) (Nat.le_refl _) hlm (fun h => by cases h) hr)
  have HQ := Lib.hid (fun W hr => refParse_good a0 len0 cap0 N z0 W hz hB hN (by omega) hfit hmost2 hr)
  have HD := Lib.hid (fun p W => HC.decodeBad p len0 len0 W hne (by omega))
  have n8 : ((len0 : Int) != 8) = true := by simp; omega
  clear hN
  clear hz hB hr hnil HC hmost
  go_enter Try.func4, Try.ntmps4
  go_wp2_with (go_at_call 13; ((with_reducible refine (H1.out).mono ?_); rintro e w1 ⟨g1, rfl, o1, b1⟩))
  have rm := Rd.of_own o1
  have rb := HR.out.on b1
  clear H1 o1
  go_loopw [4] (fun i wr => ∃ k : Nat, k ≤ 2 ∧ i = .int .i64 k ∧ Below w1.heap.size w1 wr) (fun i _ => 2 - (intOf i).toNat)
  case atStart => exact ⟨0, by omega, rfl, Below.refl _ _⟩
  case round =>
    obtain ⟨k, hk, rfl, hb⟩ := hrel
    obtain ⟨W, rfl⟩ : ∃ wo : World, wo = wr := ⟨_, rfl⟩
    by_cases hlt : k < 2
    · have rm0 := rm.on hb
      have rb0 := rb.on hb
      go_wp2_with (first
        | (go_at_call 14; (with_reducible refine (HP.out _ _ rm0).mono ?_); rintro e w3 ⟨q3, d3, rfl, o3, b3⟩; have rm3 := rm0.on b3; have rb3 := rb0.on b3)
        | (go_at_call 15; (with_reducible refine (HQ.out _ rb3).mono ?_); rintro e w4 ⟨q4, d4, rfl, o4, n4, b4⟩; have rm4 := rm3.on b4; have rb4 := rb3.on b4)
        | (go_at_call 16; (with_reducible refine (HD.out _ _).mono ?_); rintro e w5 ⟨rfl, b5⟩; have rm5 := rm4.on b5; have rb5 := rb4.on b5)
        | (go_at_call 10; (with_reducible refine (sameI_yes _ _ N _ _ _ _ (progI N z0) _ (progI_length _ _) (by omega) ((((own_shapeI' o3).1.on b4).on b5).alloc (Nat.le_refl _) _) (((own_shapeI' o4).1.on b5).alloc (Nat.le_refl _) _)).mono ?_); rintro e w6 ⟨rfl, b6⟩)
        | (go_at_call 9; (with_reducible refine (refSame_yes _ _ len0 _ _ _ _ z0 z0 w6 rfl HZ.out (by omega) ((rm5.alloc (Nat.le_refl _) _).on' b6) ((rb5.alloc (Nat.le_refl _) _).on' b6)).mono ?_); rintro e w7 ⟨rfl, b7⟩; have b67 := b6.trans (b7.mono b6.size); have x0 := box_cells b67 0 (.int .u16 0) rfl; have x1 := box_cells b67 1 (.int .u8 0) rfl; have x2 := box_cells b67 2 (.int .u8 0) rfl; have x3 := box_cells b67 3 (.int .u32 0) rfl))
      have hbk : Below w1.heap.size w1 w7 := below_box (thn (thn (thn hb b3) b4) b5) b67
      have mine : MineI w7 W.heap.size (.slice q3 N d3) N := (((show MineI w3 W.heap.size (.slice q3 N d3) N from ⟨_, o3⟩).on b4).on b5).on (below_box (Below.refl _ _) b67)
      have hsz := hb.size
      clear o3 o4 b3 b4 b5 b6 b7 b67 rm3 rm4 rm5 rb3 rb4 rb5 rm0 rb0 x0 x1 x2 x3 rm rb HQ HP HD
      go_loopw [11] (fun i wr => ∃ t : Nat, t ≤ N ∧ i = .int .i64 t ∧ MineI wr W.heap.size (.slice q3 N d3) N ∧ Below w1.heap.size w1 wr) (fun i _ => N - (intOf i).toNat)
      case atStart => exact ⟨0, Nat.zero_le _, rfl, mine, hbk⟩
      case round =>
        clear mine hbk
        obtain ⟨t, ht, rfl, mine, hbk⟩ := hrel
        by_cases hlt3 : t < N
        · obtain ⟨g, rfl, hg⟩ := mine.form (by omega)
          obtain ⟨⟨v, hv⟩, hf⟩ := mine.cell hlt3
          have hg1 : w1.heap.size ≤ g := Nat.le_trans hsz hg
          have t0 : (t : Int) < (N : Int) := by omega
          go_wp2
          go_roundw
          case rel => exact ⟨t + 1, by omega, by go_num, mine.set_ _ _, hbk.setCell hg1 _⟩
          case measure => simp [intOf]; omega
        · have t0 : ¬ (t : Int) < (N : Int) := by omega
          go_wp2_with fail
          go_roundw
          case rel => exact ⟨k + 1, by omega, by go_num, hbk⟩
          case measure => simp [intOf]; omega
    · go_wp2_with fail
      go_ret
      exact ⟨rfl, thn b1 hb⟩
theorem decode8 (HC : InsnB) {n : Nat} (h8 : n = 8) (p : Option Addr) (c : Nat) (xs : List Int) (w : World) (hx : xs.length = n) (hB : Byt xs) (hc : n ≤ c) (hm : c ≤ maxLen) (h : Rd w w.heap.size p xs) :
    Calls Try.prog 16 #[.slice p n c] w fun e w' => e = .returned (.tuple #[.agg #[.int .u16 (decL xs).c, .int .u8 (decL xs).jt, .int .u8 (decL xs).jf, .int .u32 (decL xs).k], .int .i64 0]) ∧ Below w.heap.size w w' := by
  subst h8; exact HC.decode p c xs w hx hB hc hm h
theorem refDecode8 {n : Nat} (h8 : n = 8) (p : Option Addr) (c : Nat) (xs : List Int) (w : World) (hx : xs.length = n) (hB : Byt xs) (h : Rd w w.heap.size p xs) :
    Calls Try.prog 17 #[.slice p n c] w fun e w' => e = .returned (.agg #[.int .u16 (decL xs).c, .int .u8 (decL xs).jt, .int .u8 (decL xs).jf, .int .u32 (decL xs).k]) ∧ Below w.heap.size w w' := by
  subst h8; exact refDecode_any p c xs w hx hB h
set_option maxRecDepth 100000 in
set_option maxHeartbeats 8000000 in
theorem eight (HC : InsnB) (a0 : Option Addr) (len0 cap0 : Nat) (z0 : List Int) (w : World) (w0 : IsBytes w a0 len0 cap0 z0) (hbig : ¬ (3000 : Int) < len0) (h8 : len0 = 8) :
    Calls Try.prog 4 #[.slice a0 len0 cap0] w fun e w' => e = .returned (.bool true) ∧ Below w.heap.size w w' := by
  obtain ⟨hz, hB, hfit, hmost, hr, hnil⟩ := w0
  have hs3 : len0 ≤ 3000 := by omega
  have hmost2 : cap0 ≤ 9223372036854775807 := hmost
  have hlm : len0 ≤ maxLen := by unfold maxLen; omega
  have HZ := Lib.hid hz
  have HB := Lib.hid hB
  have HR := Lib.hid hr
  have H1 := Lib.hid (refCopy_any a0 len0 cap0 z0 w hz (by omega) hr)
  have HP := Lib.hid (fun g W hr => HC.parse (some ⟨g, 0, none⟩) len0 len0 1 z0 W hz hB (by omega) (by omega) (Nat.le_refl _) hlm (fun h => by cases h) hr)
  have HQ := Lib.hid (fun W hr => refParse_good a0 len0 cap0 1 z0 W hz hB (by omega) (by omega) hfit hmost2 hr)
  have HD := Lib.hid (fun g W hr => decode8 HC h8 (some ⟨g, 0, none⟩) len0 z0 W hz hB (Nat.le_refl _) hlm hr)
  have HE := Lib.hid (fun W hr => refDecode8 h8 a0 cap0 z0 W hz hB hr)
  obtain ⟨de, hde⟩ : ∃ d, d = decL z0 := ⟨_, rfl⟩
  rw [← hde] at HD HE
  obtain ⟨ci, ti, fi, ki⟩ := de
  have n8 : ((len0 : Int) != 8) = false := by simp; omega
  clear h8 hde
  clear hz hB hr hnil HC hmost
  go_enter Try.func4, Try.ntmps4
  go_wp2_with (go_at_call 13; ((with_reducible refine (H1.out).mono ?_); rintro e w1 ⟨g1, rfl, o1, b1⟩))
  have rm := Rd.of_own o1
  have rb := HR.out.on b1
  clear H1 o1
  go_loopw [4] (fun i wr => ∃ k : Nat, k ≤ 2 ∧ i = .int .i64 k ∧ Below w1.heap.size w1 wr) (fun i _ => 2 - (intOf i).toNat)
  case atStart => exact ⟨0, by omega, rfl, Below.refl _ _⟩
  case round =>
    obtain ⟨k, hk, rfl, hb⟩ := hrel
    obtain ⟨W, rfl⟩ : ∃ wo : World, wo = wr := ⟨_, rfl⟩
    by_cases hlt : k < 2
    · have rm0 := rm.on hb
      have rb0 := rb.on hb
      go_wp2_with (first
        | (go_at_call 14; (with_reducible refine (HP.out _ _ rm0).mono ?_); rintro e w3 ⟨q3, d3, rfl, o3, b3⟩; have rm3 := rm0.on b3; have rb3 := rb0.on b3)
        | (go_at_call 15; (with_reducible refine (HQ.out _ rb3).mono ?_); rintro e w4 ⟨q4, d4, rfl, o4, n4, b4⟩; have rm4 := rm3.on b4; have rb4 := rb3.on b4)
        | (go_at_call 16; (with_reducible refine (HD.out _ _ rm4).mono ?_); rintro e w5 ⟨rfl, b5⟩; have rm5 := rm4.on b5; have rb5 := rb4.on b5)
        | (go_at_call 10; (with_reducible refine (sameI_yes _ _ 1 _ _ _ _ (progI 1 z0) _ (progI_length _ _) (by omega) ((((own_shapeI' o3).1.on b4).on b5).alloc (Nat.le_refl _) _) (((own_shapeI' o4).1.on b5).alloc (Nat.le_refl _) _)).mono ?_); rintro e w6 ⟨rfl, b6⟩)
        | (go_at_call 17; (with_reducible refine (HE.out _ (((rb5.alloc (Nat.le_refl _) _).on' b6).on b7)).mono ?_); rintro e w8 ⟨rfl, b8⟩)
        | (go_at_call 9; (with_reducible refine (refSame_yes _ _ len0 _ _ _ _ z0 z0 w6 rfl HZ.out (by omega) ((rm5.alloc (Nat.le_refl _) _).on' b6) ((rb5.alloc (Nat.le_refl _) _).on' b6)).mono ?_); rintro e w7 ⟨rfl, b7⟩; have b67 := b6.trans (b7.mono b6.size); have x0 := box_cells b67 0 (.int .u16 ci) rfl; have x1 := box_cells b67 1 (.int .u8 ti) rfl; have x2 := box_cells b67 2 (.int .u8 fi) rfl; have x3 := box_cells b67 3 (.int .u32 ki) rfl))
      have rb7 := ((rb5.alloc (Nat.le_refl _) _).on' b6).on b7
      have hbk0 : Below w1.heap.size w1 w7 := below_box (thn (thn (thn hb b3) b4) b5) b67
      have mine0 : MineI w7 W.heap.size (.slice q3 1 d3) 1 := (((show MineI w3 W.heap.size (.slice q3 1 d3) 1 from ⟨_, o3⟩).on b4).on b5).on (below_box (Below.refl _ _) b67)
      have hsz := hb.size
      clear o3 o4 b3 b4 b5 b6 b7 b67 rm3 rm4 rm5 rb3 rb4 rb5 rm0 rb0 rm rb HQ HP HD
      go_region_held3 (fun w' => w'.cell? ⟨w5.heap.size, 0, none⟩ = some (.int .u16 ci) ∧ w'.cell? ⟨w5.heap.size, 1, none⟩ = some (.int .u8 ti) ∧ w'.cell? ⟨w5.heap.size, 2, none⟩ = some (.int .u8 fi) ∧ w'.cell? ⟨w5.heap.size, 3, none⟩ = some (.int .u32 ki))
        (first | go_keep | exact ⟨keepS (by assumption) (And.left (by assumption)), keepS (by assumption) (And.left (And.right (by assumption))), keepS (by assumption) (And.left (And.right (And.right (by assumption)))), keepS (by assumption) (And.right (And.right (And.right (by assumption))))⟩ | exact ⟨keepS (by assumption) (by assumption), keepS (by assumption) (by assumption), keepS (by assumption) (by assumption), keepS (by assumption) (by assumption)⟩)
        (first | (go_at_call 17; refine (HE.out _ (by first | exact rb7 | exact rb7.drewN _ | exact rb7.drewN 1)).mono ?_; rintro e w8 ⟨rfl, b8⟩))
      have b8' : Below w7.heap.size w7 w8 := (Below.refl _ _).drew.trans b8
      have mine := mine0.on b8'
      have hbk := thn hbk0 b8'
      clear b8 b8' mine0 hbk0 rb7 x0 x1 x2 x3
      go_wp2_with fail
      go_loopw [11] (fun i wr => ∃ t : Nat, t ≤ 1 ∧ i = .int .i64 t ∧ MineI wr W.heap.size (.slice q3 1 d3) 1 ∧ Below w1.heap.size w1 wr) (fun i _ => 1 - (intOf i).toNat)
      case atStart => exact ⟨0, Nat.zero_le _, rfl, mine, hbk⟩
      case round =>
        clear mine hbk
        obtain ⟨t, ht, rfl, mine, hbk⟩ := hrel
        by_cases hlt3 : t < 1
        · obtain ⟨g, rfl, hg⟩ := mine.form (by omega)
          obtain ⟨⟨v, hv⟩, hf⟩ := mine.cell hlt3
          have hg1 : w1.heap.size ≤ g := Nat.le_trans hsz hg
          have t0 : (t : Int) < (1 : Int) := by omega
          go_wp2
          go_roundw
          case rel => exact ⟨t + 1, by omega, by go_num, mine.set_ _ _, hbk.setCell hg1 _⟩
          case measure => simp [intOf]; omega
        · have t0 : ¬ (t : Int) < (1 : Int) := by omega
          go_wp2_with fail
          go_roundw
          case rel => exact ⟨k + 1, by omega, by go_num, hbk⟩
          case measure => simp [intOf]; omega
    · go_wp2_with fail
      go_ret
      exact ⟨rfl, thn b1 hb⟩
theorem walk (HC : InsnB) (a0 : Option Addr) (len0 cap0 : Nat) (z0 : List Int) (w : World) (w0 : IsBytes w a0 len0 cap0 z0) :
    Calls Try.prog 4 #[.slice a0 len0 cap0] w fun e w' => e = .returned (.bool true) ∧ Below w.heap.size w w' := by
  by_cases hbig : (3000 : Int) < len0
  · go_enter Try.func4, Try.ntmps4
    go_wp2_with fail
    go_ret
    exact ⟨rfl, Below.refl _ _⟩
  · by_cases h8 : len0 = 8
    · exact eight HC a0 len0 cap0 z0 w w0 hbig h8
    · by_cases hn : len0 % 8 = 0
      · exact good HC a0 len0 cap0 z0 w w0 hbig (len0 / 8) (by omega) h8
      · exact bad HC a0 len0 cap0 z0 w w0 hbig hn

set_option maxRecDepth 100000 in
theorem lifted (HC : InsnB) (os : Os) (started : os.Started) (H : Type) (enc : TypeId × Value → H) :
    ReturnsInHanded {} Try.checked os 4 .any (Rows.insnParseSpec.pre6 enc Try.prog Try.f4 Rows.insnParseRow.domain false) (Rows.insnParseSpec.post enc Try.prog Try.f4 false true false false) := by
  refine returnsInHanded_of_change (C := Try.checked) ownKnob_none started (by kernel_rfl) Try.func4
    (ChangeSpec.witness6 (enc := enc) (C := Try.checked) false ⟨#[], #[.slice none 0 0], []⟩ 8 (by kernel_rfl) (by kernel_rfl) (by kernel_rfl) (by kernel_rfl)) ?_
  intro W base args ds gs before hval0 hW hcnd _
  have hval : ∀ (j : Nat) t v, Try.f4.params[j]? = some t → args[j]? = some v → Value.okWide Try.prog W .any base t v := hval0
  have hW' := hW
  obtain ⟨p, q, hA0, hV, rfl, hfz, hnd⟩ := hW
  have hA : DataW.TrodAll enc Try.prog W 0 (fun _ => true) true Try.f4.params.toList args.toList ds p := hA0
  rw [Try.params4] at hA hval
  obtain ⟨v0, vs0, d0, ds0, p0, q0, hargs, rfl, rfl, h0, r0⟩ := trodAll_cons hA
  obtain ⟨rfl, rfl, rfl⟩ := trodAll_nil r0
  obtain rfl : args = #[v0] := by cases args; simp_all
  obtain ⟨rfl, rfl⟩ := trodVars_none hV
  obtain ⟨a0, len0, cap0, rfl⟩ := okWide_slice Try.underlying24 (hval 0 24 v0 rfl rfl)
  have k0 := h0
  have lt0 : ∀ x ∈ p0, x.block < W.heap.size := by obtain ⟨m, hm⟩ := k0; exact DataW.trod_lt m _ _ _ hm
  obtain ⟨z0, w0⟩ := bytes_open h0 lt0
  clear hA0 hval0
  refine (walk HC a0 len0 cap0 z0 W w0).mono fun e W' ⟨he, bel⟩ => ?_
  subst he
  exact ⟨_, rfl, _, _, _, [], _, [], hW', trodAll_mk1 (shut_bool Try.underlying4 _), (trodAll_cons_mk (Below.trod laidOut (by kernel_rfl) (of_decide_eq_true (by kernel_rfl)) k0 bel lt0) trodAll_mk0), rfl, bel.frame _, fun h => by cases h⟩

theorem over (HC : InsnB) : Rows.insnParseRow.holds Try.pinned (OpenSpec.ofChange Rows.insnParseSpec) :=
  OpenClaim.holds_of_wide 4 Try.f4 rfl rfl rfl rfl rfl rfl rfl ⟨rfl, rfl, rfl, rfl, rfl⟩ rfl rfl rfl rfl rfl (by kernel_rfl) Try.func4 (by kernel_rfl)
    (of_decide_eq_true (by kernel_rfl)) (by unfold Func.isWrapper; first | (rw [if_pos (by decide +kernel)]; kernel_rfl) | (rw [if_neg (by decide +kernel)]; exact ⟨rfl, rfl⟩))
    (fun os started H enc _ => lifted HC os started H enc)

/-- The statement. -/
theorem proved : Rows.InsnParseSaid := over insnB
#print axioms proved

end Go.Proofs.Ytekmbhjdacaphaa.insnParse
