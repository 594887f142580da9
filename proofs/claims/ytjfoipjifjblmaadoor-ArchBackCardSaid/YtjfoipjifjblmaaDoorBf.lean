/- The statement ArchBack holds, over what the calls have to return: each architecture has a name, which is its own; of its token and a number that is its own it is the architecture; whoever a token and a number are, it has that token. -/
import Derived.Test.YtjfoipjifjblmaaDoorRows
import Derived.Test.YtjfoipjifjblmaaDoorCards
import Derived.Test.YtjfoipjifjblmaaDoorTie
import Derived.SevenTiedAt
import Derived.Test.YtjfoipjifjblmaaDoorWd
import Derived.Test.YtjfoipjifjblmaaDoorLy
import Derived.Test.YtjfoipjifjblmaaDoorBj
import Derived.Test.YtjfoipjifjblmaaDoorBc
import Derived.Laws.BitsAllLaws
namespace Go.Proofs.YtjfoipjifjblmaaDoor.archBack
open Go.ChangeShapes Go.WideShapes Go.ChangeAt Go.RowKit
open Go.ChangeMaps (open_string shut_string)
set_option linter.unusedVariables false
attribute [local go_sem ↓] Go.wp_at_zero Go.wp_at_succ
theorem bit_or (n : Nat) : (n ||| 1073741824) / 1073741824 % 2 = 1 := by
  have h : (n ||| 1073741824).testBit 30 = true := by rw [Nat.testBit_or]; simp [show Nat.testBit 1073741824 30 = true from by decide]
  rw [Nat.testBit_eq_decide_div_mod_eq] at h
  exact of_decide_eq_true h
theorem bit_not (n : Nat) : (n &&& 3221225471) / 1073741824 % 2 = 0 := by
  have h : (n &&& 3221225471).testBit 30 = false := by rw [Nat.testBit_and, show Nat.testBit 3221225471 30 = false from by decide, Bool.and_false]
  rw [Nat.testBit_eq_decide_div_mod_eq] at h
  have := of_decide_eq_false h
  omega
theorem or_lt (n : Nat) (h : n < 4294967296) : n ||| 1073741824 < 4294967296 := Nat.or_lt_two_pow (n := 32) h (by decide)
theorem and_lt (n : Nat) (h : n < 4294967296) : n &&& 3221225471 < 4294967296 := Nat.lt_of_le_of_lt Nat.and_le_left h
theorem findT_some {t : Int} {k : Nat} (h : findT t = some k) (ht : t ≠ 3221225534) : k = 1 ∨ k = 3 ∨ k = 4 ∨ k = 5 := by
  unfold findT at h
  rw [List.findIdx?_eq_some_iff_getElem] at h
  obtain ⟨hk, h1, _⟩ := h
  have hl : archT.length = 6 := rfl
  have h2 : archT[k] = t := of_decide_eq_true h1
  match k, hk, h2 with
  | 0, _, h2 => exact absurd h2.symm ht
  | 1, _, _ => simp
  | 2, _, h2 => exact absurd h2.symm ht
  | 3, _, _ => simp
  | 4, _, _ => simp
  | 5, _, _ => simp
  | k + 6, hk, _ => omega
theorem ofR_some {t : Int} {k : Nat} (h0 : t ≠ 3221225534) (h : findT t = some k) (nr : Int) : ofR t nr = (((k : Nat) : Int), true) := by unfold ofR; rw [if_neg h0, h]
theorem ofR_none {t : Int} (h0 : t ≠ 3221225534) (h : findT t = none) (nr : Int) : ofR t nr = (0, false) := by unfold ofR; rw [if_neg h0, h]
set_option maxRecDepth 100000 in
set_option maxHeartbeats 32000000 in
theorem core_y {G : World → Prop} (HC : ArchC G) (t : Int) (n : Nat) (nn : n < 4294967296) (p : Int) (p0 : -9223372036854775808 ≤ p) (p1 : p ≤ 9223372036854775807)  (w : World) (hG : G w)
    (HOT : ∀ W, G W → Calls Tryd.prog 16 #[.int .u32 t, .int .u32 n] W fun e w' => e = .returned (.tuple #[.int .i64 p, .bool true]) ∧ Below W.heap.size W w')
    (HTT : ∀ W, G W → Calls Tryd.prog 13 #[.int .i64 p] W fun e w' => e = .returned (.tuple #[.int .u32 t, .int .i64 0]) ∧ Below W.heap.size W w') :
    Calls Tryd.prog 5 #[.int .u32 t, .int .u32 n] w fun e w' => e = .returned (.bool true) ∧ Below w.heap.size w w' := by
  have hy : bits .or .u32 (n : Int) 1073741824 = ((n ||| 1073741824 : Nat) : Int) := u32_or_nat n 1073741824 nn (by decide)
  have hz : bits .andNot .u32 (n : Int) 1073741824 = ((n &&& 3221225471 : Nat) : Int) := u32_andNot_nat n 1073741824 nn (by decide)
  have LY := Lib.hid (or_lt n nn)
  have LZ := Lib.hid (and_lt n nn)
  have BY := Lib.hid (bit_or n)
  have BZ := Lib.hid (bit_not n)
  have HON := Lib.hid (fun (w w' : World) => HC.on (w := w) (w' := w'))
  have HG := Lib.hid hG
  have HAL := Lib.hid (HC.all w hG)
  have HN := Lib.hid (fun (a : Int) (h0 : -9223372036854775808 ≤ a) (h1 : a ≤ 9223372036854775807) (W : World) (g : G W) => HC.name a W g h0 h1)
  have HP := Lib.hid (fun (s : ByteArray) (h : s.size ≤ maxLen) (W : World) (g : G W) => HC.parse s W g h)
  have HT := Lib.hid (fun (a : Int) (h0 : -9223372036854775808 ≤ a) (h1 : a ≤ 9223372036854775807) (W : World) (g : G W) => HC.token a W g h0 h1)
  have HO := Lib.hid (fun (t n : Int) (h0 : 0 ≤ t) (h1 : t < 4294967296) (h2 : 0 ≤ n) (h3 : n < 4294967296) (W : World) (g : G W) => HC.of_ t n W g h0 h1 h2 h3)
  have HA := Lib.hid (fun (W : World) (g : G W) => awake8_any HC W g)
  have HOT := Lib.hid HOT
  have HTT := Lib.hid HTT
  have tt : (t == t) = true := by simp
  clear HC hG p0 p1 nn
  go_enter Tryd.func5, Tryd.ntmps5
  go_wp2_with (go_at_call 20; ((with_reducible refine (HAL.out).mono ?_); rintro e v1 ⟨b, o, c, rfl, hb, hcs, b1⟩); have G1 := Lib.hid (HON.out _ _ HG.out b1); have B1 := Lib.hid b1; have HCS := Lib.hid hcs; clear b1 hcs)
  go_loopw [6] (fun v6 wr => ∃ i : Nat, i ≤ 6 ∧ v6 = .int .i64 i ∧ Hid (Below v1.heap.size v1 wr)) (fun v6 _ => 6 - (intOf v6).toNat)
  case atStart => exact ⟨0, by omega, rfl, Lib.hid (Below.refl _ _)⟩
  case round =>
    obtain ⟨i, hi, rfl, PB⟩ := hrel
    obtain ⟨W, rfl⟩ : ∃ wo : World, wo = wr := ⟨_, rfl⟩
    have GW' := Lib.hid (HON.out _ _ G1.out PB.out)
    by_cases h6 : i < 6
    · have hc := fun (i : Nat) (h : i < 6) => (PB.out.cell (p := ⟨b, o + i, none⟩) hb).trans (HCS.out i h)
      clear HCS
      have ly := LY.out
      have lz := LZ.out
      have by_ := BY.out
      have bz := BZ.out
      rcases (by omega : i = 0 ∨ i = 1 ∨ i = 2 ∨ i = 3 ∨ i = 4 ∨ i = 5) with rfl | rfl | rfl | rfl | rfl | rfl
      · have HN1 := Lib.hid (fun (V : World) (g : G V) => HN.out 0 (by decide) (by decide) V g)
        have HP1 := Lib.hid (fun (V : World) (g : G V) => HP.out ⟨#[120, 56, 54, 45, 54, 52]⟩ (by unfold maxLen; decide) V g)
        have HT1 := Lib.hid (fun (V : World) (g : G V) => HT.out 0 (by decide) (by decide) V g)
        have HO1 := Lib.hid (fun (V : World) (g : G V) => HO.out 3221225534 (((n &&& 3221225471 : Nat) : Nat) : Int) (by decide) (by decide) (by omega) (by omega) V g)
        rw [show nameR 0 = ⟨#[120, 56, 54, 45, 54, 52]⟩ from by kernel_rfl] at HN1
        rw [show parR ⟨#[120, 56, 54, 45, 54, 52]⟩ = (0, 0) from by kernel_rfl] at HP1
        rw [show tokR 0 = 3221225534 from by kernel_rfl, show tokE 0 = 0 from by kernel_rfl] at HT1
        rw [show ofR 3221225534 (((n &&& 3221225471 : Nat) : Nat) : Int) = (0, true) from by unfold ofR; rw [if_pos rfl, if_neg (by omega)]] at HO1
        have c : W.cell? ⟨b, o, none⟩ = some (.int .i64 0) := hc 0 (by omega)
        clear HN HP HT HO HOT HTT hc
        go_wp2_with (first
          | (go_at_call 11; ((with_reducible refine (HN1.out _ GW'.out).mono ?_); rintro e v2 ⟨rfl, b2⟩); have G2 := HON.out _ _ GW'.out b2; have c2 := (b2.cell (World.block_lt_of_cell? _ _ c)).trans c)
          | (go_at_call 9; ((with_reducible refine (HP1.out _ G2).mono ?_); rintro e v3 ⟨rfl, b3⟩); have G3 := HON.out _ _ G2 b3; have B3 := thn b2 b3; have c3 := (b3.cell (World.block_lt_of_cell? _ _ c2)).trans c2)
          | (go_at_call 13; ((with_reducible refine (HT1.out _ G3).mono ?_); rintro e v4 ⟨rfl, b4⟩); have G4 := HON.out _ _ G3 b4; have B4 := thn B3 b4; have c4 := (b4.cell (World.block_lt_of_cell? _ _ c3)).trans c3)
          | (go_at_call 16; ((with_reducible refine (HO1.out _ G4).mono ?_); rintro e v5 ⟨rfl, b5⟩); have B5 := thn B4 b5; have c5 := (b5.cell (World.block_lt_of_cell? _ _ c4)).trans c4))
        go_roundw
        case rel => exact ⟨0 + 1, by omega, by go_num, Lib.hid (thn PB.out B5)⟩
        case measure => simp [intOf]
      · have HN1 := Lib.hid (fun (V : World) (g : G V) => HN.out 1 (by decide) (by decide) V g)
        have HP1 := Lib.hid (fun (V : World) (g : G V) => HP.out ⟨#[120, 56, 54]⟩ (by unfold maxLen; decide) V g)
        have HT1 := Lib.hid (fun (V : World) (g : G V) => HT.out 1 (by decide) (by decide) V g)
        have HO1 := Lib.hid (fun (V : World) (g : G V) => HO.out 1073741827 (((n &&& 3221225471 : Nat) : Nat) : Int) (by decide) (by decide) (by omega) (by omega) V g)
        rw [show nameR 1 = ⟨#[120, 56, 54]⟩ from by kernel_rfl] at HN1
        rw [show parR ⟨#[120, 56, 54]⟩ = (1, 0) from by kernel_rfl] at HP1
        rw [show tokR 1 = 1073741827 from by kernel_rfl, show tokE 1 = 0 from by kernel_rfl] at HT1
        rw [show ofR 1073741827 (((n &&& 3221225471 : Nat) : Nat) : Int) = (1, true) from by unfold ofR; rw [if_neg (by decide), show findT 1073741827 = some 1 from by kernel_rfl]; rfl] at HO1
        have c := hc 1 (by omega)
        clear HN HP HT HO HOT HTT hc
        go_wp2_with (first
          | (go_at_call 11; ((with_reducible refine (HN1.out _ GW'.out).mono ?_); rintro e v2 ⟨rfl, b2⟩); have G2 := HON.out _ _ GW'.out b2; have c2 := (b2.cell (World.block_lt_of_cell? _ _ c)).trans c)
          | (go_at_call 9; ((with_reducible refine (HP1.out _ G2).mono ?_); rintro e v3 ⟨rfl, b3⟩); have G3 := HON.out _ _ G2 b3; have B3 := thn b2 b3; have c3 := (b3.cell (World.block_lt_of_cell? _ _ c2)).trans c2)
          | (go_at_call 13; ((with_reducible refine (HT1.out _ G3).mono ?_); rintro e v4 ⟨rfl, b4⟩); have G4 := HON.out _ _ G3 b4; have B4 := thn B3 b4; have c4 := (b4.cell (World.block_lt_of_cell? _ _ c3)).trans c3)
          | (go_at_call 16; ((with_reducible refine (HO1.out _ G4).mono ?_); rintro e v5 ⟨rfl, b5⟩); have B5 := thn B4 b5; have c5 := (b5.cell (World.block_lt_of_cell? _ _ c4)).trans c4))
        go_roundw
        case rel => exact ⟨1 + 1, by omega, by go_num, Lib.hid (thn PB.out B5)⟩
        case measure => simp [intOf]
      · have HN1 := Lib.hid (fun (V : World) (g : G V) => HN.out 2 (by decide) (by decide) V g)
        have HP1 := Lib.hid (fun (V : World) (g : G V) => HP.out ⟨#[120, 51, 50]⟩ (by unfold maxLen; decide) V g)
        have HT1 := Lib.hid (fun (V : World) (g : G V) => HT.out 2 (by decide) (by decide) V g)
        have HO1 := Lib.hid (fun (V : World) (g : G V) => HO.out 3221225534 (((n ||| 1073741824 : Nat) : Nat) : Int) (by decide) (by decide) (by omega) (by omega) V g)
        rw [show nameR 2 = ⟨#[120, 51, 50]⟩ from by kernel_rfl] at HN1
        rw [show parR ⟨#[120, 51, 50]⟩ = (2, 0) from by kernel_rfl] at HP1
        rw [show tokR 2 = 3221225534 from by kernel_rfl, show tokE 2 = 0 from by kernel_rfl] at HT1
        rw [show ofR 3221225534 (((n ||| 1073741824 : Nat) : Nat) : Int) = (2, true) from by unfold ofR; rw [if_pos rfl, if_pos (by omega)]] at HO1
        have c := hc 2 (by omega)
        clear HN HP HT HO HOT HTT hc
        go_wp2_with (first
          | (go_at_call 11; ((with_reducible refine (HN1.out _ GW'.out).mono ?_); rintro e v2 ⟨rfl, b2⟩); have G2 := HON.out _ _ GW'.out b2; have c2 := (b2.cell (World.block_lt_of_cell? _ _ c)).trans c)
          | (go_at_call 9; ((with_reducible refine (HP1.out _ G2).mono ?_); rintro e v3 ⟨rfl, b3⟩); have G3 := HON.out _ _ G2 b3; have B3 := thn b2 b3; have c3 := (b3.cell (World.block_lt_of_cell? _ _ c2)).trans c2)
          | (go_at_call 13; ((with_reducible refine (HT1.out _ G3).mono ?_); rintro e v4 ⟨rfl, b4⟩); have G4 := HON.out _ _ G3 b4; have B4 := thn B3 b4; have c4 := (b4.cell (World.block_lt_of_cell? _ _ c3)).trans c3)
          | (go_at_call 16; ((with_reducible refine (HO1.out _ G4).mono ?_); rintro e v5 ⟨rfl, b5⟩); have B5 := thn B4 b5; have c5 := (b5.cell (World.block_lt_of_cell? _ _ c4)).trans c4))
        go_roundw
        case rel => exact ⟨2 + 1, by omega, by go_num, Lib.hid (thn PB.out B5)⟩
        case measure => simp [intOf]
      · have HN1 := Lib.hid (fun (V : World) (g : G V) => HN.out 3 (by decide) (by decide) V g)
        have HP1 := Lib.hid (fun (V : World) (g : G V) => HP.out ⟨#[97, 114, 109]⟩ (by unfold maxLen; decide) V g)
        have HT1 := Lib.hid (fun (V : World) (g : G V) => HT.out 3 (by decide) (by decide) V g)
        have HO1 := Lib.hid (fun (V : World) (g : G V) => HO.out 1073741864 (((n &&& 3221225471 : Nat) : Nat) : Int) (by decide) (by decide) (by omega) (by omega) V g)
        rw [show nameR 3 = ⟨#[97, 114, 109]⟩ from by kernel_rfl] at HN1
        rw [show parR ⟨#[97, 114, 109]⟩ = (3, 0) from by kernel_rfl] at HP1
        rw [show tokR 3 = 1073741864 from by kernel_rfl, show tokE 3 = 0 from by kernel_rfl] at HT1
        rw [show ofR 1073741864 (((n &&& 3221225471 : Nat) : Nat) : Int) = (3, true) from by unfold ofR; rw [if_neg (by decide), show findT 1073741864 = some 3 from by kernel_rfl]; rfl] at HO1
        have c := hc 3 (by omega)
        clear HN HP HT HO HOT HTT hc
        go_wp2_with (first
          | (go_at_call 11; ((with_reducible refine (HN1.out _ GW'.out).mono ?_); rintro e v2 ⟨rfl, b2⟩); have G2 := HON.out _ _ GW'.out b2; have c2 := (b2.cell (World.block_lt_of_cell? _ _ c)).trans c)
          | (go_at_call 9; ((with_reducible refine (HP1.out _ G2).mono ?_); rintro e v3 ⟨rfl, b3⟩); have G3 := HON.out _ _ G2 b3; have B3 := thn b2 b3; have c3 := (b3.cell (World.block_lt_of_cell? _ _ c2)).trans c2)
          | (go_at_call 13; ((with_reducible refine (HT1.out _ G3).mono ?_); rintro e v4 ⟨rfl, b4⟩); have G4 := HON.out _ _ G3 b4; have B4 := thn B3 b4; have c4 := (b4.cell (World.block_lt_of_cell? _ _ c3)).trans c3)
          | (go_at_call 16; ((with_reducible refine (HO1.out _ G4).mono ?_); rintro e v5 ⟨rfl, b5⟩); have B5 := thn B4 b5; have c5 := (b5.cell (World.block_lt_of_cell? _ _ c4)).trans c4))
        go_roundw
        case rel => exact ⟨3 + 1, by omega, by go_num, Lib.hid (thn PB.out B5)⟩
        case measure => simp [intOf]
      · have HN1 := Lib.hid (fun (V : World) (g : G V) => HN.out 4 (by decide) (by decide) V g)
        have HP1 := Lib.hid (fun (V : World) (g : G V) => HP.out ⟨#[97, 114, 109, 54, 52]⟩ (by unfold maxLen; decide) V g)
        have HT1 := Lib.hid (fun (V : World) (g : G V) => HT.out 4 (by decide) (by decide) V g)
        have HO1 := Lib.hid (fun (V : World) (g : G V) => HO.out 3221225655 (((n &&& 3221225471 : Nat) : Nat) : Int) (by decide) (by decide) (by omega) (by omega) V g)
        rw [show nameR 4 = ⟨#[97, 114, 109, 54, 52]⟩ from by kernel_rfl] at HN1
        rw [show parR ⟨#[97, 114, 109, 54, 52]⟩ = (4, 0) from by kernel_rfl] at HP1
        rw [show tokR 4 = 3221225655 from by kernel_rfl, show tokE 4 = 0 from by kernel_rfl] at HT1
        rw [show ofR 3221225655 (((n &&& 3221225471 : Nat) : Nat) : Int) = (4, true) from by unfold ofR; rw [if_neg (by decide), show findT 3221225655 = some 4 from by kernel_rfl]; rfl] at HO1
        have c := hc 4 (by omega)
        clear HN HP HT HO HOT HTT hc
        go_wp2_with (first
          | (go_at_call 11; ((with_reducible refine (HN1.out _ GW'.out).mono ?_); rintro e v2 ⟨rfl, b2⟩); have G2 := HON.out _ _ GW'.out b2; have c2 := (b2.cell (World.block_lt_of_cell? _ _ c)).trans c)
          | (go_at_call 9; ((with_reducible refine (HP1.out _ G2).mono ?_); rintro e v3 ⟨rfl, b3⟩); have G3 := HON.out _ _ G2 b3; have B3 := thn b2 b3; have c3 := (b3.cell (World.block_lt_of_cell? _ _ c2)).trans c2)
          | (go_at_call 13; ((with_reducible refine (HT1.out _ G3).mono ?_); rintro e v4 ⟨rfl, b4⟩); have G4 := HON.out _ _ G3 b4; have B4 := thn B3 b4; have c4 := (b4.cell (World.block_lt_of_cell? _ _ c3)).trans c3)
          | (go_at_call 16; ((with_reducible refine (HO1.out _ G4).mono ?_); rintro e v5 ⟨rfl, b5⟩); have B5 := thn B4 b5; have c5 := (b5.cell (World.block_lt_of_cell? _ _ c4)).trans c4))
        go_roundw
        case rel => exact ⟨4 + 1, by omega, by go_num, Lib.hid (thn PB.out B5)⟩
        case measure => simp [intOf]
      · have HN1 := Lib.hid (fun (V : World) (g : G V) => HN.out 5 (by decide) (by decide) V g)
        have HP1 := Lib.hid (fun (V : World) (g : G V) => HP.out ⟨#[114, 105, 115, 99, 118, 54, 52]⟩ (by unfold maxLen; decide) V g)
        have HT1 := Lib.hid (fun (V : World) (g : G V) => HT.out 5 (by decide) (by decide) V g)
        have HO1 := Lib.hid (fun (V : World) (g : G V) => HO.out 3221225715 (((n &&& 3221225471 : Nat) : Nat) : Int) (by decide) (by decide) (by omega) (by omega) V g)
        rw [show nameR 5 = ⟨#[114, 105, 115, 99, 118, 54, 52]⟩ from by kernel_rfl] at HN1
        rw [show parR ⟨#[114, 105, 115, 99, 118, 54, 52]⟩ = (5, 0) from by kernel_rfl] at HP1
        rw [show tokR 5 = 3221225715 from by kernel_rfl, show tokE 5 = 0 from by kernel_rfl] at HT1
        rw [show ofR 3221225715 (((n &&& 3221225471 : Nat) : Nat) : Int) = (5, true) from by unfold ofR; rw [if_neg (by decide), show findT 3221225715 = some 5 from by kernel_rfl]; rfl] at HO1
        have c := hc 5 (by omega)
        clear HN HP HT HO HOT HTT hc
        go_wp2_with (first
          | (go_at_call 11; ((with_reducible refine (HN1.out _ GW'.out).mono ?_); rintro e v2 ⟨rfl, b2⟩); have G2 := HON.out _ _ GW'.out b2; have c2 := (b2.cell (World.block_lt_of_cell? _ _ c)).trans c)
          | (go_at_call 9; ((with_reducible refine (HP1.out _ G2).mono ?_); rintro e v3 ⟨rfl, b3⟩); have G3 := HON.out _ _ G2 b3; have B3 := thn b2 b3; have c3 := (b3.cell (World.block_lt_of_cell? _ _ c2)).trans c2)
          | (go_at_call 13; ((with_reducible refine (HT1.out _ G3).mono ?_); rintro e v4 ⟨rfl, b4⟩); have G4 := HON.out _ _ G3 b4; have B4 := thn B3 b4; have c4 := (b4.cell (World.block_lt_of_cell? _ _ c3)).trans c3)
          | (go_at_call 16; ((with_reducible refine (HO1.out _ G4).mono ?_); rintro e v5 ⟨rfl, b5⟩); have B5 := thn B4 b5; have c5 := (b5.cell (World.block_lt_of_cell? _ _ c4)).trans c4))
        go_roundw
        case rel => exact ⟨5 + 1, by omega, by go_num, Lib.hid (thn PB.out B5)⟩
        case measure => simp [intOf]
    · obtain rfl : i = 6 := by omega
      clear HN HP HT HO HCS
      go_wp2_with (first
        | (go_at_call 16; ((with_reducible refine (HOT.out _ GW'.out).mono ?_); rintro e v2 ⟨rfl, b2⟩); have G2 := HON.out _ _ GW'.out b2)
        | (go_at_call 13; ((with_reducible refine (HTT.out _ G2).mono ?_); rintro e v3 ⟨rfl, b3⟩); have G3 := HON.out _ _ G2 b3; have B3 := thn b2 b3)
        | (go_at_call 12; ((with_reducible refine (HA.out _ G3).mono ?_); rintro e v4 ⟨rfl, b4⟩); have B4 := thn B3 b4))
      go_ret
      exact ⟨by first | rfl | simp, thn (thn B1.out PB.out) B4⟩
set_option maxRecDepth 100000 in
set_option maxHeartbeats 32000000 in
theorem core_n {G : World → Prop} (HC : ArchC G) (t : Int) (n : Nat) (nn : n < 4294967296) (p : Int) (p0 : -9223372036854775808 ≤ p) (p1 : p ≤ 9223372036854775807) (x y : Int) (w : World) (hG : G w)
    (HOT : ∀ W, G W → Calls Tryd.prog 16 #[.int .u32 t, .int .u32 n] W fun e w' => e = .returned (.tuple #[.int .i64 p, .bool false]) ∧ Below W.heap.size W w')
    (HTT : ∀ W, G W → Calls Tryd.prog 13 #[.int .i64 p] W fun e w' => e = .returned (.tuple #[.int .u32 x, .int .i64 y]) ∧ Below W.heap.size W w') :
    Calls Tryd.prog 5 #[.int .u32 t, .int .u32 n] w fun e w' => e = .returned (.bool true) ∧ Below w.heap.size w w' := by
  have hy : bits .or .u32 (n : Int) 1073741824 = ((n ||| 1073741824 : Nat) : Int) := u32_or_nat n 1073741824 nn (by decide)
  have hz : bits .andNot .u32 (n : Int) 1073741824 = ((n &&& 3221225471 : Nat) : Int) := u32_andNot_nat n 1073741824 nn (by decide)
  have LY := Lib.hid (or_lt n nn)
  have LZ := Lib.hid (and_lt n nn)
  have BY := Lib.hid (bit_or n)
  have BZ := Lib.hid (bit_not n)
  have HON := Lib.hid (fun (w w' : World) => HC.on (w := w) (w' := w'))
  have HG := Lib.hid hG
  have HAL := Lib.hid (HC.all w hG)
  have HN := Lib.hid (fun (a : Int) (h0 : -9223372036854775808 ≤ a) (h1 : a ≤ 9223372036854775807) (W : World) (g : G W) => HC.name a W g h0 h1)
  have HP := Lib.hid (fun (s : ByteArray) (h : s.size ≤ maxLen) (W : World) (g : G W) => HC.parse s W g h)
  have HT := Lib.hid (fun (a : Int) (h0 : -9223372036854775808 ≤ a) (h1 : a ≤ 9223372036854775807) (W : World) (g : G W) => HC.token a W g h0 h1)
  have HO := Lib.hid (fun (t n : Int) (h0 : 0 ≤ t) (h1 : t < 4294967296) (h2 : 0 ≤ n) (h3 : n < 4294967296) (W : World) (g : G W) => HC.of_ t n W g h0 h1 h2 h3)
  have HA := Lib.hid (fun (W : World) (g : G W) => awake8_any HC W g)
  have HOT := Lib.hid HOT
  have HTT := Lib.hid HTT
  have tt : (t == t) = true := by simp
  clear HC hG p0 p1 nn
  go_enter Tryd.func5, Tryd.ntmps5
  go_wp2_with (go_at_call 20; ((with_reducible refine (HAL.out).mono ?_); rintro e v1 ⟨b, o, c, rfl, hb, hcs, b1⟩); have G1 := Lib.hid (HON.out _ _ HG.out b1); have B1 := Lib.hid b1; have HCS := Lib.hid hcs; clear b1 hcs)
  go_loopw [6] (fun v6 wr => ∃ i : Nat, i ≤ 6 ∧ v6 = .int .i64 i ∧ Hid (Below v1.heap.size v1 wr)) (fun v6 _ => 6 - (intOf v6).toNat)
  case atStart => exact ⟨0, by omega, rfl, Lib.hid (Below.refl _ _)⟩
  case round =>
    obtain ⟨i, hi, rfl, PB⟩ := hrel
    obtain ⟨W, rfl⟩ : ∃ wo : World, wo = wr := ⟨_, rfl⟩
    have GW' := Lib.hid (HON.out _ _ G1.out PB.out)
    by_cases h6 : i < 6
    · have hc := fun (i : Nat) (h : i < 6) => (PB.out.cell (p := ⟨b, o + i, none⟩) hb).trans (HCS.out i h)
      clear HCS
      have ly := LY.out
      have lz := LZ.out
      have by_ := BY.out
      have bz := BZ.out
      rcases (by omega : i = 0 ∨ i = 1 ∨ i = 2 ∨ i = 3 ∨ i = 4 ∨ i = 5) with rfl | rfl | rfl | rfl | rfl | rfl
      · have HN1 := Lib.hid (fun (V : World) (g : G V) => HN.out 0 (by decide) (by decide) V g)
        have HP1 := Lib.hid (fun (V : World) (g : G V) => HP.out ⟨#[120, 56, 54, 45, 54, 52]⟩ (by unfold maxLen; decide) V g)
        have HT1 := Lib.hid (fun (V : World) (g : G V) => HT.out 0 (by decide) (by decide) V g)
        have HO1 := Lib.hid (fun (V : World) (g : G V) => HO.out 3221225534 (((n &&& 3221225471 : Nat) : Nat) : Int) (by decide) (by decide) (by omega) (by omega) V g)
        rw [show nameR 0 = ⟨#[120, 56, 54, 45, 54, 52]⟩ from by kernel_rfl] at HN1
        rw [show parR ⟨#[120, 56, 54, 45, 54, 52]⟩ = (0, 0) from by kernel_rfl] at HP1
        rw [show tokR 0 = 3221225534 from by kernel_rfl, show tokE 0 = 0 from by kernel_rfl] at HT1
        rw [show ofR 3221225534 (((n &&& 3221225471 : Nat) : Nat) : Int) = (0, true) from by unfold ofR; rw [if_pos rfl, if_neg (by omega)]] at HO1
        have c : W.cell? ⟨b, o, none⟩ = some (.int .i64 0) := hc 0 (by omega)
        clear HN HP HT HO HOT HTT hc
        go_wp2_with (first
          | (go_at_call 11; ((with_reducible refine (HN1.out _ GW'.out).mono ?_); rintro e v2 ⟨rfl, b2⟩); have G2 := HON.out _ _ GW'.out b2; have c2 := (b2.cell (World.block_lt_of_cell? _ _ c)).trans c)
          | (go_at_call 9; ((with_reducible refine (HP1.out _ G2).mono ?_); rintro e v3 ⟨rfl, b3⟩); have G3 := HON.out _ _ G2 b3; have B3 := thn b2 b3; have c3 := (b3.cell (World.block_lt_of_cell? _ _ c2)).trans c2)
          | (go_at_call 13; ((with_reducible refine (HT1.out _ G3).mono ?_); rintro e v4 ⟨rfl, b4⟩); have G4 := HON.out _ _ G3 b4; have B4 := thn B3 b4; have c4 := (b4.cell (World.block_lt_of_cell? _ _ c3)).trans c3)
          | (go_at_call 16; ((with_reducible refine (HO1.out _ G4).mono ?_); rintro e v5 ⟨rfl, b5⟩); have B5 := thn B4 b5; have c5 := (b5.cell (World.block_lt_of_cell? _ _ c4)).trans c4))
        go_roundw
        case rel => exact ⟨0 + 1, by omega, by go_num, Lib.hid (thn PB.out B5)⟩
        case measure => simp [intOf]
      · have HN1 := Lib.hid (fun (V : World) (g : G V) => HN.out 1 (by decide) (by decide) V g)
        have HP1 := Lib.hid (fun (V : World) (g : G V) => HP.out ⟨#[120, 56, 54]⟩ (by unfold maxLen; decide) V g)
        have HT1 := Lib.hid (fun (V : World) (g : G V) => HT.out 1 (by decide) (by decide) V g)
        have HO1 := Lib.hid (fun (V : World) (g : G V) => HO.out 1073741827 (((n &&& 3221225471 : Nat) : Nat) : Int) (by decide) (by decide) (by omega) (by omega) V g)
        rw [show nameR 1 = ⟨#[120, 56, 54]⟩ from by kernel_rfl] at HN1
        rw [show parR ⟨#[120, 56, 54]⟩ = (1, 0) from by kernel_rfl] at HP1
        rw [show tokR 1 = 1073741827 from by kernel_rfl, show tokE 1 = 0 from by kernel_rfl] at HT1
        rw [show ofR 1073741827 (((n &&& 3221225471 : Nat) : Nat) : Int) = (1, true) from by unfold ofR; rw [if_neg (by decide), show findT 1073741827 = some 1 from by kernel_rfl]; rfl] at HO1
        have c := hc 1 (by omega)
        clear HN HP HT HO HOT HTT hc
        go_wp2_with (first
          | (go_at_call 11; ((with_reducible refine (HN1.out _ GW'.out).mono ?_); rintro e v2 ⟨rfl, b2⟩); have G2 := HON.out _ _ GW'.out b2; have c2 := (b2.cell (World.block_lt_of_cell? _ _ c)).trans c)
          | (go_at_call 9; ((with_reducible refine (HP1.out _ G2).mono ?_); rintro e v3 ⟨rfl, b3⟩); have G3 := HON.out _ _ G2 b3; have B3 := thn b2 b3; have c3 := (b3.cell (World.block_lt_of_cell? _ _ c2)).trans c2)
          | (go_at_call 13; ((with_reducible refine (HT1.out _ G3).mono ?_); rintro e v4 ⟨rfl, b4⟩); have G4 := HON.out _ _ G3 b4; have B4 := thn B3 b4; have c4 := (b4.cell (World.block_lt_of_cell? _ _ c3)).trans c3)
          | (go_at_call 16; ((with_reducible refine (HO1.out _ G4).mono ?_); rintro e v5 ⟨rfl, b5⟩); have B5 := thn B4 b5; have c5 := (b5.cell (World.block_lt_of_cell? _ _ c4)).trans c4))
        go_roundw
        case rel => exact ⟨1 + 1, by omega, by go_num, Lib.hid (thn PB.out B5)⟩
        case measure => simp [intOf]
      · have HN1 := Lib.hid (fun (V : World) (g : G V) => HN.out 2 (by decide) (by decide) V g)
        have HP1 := Lib.hid (fun (V : World) (g : G V) => HP.out ⟨#[120, 51, 50]⟩ (by unfold maxLen; decide) V g)
        have HT1 := Lib.hid (fun (V : World) (g : G V) => HT.out 2 (by decide) (by decide) V g)
        have HO1 := Lib.hid (fun (V : World) (g : G V) => HO.out 3221225534 (((n ||| 1073741824 : Nat) : Nat) : Int) (by decide) (by decide) (by omega) (by omega) V g)
        rw [show nameR 2 = ⟨#[120, 51, 50]⟩ from by kernel_rfl] at HN1
        rw [show parR ⟨#[120, 51, 50]⟩ = (2, 0) from by kernel_rfl] at HP1
        rw [show tokR 2 = 3221225534 from by kernel_rfl, show tokE 2 = 0 from by kernel_rfl] at HT1
        rw [show ofR 3221225534 (((n ||| 1073741824 : Nat) : Nat) : Int) = (2, true) from by unfold ofR; rw [if_pos rfl, if_pos (by omega)]] at HO1
        have c := hc 2 (by omega)
        clear HN HP HT HO HOT HTT hc
        go_wp2_with (first
          | (go_at_call 11; ((with_reducible refine (HN1.out _ GW'.out).mono ?_); rintro e v2 ⟨rfl, b2⟩); have G2 := HON.out _ _ GW'.out b2; have c2 := (b2.cell (World.block_lt_of_cell? _ _ c)).trans c)
          | (go_at_call 9; ((with_reducible refine (HP1.out _ G2).mono ?_); rintro e v3 ⟨rfl, b3⟩); have G3 := HON.out _ _ G2 b3; have B3 := thn b2 b3; have c3 := (b3.cell (World.block_lt_of_cell? _ _ c2)).trans c2)
          | (go_at_call 13; ((with_reducible refine (HT1.out _ G3).mono ?_); rintro e v4 ⟨rfl, b4⟩); have G4 := HON.out _ _ G3 b4; have B4 := thn B3 b4; have c4 := (b4.cell (World.block_lt_of_cell? _ _ c3)).trans c3)
          | (go_at_call 16; ((with_reducible refine (HO1.out _ G4).mono ?_); rintro e v5 ⟨rfl, b5⟩); have B5 := thn B4 b5; have c5 := (b5.cell (World.block_lt_of_cell? _ _ c4)).trans c4))
        go_roundw
        case rel => exact ⟨2 + 1, by omega, by go_num, Lib.hid (thn PB.out B5)⟩
        case measure => simp [intOf]
      · have HN1 := Lib.hid (fun (V : World) (g : G V) => HN.out 3 (by decide) (by decide) V g)
        have HP1 := Lib.hid (fun (V : World) (g : G V) => HP.out ⟨#[97, 114, 109]⟩ (by unfold maxLen; decide) V g)
        have HT1 := Lib.hid (fun (V : World) (g : G V) => HT.out 3 (by decide) (by decide) V g)
        have HO1 := Lib.hid (fun (V : World) (g : G V) => HO.out 1073741864 (((n &&& 3221225471 : Nat) : Nat) : Int) (by decide) (by decide) (by omega) (by omega) V g)
        rw [show nameR 3 = ⟨#[97, 114, 109]⟩ from by kernel_rfl] at HN1
        rw [show parR ⟨#[97, 114, 109]⟩ = (3, 0) from by kernel_rfl] at HP1
        rw [show tokR 3 = 1073741864 from by kernel_rfl, show tokE 3 = 0 from by kernel_rfl] at HT1
        rw [show ofR 1073741864 (((n &&& 3221225471 : Nat) : Nat) : Int) = (3, true) from by unfold ofR; rw [if_neg (by decide), show findT 1073741864 = some 3 from by kernel_rfl]; rfl] at HO1
        have c := hc 3 (by omega)
        clear HN HP HT HO HOT HTT hc
        go_wp2_with (first
          | (go_at_call 11; ((with_reducible refine (HN1.out _ GW'.out).mono ?_); rintro e v2 ⟨rfl, b2⟩); have G2 := HON.out _ _ GW'.out b2; have c2 := (b2.cell (World.block_lt_of_cell? _ _ c)).trans c)
          | (go_at_call 9; ((with_reducible refine (HP1.out _ G2).mono ?_); rintro e v3 ⟨rfl, b3⟩); have G3 := HON.out _ _ G2 b3; have B3 := thn b2 b3; have c3 := (b3.cell (World.block_lt_of_cell? _ _ c2)).trans c2)
          | (go_at_call 13; ((with_reducible refine (HT1.out _ G3).mono ?_); rintro e v4 ⟨rfl, b4⟩); have G4 := HON.out _ _ G3 b4; have B4 := thn B3 b4; have c4 := (b4.cell (World.block_lt_of_cell? _ _ c3)).trans c3)
          | (go_at_call 16; ((with_reducible refine (HO1.out _ G4).mono ?_); rintro e v5 ⟨rfl, b5⟩); have B5 := thn B4 b5; have c5 := (b5.cell (World.block_lt_of_cell? _ _ c4)).trans c4))
        go_roundw
        case rel => exact ⟨3 + 1, by omega, by go_num, Lib.hid (thn PB.out B5)⟩
        case measure => simp [intOf]
      · have HN1 := Lib.hid (fun (V : World) (g : G V) => HN.out 4 (by decide) (by decide) V g)
        have HP1 := Lib.hid (fun (V : World) (g : G V) => HP.out ⟨#[97, 114, 109, 54, 52]⟩ (by unfold maxLen; decide) V g)
        have HT1 := Lib.hid (fun (V : World) (g : G V) => HT.out 4 (by decide) (by decide) V g)
        have HO1 := Lib.hid (fun (V : World) (g : G V) => HO.out 3221225655 (((n &&& 3221225471 : Nat) : Nat) : Int) (by decide) (by decide) (by omega) (by omega) V g)
        rw [show nameR 4 = ⟨#[97, 114, 109, 54, 52]⟩ from by kernel_rfl] at HN1
        rw [show parR ⟨#[97, 114, 109, 54, 52]⟩ = (4, 0) from by kernel_rfl] at HP1
        rw [show tokR 4 = 3221225655 from by kernel_rfl, show tokE 4 = 0 from by kernel_rfl] at HT1
        rw [show ofR 3221225655 (((n &&& 3221225471 : Nat) : Nat) : Int) = (4, true) from by unfold ofR; rw [if_neg (by decide), show findT 3221225655 = some 4 from by kernel_rfl]; rfl] at HO1
        have c := hc 4 (by omega)
        clear HN HP HT HO HOT HTT hc
        go_wp2_with (first
          | (go_at_call 11; ((with_reducible refine (HN1.out _ GW'.out).mono ?_); rintro e v2 ⟨rfl, b2⟩); have G2 := HON.out _ _ GW'.out b2; have c2 := (b2.cell (World.block_lt_of_cell? _ _ c)).trans c)
          | (go_at_call 9; ((with_reducible refine (HP1.out _ G2).mono ?_); rintro e v3 ⟨rfl, b3⟩); have G3 := HON.out _ _ G2 b3; have B3 := thn b2 b3; have c3 := (b3.cell (World.block_lt_of_cell? _ _ c2)).trans c2)
          | (go_at_call 13; ((with_reducible refine (HT1.out _ G3).mono ?_); rintro e v4 ⟨rfl, b4⟩); have G4 := HON.out _ _ G3 b4; have B4 := thn B3 b4; have c4 := (b4.cell (World.block_lt_of_cell? _ _ c3)).trans c3)
          | (go_at_call 16; ((with_reducible refine (HO1.out _ G4).mono ?_); rintro e v5 ⟨rfl, b5⟩); have B5 := thn B4 b5; have c5 := (b5.cell (World.block_lt_of_cell? _ _ c4)).trans c4))
        go_roundw
        case rel => exact ⟨4 + 1, by omega, by go_num, Lib.hid (thn PB.out B5)⟩
        case measure => simp [intOf]
      · have HN1 := Lib.hid (fun (V : World) (g : G V) => HN.out 5 (by decide) (by decide) V g)
        have HP1 := Lib.hid (fun (V : World) (g : G V) => HP.out ⟨#[114, 105, 115, 99, 118, 54, 52]⟩ (by unfold maxLen; decide) V g)
        have HT1 := Lib.hid (fun (V : World) (g : G V) => HT.out 5 (by decide) (by decide) V g)
        have HO1 := Lib.hid (fun (V : World) (g : G V) => HO.out 3221225715 (((n &&& 3221225471 : Nat) : Nat) : Int) (by decide) (by decide) (by omega) (by omega) V g)
        rw [show nameR 5 = ⟨#[114, 105, 115, 99, 118, 54, 52]⟩ from by kernel_rfl] at HN1
        rw [show parR ⟨#[114, 105, 115, 99, 118, 54, 52]⟩ = (5, 0) from by kernel_rfl] at HP1
        rw [show tokR 5 = 3221225715 from by kernel_rfl, show tokE 5 = 0 from by kernel_rfl] at HT1
        rw [show ofR 3221225715 (((n &&& 3221225471 : Nat) : Nat) : Int) = (5, true) from by unfold ofR; rw [if_neg (by decide), show findT 3221225715 = some 5 from by kernel_rfl]; rfl] at HO1
        have c := hc 5 (by omega)
        clear HN HP HT HO HOT HTT hc
        go_wp2_with (first
          | (go_at_call 11; ((with_reducible refine (HN1.out _ GW'.out).mono ?_); rintro e v2 ⟨rfl, b2⟩); have G2 := HON.out _ _ GW'.out b2; have c2 := (b2.cell (World.block_lt_of_cell? _ _ c)).trans c)
          | (go_at_call 9; ((with_reducible refine (HP1.out _ G2).mono ?_); rintro e v3 ⟨rfl, b3⟩); have G3 := HON.out _ _ G2 b3; have B3 := thn b2 b3; have c3 := (b3.cell (World.block_lt_of_cell? _ _ c2)).trans c2)
          | (go_at_call 13; ((with_reducible refine (HT1.out _ G3).mono ?_); rintro e v4 ⟨rfl, b4⟩); have G4 := HON.out _ _ G3 b4; have B4 := thn B3 b4; have c4 := (b4.cell (World.block_lt_of_cell? _ _ c3)).trans c3)
          | (go_at_call 16; ((with_reducible refine (HO1.out _ G4).mono ?_); rintro e v5 ⟨rfl, b5⟩); have B5 := thn B4 b5; have c5 := (b5.cell (World.block_lt_of_cell? _ _ c4)).trans c4))
        go_roundw
        case rel => exact ⟨5 + 1, by omega, by go_num, Lib.hid (thn PB.out B5)⟩
        case measure => simp [intOf]
    · obtain rfl : i = 6 := by omega
      clear HN HP HT HO HCS
      go_wp2_with (first
        | (go_at_call 16; ((with_reducible refine (HOT.out _ GW'.out).mono ?_); rintro e v2 ⟨rfl, b2⟩); have G2 := HON.out _ _ GW'.out b2)
        | (go_at_call 13; ((with_reducible refine (HTT.out _ G2).mono ?_); rintro e v3 ⟨rfl, b3⟩); have G3 := HON.out _ _ G2 b3; have B3 := thn b2 b3)
        | (go_at_call 12; ((with_reducible refine (HA.out _ G3).mono ?_); rintro e v4 ⟨rfl, b4⟩); have B4 := thn B3 b4))
      go_ret
      exact ⟨by first | rfl | simp, thn (thn B1.out PB.out) B4⟩
theorem walk {G : World → Prop} (HC : ArchC G) (a0 : Int) (a1 : Int) (w : World) (hG : G w) (w0 : (Lit.int .u32 a0).wf = true) (w1 : (Lit.int .u32 a1).wf = true) :
    Calls Tryd.prog 5 #[.int .u32 a0, .int .u32 a1] w fun e w' => e = .returned (.bool true) ∧ Below w.heap.size w w' := by
  obtain ⟨t0, t1⟩ := bounds_u32 w0
  obtain ⟨n0, n1⟩ := bounds_u32 w1
  obtain ⟨n, rfl⟩ := Int.eq_ofNat_of_zero_le n0
  have nn : n < 4294967296 := by omega
  have HO := fun (W : World) (g : G W) => HC.of_ a0 (n : Int) W g (by omega) (by omega) (by omega) (by omega)
  have HT := fun (p : Int) (h0 : -9223372036854775808 ≤ p) (h1 : p ≤ 9223372036854775807) (W : World) (g : G W) => HC.token p W g h0 h1
  by_cases h0 : a0 = 3221225534
  · subst h0
    by_cases hb : (n : Int) / 1073741824 % 2 = 1
    · rw [show ofR 3221225534 n = (2, true) from by unfold ofR; rw [if_pos rfl, if_pos hb]] at HO
      have HT := HT 2 (by decide) (by decide)
      rw [show tokR 2 = 3221225534 from by kernel_rfl, show tokE 2 = 0 from by kernel_rfl] at HT
      exact core_y HC _ n nn 2 (by decide) (by decide) w hG HO HT
    · rw [show ofR 3221225534 n = (0, true) from by unfold ofR; rw [if_pos rfl, if_neg hb]] at HO
      have HT := HT 0 (by decide) (by decide)
      rw [show tokR 0 = 3221225534 from by kernel_rfl, show tokE 0 = 0 from by kernel_rfl] at HT
      exact core_y HC _ n nn 0 (by decide) (by decide) w hG HO HT
  · cases hk : findT a0 with
    | none =>
      rw [ofR_none h0 hk] at HO
      exact core_n HC a0 n nn 0 (by decide) (by decide) _ _ w hG HO (HT 0 (by decide) (by decide))
    | some k =>
      rw [ofR_some h0 hk] at HO
      have hv : k < 6 ∧ archT.getD k 0 = a0 := by
        unfold findT at hk
        rw [List.findIdx?_eq_some_iff_getElem] at hk
        obtain ⟨hl, h1, _⟩ := hk
        exact ⟨hl, by rw [getD_of hl]; exact of_decide_eq_true h1⟩
      have HT := HT (k : Int) (by omega) (by omega)
      rw [show tokR (k : Int) = a0 from by unfold tokR; rw [if_pos (by omega), Int.toNat_natCast]; exact hv.2, show tokE (k : Int) = 0 from by unfold tokE; rw [if_pos (by omega)]] at HT
      exact core_y HC a0 n nn k (by omega) (by omega) w hG HO HT

set_option maxRecDepth 100000 in
theorem lifted (HC : ArchC GA8) (os : Os) (started : os.Started) (H : Type) (enc : TypeId × Value → H) :
    ReturnsInHanded {} Tryd.checked os 5 .any (fun w args => (Rows.archBackSpec.pre enc Tryd.prog Tryd.f5 [] false w args ∧ laidMetH Tryd.prog listed8 w) ∧ sizedMet enc Tryd.prog Tryd.f5 (OpenSpec.ofChange Rows.archBackSpec) false w args)
      (Rows.archBackSpec.post enc Tryd.prog Tryd.f5 false true false false) := by
  refine returnsInHanded_of_change_and (C := Tryd.checked) (X := fun w _ => laidMetH Tryd.prog listed8 w) (fun _ _ _ hh h => h.of_heap hh) ownKnob_none started (by kernel_rfl) Tryd.func5
    (ChangeSpec.witness_shaped (enc := enc) (C := Tryd.checked) (os := os) (X := fun w _ => laidMetH Tryd.prog listed8 w) false (World.doorLaid Tryd.prog 4000 os) #[.int .u32 0, .int .u32 0] 8 rfl (World.shaped_of_RefB (by kernel_rfl) (by kernel_rfl)) (by kernel_rfl) (by kernel_rfl) (by kernel_rfl) (door_met8 os _)) ?_
  intro W base args ds gs before hval0 hW _ _ hL _
  have hG : GA8 W := of_laid8 hL
  have hval : ∀ (j : Nat) t v, Tryd.f5.params[j]? = some t → args[j]? = some v → Value.okWide Tryd.prog W .any base t v := hval0
  have hW' := hW
  obtain ⟨p, q, hA0, hV, rfl, hfz, hnd⟩ := hW
  have hA : DataW.TrodAll enc Tryd.prog W 0 (fun _ => true) true Tryd.f5.params.toList args.toList ds p := hA0
  rw [Tryd.params5] at hA hval
  obtain ⟨v0, vs0, d0, ds0, p0, q0, hargs, rfl, rfl, h0, r0⟩ := trodAll_cons hA
  obtain ⟨v1, vs1, d1, ds1, p1, q1, rfl, rfl, rfl, h1, r1⟩ := trodAll_cons r0
  obtain ⟨rfl, rfl, rfl⟩ := trodAll_nil r1
  obtain rfl : args = #[v0, v1] := by cases args; simp_all
  obtain ⟨rfl, rfl⟩ := trodVars_none hV
  obtain ⟨a0, rfl, rfl, rfl, w0⟩ := open_int Tryd.underlying32 (hval 0 32 v0 rfl rfl) h0
  obtain ⟨a1, rfl, rfl, rfl, w1⟩ := open_int Tryd.underlying32 (hval 1 32 v1 rfl rfl) h1
  clear hA0 hval0
  simp only [List.append_nil] at hW'
  refine (walk HC a0 a1 W hG w0 w1).mono fun e W' ⟨he, bel⟩ => ?_
  subst he
  exact ⟨_, rfl, _, _, _, [], [], [], hW', trodAll_mk1 (shut_bool Tryd.underlying4 _), (trodAll_cons_mk (shut_int Tryd.underlying32 w0) (trodAll_cons_mk (shut_int Tryd.underlying32 w1) trodAll_mk0)), rfl, bel.frame _, fun h => by cases h⟩

theorem over (HC : ArchC GA8) : Rows.archBackRow.holds Tryd.pinned (OpenSpec.ofChange Rows.archBackSpec) :=
  OpenClaim.holds_of_wide 5 Tryd.f5 rfl rfl rfl rfl rfl rfl rfl ⟨rfl, rfl, rfl, rfl, rfl⟩ rfl rfl rfl rfl rfl (by kernel_rfl) Tryd.func5 (by kernel_rfl)
    (of_decide_eq_true (by kernel_rfl)) (by unfold Func.isWrapper; first | (rw [if_pos (by decide +kernel)]; kernel_rfl) | (rw [if_neg (by decide +kernel)]; exact ⟨rfl, rfl⟩))
    (fun os started H enc _ => lifted HC os started H enc)

/-- The row's statement. -/
theorem row_holds : Rows.ArchBackSaid := over archC
/-- The statement: the row, its table tied to the program's text. -/
theorem proved : Rows.ArchBackCardSaid :=
  Claim7.holds_tied_plain_at .later [] [.data] true Rows.archBackCard.stood.harness Rows.archBackCard.stood.looks
    row_holds (fun _ h => by cases h) (by kernel_rfl) (fun _ h => by cases h) archBack_row_tie rfl ⟨rfl, rfl⟩ (by kernel_rfl) rfl
    (fun f fn hf hfn => by
      obtain rfl : f = 5 := Option.some.inj ((show Tryd.prog.funcNamed "vestibule/vestibulelaw08.ArchBack" = some 5 by kernel_rfl).symm.trans hf) |>.symm
      obtain rfl : fn = Tryd.f5 := (Option.some.inj (Tryd.func5.symm.trans hfn)).symm
      exact ⟨by kernel_rfl, fun j t ht => by
        have hm : t ∈ Tryd.f5.params.toList := by simpa using Array.mem_of_getElem? ht
        have hall : (Tryd.f5.params.toList.all fun u => !Tryd.prog.wantsStandIn u) = true := by kernel_rfl
        exact (show Tryd.prog.wantsStandIn t = false by simpa using List.all_eq_true.1 hall t hm)⟩)
    (by kernel_rfl)
#print axioms proved
end Go.Proofs.YtjfoipjifjblmaaDoor.archBack
