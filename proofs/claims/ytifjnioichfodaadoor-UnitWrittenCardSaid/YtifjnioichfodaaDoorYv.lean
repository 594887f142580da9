/- The statement UnitWritten holds, over what the calls have to return: assignments that may be written so are read from a file that has them, one a line. -/
import Derived.Test.YtifjnioichfodaaDoorRows
import Derived.Test.YtifjnioichfodaaDoorCards
import Derived.Test.YtifjnioichfodaaDoorTie
import Derived.SevenTiedAt
import Derived.Test.YtifjnioichfodaaDoorFr
import Derived.Test.YtifjnioichfodaaDoorZn
import Derived.Test.YtifjnioichfodaaDoorXf
import Derived.Test.YtifjnioichfodaaDoorYw
import Derived.Test.YtifjnioichfodaaDoorYh
import Derived.Test.YtifjnioichfodaaDoorYr
namespace Go.Proofs.YtifjnioichfodaaDoor
open Go.RowKit
theorem own_b13 {w w' : World} {B n s : Nat} {e : TypeId} {v : Value} {xs : List Value} (h : w.ownsRow B e s v n xs) (hb : Below w.heap.size w w') : w'.ownsRow B e s v n xs := by
  refine ⟨h.1, ?_⟩
  rcases h.2 with h0 | ⟨g, cap, cur, hv, hg, hh, r⟩
  · exact .inl h0
  · refine .inr ⟨g, cap, cur, hv, hg, ?_, r⟩
    rw [hb.block g (Array.getElem?_eq_some_iff.1 hh).1]; exact hh
end Go.Proofs.YtifjnioichfodaaDoor
namespace Go.Proofs.YtifjnioichfodaaDoor.unitWritten
set_option linter.unusedSimpArgs false
open Go.ChangeShapes Go.WideShapes Go.ChangeAt Go.RowKit
open Go.ChangeMaps (open_string shut_string)
set_option linter.unusedVariables false
attribute [local go_sem ↓] Go.wp_at_zero Go.wp_at_succ
set_option maxRecDepth 100000 in
set_option maxHeartbeats 64000000 in
theorem walk {G : World → Prop} (HC : UnitC G) (HT : TrimC G) (a0 : Option Addr) (len0 cap0 : Nat) (z0 : List Asn) (a1 : Bool) (w : World) (hG : G w) (w0 : IsAsns w a0 len0 cap0 z0) (w1 : True) :
    Calls Tryd.prog 5 #[.slice a0 len0 cap0, .bool a1] w fun e w' => e = .returned (.bool true) ∧ Below w.heap.size w w' := by
  have HAW := Lib.hid (fun (W : World) (g : G W) => awake13_any HC W g)
  have HON := Lib.hid (fun (w w' : World) => HC.on (w := w) (w' := w'))
  have HG := Lib.hid hG
  by_cases hlong : (40 : Int) < len0
  · clear HC HT hG w0
    go_enter Tryd.func5, Tryd.ntmps5
    go_wp2_with (go_at_call 12; ((with_reducible refine (HAW.out _ HG.out).mono ?_); rintro e v1 ⟨rfl, b1⟩))
    go_ret
    exact ⟨by first | rfl | simp, b1⟩
  have hs : (len0 : Int) ≤ 40 := by omega
  obtain ⟨i1, hi1, kz0, kz1, kz2⟩ := info_parts asn_info
  have KI := Lib.hid hi1
  have KZ0 := Lib.hid kz0
  have KZ1 := Lib.hid kz1
  have KZ2 := Lib.hid kz2
  have HZL := Lib.hid w0.size
  have HRN := Lib.hid w0.rng
  have HRD := Lib.hid w0.rd
  have HCC := Lib.hid HC
  have HTT := Lib.hid HT
  clear HC HT hG w0 w1 hlong hi1 kz0 kz1 kz2
  go_enter Tryd.func5, Tryd.ntmps5
  go_wp2_with fail
  go_loopw [5, 6, 7, 8] (fun v5 v6 v7 v8 wr => ∃ (k : Nat) (Ls : List (List UInt8)) (W : List Asn) (nn : Int), k ≤ len0 ∧ v8 = .int .i64 k ∧ v6 = .int .i64 nn ∧ nn = 2 * (k : Int) ∧ v5 = .string (bs (flatL Ls)) ∧ Hid (WrOk a1 k Ls W) ∧ Hid (wr.ownsRow w.heap.size 39 5 v7 W.length (rowC encA W)) ∧ Hid (Below w.heap.size w wr)) (fun _ _ _ v8 _ => len0 - (intOf v8).toNat)
  case atStart => exact ⟨0, [], [], 0, by omega, rfl, rfl, rfl, rfl, Lib.hid (WrOk.zero _), Lib.hid (World.ownsRow_nil _ _ _ _), Lib.hid (Below.refl _ _)⟩
  case round =>
    obtain ⟨k, Ls, W, nn, hk, rfl, rfl, hnn, rfl, HOK, PO, PB⟩ := hrel
    obtain ⟨V, rfl⟩ : ∃ wo : World, wo = wr := ⟨_, rfl⟩
    by_cases hlt : k < len0
    · have hkz : k < z0.length := by rw [HZL.out]; exact hlt
      obtain ⟨b, o, rfl, hb, hcs⟩ := HRD.out (by omega)
      obtain ⟨d0, d1, d2, d3, d4⟩ := hcs k hkz
      have hrn := HRN.out _ (List.getElem_mem hkz)
      obtain ⟨p, hp⟩ : ∃ p, p = z0[k]'hkz := ⟨_, rfl⟩
      rw [← hp] at d0 d1 d2 d3 d4 hrn
      clear hp hcs
      obtain ⟨p0, p1, S, K, U⟩ := p
      simp only at d0 d1 d2 d3 d4 hrn
      have c0 := (PB.out.cell (World.block_lt_of_cell? w _ d0)).trans d0
      have c1 := (PB.out.cell (World.block_lt_of_cell? w _ d1)).trans d1
      have c2 := (PB.out.cell (World.block_lt_of_cell? w _ d2)).trans d2
      have c3 := (PB.out.cell (World.block_lt_of_cell? w _ d3)).trans d3
      have c4 := (PB.out.cell (World.block_lt_of_cell? w _ d4)).trans d4
      have HRS := Lib.hid hrn.1
      have HRK := Lib.hid hrn.2.1
      have HRU := Lib.hid hrn.2.2
      obtain ⟨sl, hsl⟩ : ∃ l, l = S.data.toList := ⟨_, rfl⟩
      obtain ⟨kl, hkl⟩ : ∃ l, l = K.data.toList := ⟨_, rfl⟩
      obtain ⟨vl, hvl⟩ : ∃ l, l = U.data.toList := ⟨_, rfl⟩
      have HS := Lib.hid (show S = bs sl by rw [hsl, bs_self])
      have HK := Lib.hid (show K = bs kl by rw [hkl, bs_self])
      have HU := Lib.hid (show U = bs vl by rw [hvl, bs_self])
      have HWS := Lib.hid (fun W => word_c true sl W)
      have HWK := Lib.hid (fun W => word_c false kl W)
      have HVV := Lib.hid (fun W (g : G W) => value_c HTT.out vl (by rw [hvl, ← Lib.size_eq]; exact hrn.2.2) W g)
      rw [← HS.out] at HWS
      rw [← HK.out] at HWK
      rw [← HU.out] at HVV
      have k1 : (k : Int) < len0 := by omega
      have k0 : (0 : Int) ≤ k := by omega
      have hw1 : IntKind.i64.wrap ((k : Int) + 1) = k + 1 := by rw [IntKind.wrap_i64]; omega
      have hw2 : IntKind.i64.wrap (nn + 2) = nn + 2 := by rw [IntKind.wrap_i64]; omega
      have BB := Lib.hid (PB.out.alloc PB.out.size (.cells #[.string p0, .int .i64 p1, .string S, .string K, .string U] 39))
      have GB := Lib.hid (HON.out _ _ HG.out BB.out)
      have HWL := Lib.hid (show W.length ≤ 40 by rw [HOK.out.wlen]; omega)
      have HNN := Lib.hid (show nn + 2 = ((2 * k + 2 : Nat) : Int) by omega)
      have HQ := Lib.hid hnn
      clear d0 d1 d2 d3 d4 hb hkz hrn hsl hkl hvl hnn
      cases hws : wordL true sl with
      | false =>
        rw [hws] at HWS
        clear hws
        go_wp2_with (first
          | (go_at_call 17; ((with_reducible refine (HWS.out _).mono ?_); rintro e w1 ⟨rfl, rfl⟩))
          | (go_at_call 17; ((with_reducible refine (HWK.out _).mono ?_); rintro e w1 ⟨rfl, rfl⟩))
          | (go_at_call 12; ((with_reducible refine (HAW.out _ GB.out).mono ?_); rintro e vz ⟨rfl, bz⟩)))
        go_ret
        exact ⟨by first | rfl | simp, BB.out.trans (bz.mono BB.out.size)⟩
      | true =>
        rw [hws] at HWS
        have HW1 := Lib.hid hws
        cases hwk : wordL false kl with
        | false =>
          rw [hwk] at HWK
          clear hws hwk
          go_wp2_with (first
            | (go_at_call 17; ((with_reducible refine (HWS.out _).mono ?_); rintro e w1 ⟨rfl, rfl⟩))
            | (go_at_call 17; ((with_reducible refine (HWK.out _).mono ?_); rintro e w1 ⟨rfl, rfl⟩))
            | (go_at_call 12; ((with_reducible refine (HAW.out _ GB.out).mono ?_); rintro e vz ⟨rfl, bz⟩)))
          go_ret
          exact ⟨by first | rfl | simp, BB.out.trans (bz.mono BB.out.size)⟩
        | true =>
          rw [hwk] at HWK
          have HW2 := Lib.hid hwk
          cases hvv : valL vl with
          | false =>
            rw [hvv] at HVV
            clear hws hwk hvv
            go_wp2_with (first
              | (go_at_call 17; ((with_reducible refine (HWS.out _).mono ?_); rintro e w1 ⟨rfl, rfl⟩))
              | (go_at_call 17; ((with_reducible refine (HWK.out _).mono ?_); rintro e w1 ⟨rfl, rfl⟩))
              | (go_at_call 18; ((with_reducible refine (HVV.out _ GB.out).mono ?_); rintro e v2 ⟨rfl, b2⟩); have D2 := Lib.hid (BB.out.trans (b2.mono BB.out.size)); have G2 := HON.out _ _ GB.out b2; skip)
              | (go_at_call 12; ((with_reducible refine (HAW.out _ G2).mono ?_); rintro e vz ⟨rfl, bz⟩)))
            go_ret
            exact ⟨by first | rfl | simp, D2.out.trans (bz.mono D2.out.size)⟩
          | true =>
            rw [hvv] at HVV
            have HW3 := Lib.hid hvv
            have hls := (word_of hws).2.1
            have hlk := (word_of hwk).2.1
            have hlu := (val_of hvv).1
            clear hws hwk hvv
            have bl := HOK.out.flat (by omega)
            obtain ⟨A0, hA0⟩ : ∃ x, x = flatL Ls := ⟨_, rfl⟩
            have HA0 := Lib.hid hA0
            rw [← hA0] at bl ⊢
            clear hA0
            cases a1 with
            | true =>
              obtain ⟨A1, hA1⟩ : ∃ x, x = A0 ++ [91] := ⟨_, rfl⟩
              have L1 : A1.length ≤ 10100 := by rw [hA1, List.length_append]; have : ([91] : List UInt8).length ≤ 60 := (by decide); omega
              have HC44 := Lib.hid (show (bs A0).size + (⟨#[91]⟩ : ByteArray).size ≤ 4611686018427387904 from by rw [bs_size]; have : (⟨#[91]⟩ : ByteArray).size ≤ 60 := (by decide); omega)
              have HB44 := Lib.hid (show bs A0 ++ (⟨#[91]⟩ : ByteArray) = bs A1 from by rw [hA1, ← bs_app]; rfl)
              obtain ⟨A2, hA2⟩ : ∃ x, x = A1 ++ sl := ⟨_, rfl⟩
              have L2 : A2.length ≤ 10200 := by rw [hA2, List.length_append]; have : (sl : List UInt8).length ≤ 60 := (by omega); omega
              have HC47 := Lib.hid (show (bs A1).size + (S : ByteArray).size ≤ 4611686018427387904 from by rw [bs_size]; have : (S : ByteArray).size ≤ 60 := (by rw [HS.out, bs_size]; omega); omega)
              have HB47 := Lib.hid (show bs A1 ++ (S : ByteArray) = bs A2 from by rw [hA2, ← bs_app]; rw [HS.out])
              obtain ⟨A3, hA3⟩ : ∃ x, x = A2 ++ [93, 10] := ⟨_, rfl⟩
              have L3 : A3.length ≤ 10300 := by rw [hA3, List.length_append]; have : ([93, 10] : List UInt8).length ≤ 60 := (by decide); omega
              have HC48 := Lib.hid (show (bs A2).size + (⟨#[93, 10]⟩ : ByteArray).size ≤ 4611686018427387904 from by rw [bs_size]; have : (⟨#[93, 10]⟩ : ByteArray).size ≤ 60 := (by decide); omega)
              have HB48 := Lib.hid (show bs A2 ++ (⟨#[93, 10]⟩ : ByteArray) = bs A3 from by rw [hA3, ← bs_app]; rfl)
              obtain ⟨A4, hA4⟩ : ∃ x, x = A3 ++ kl := ⟨_, rfl⟩
              have L4 : A4.length ≤ 10400 := by rw [hA4, List.length_append]; have : (kl : List UInt8).length ≤ 60 := (by omega); omega
              have HC51 := Lib.hid (show (bs A3).size + (K : ByteArray).size ≤ 4611686018427387904 from by rw [bs_size]; have : (K : ByteArray).size ≤ 60 := (by rw [HK.out, bs_size]; omega); omega)
              have HB51 := Lib.hid (show bs A3 ++ (K : ByteArray) = bs A4 from by rw [hA4, ← bs_app]; rw [HK.out])
              obtain ⟨A5, hA5⟩ : ∃ x, x = A4 ++ [32, 9, 61, 32] := ⟨_, rfl⟩
              have L5 : A5.length ≤ 10500 := by rw [hA5, List.length_append]; have : ([32, 9, 61, 32] : List UInt8).length ≤ 60 := (by decide); omega
              have HC54 := Lib.hid (show (bs A4).size + (⟨#[32, 9, 61, 32]⟩ : ByteArray).size ≤ 4611686018427387904 from by rw [bs_size]; have : (⟨#[32, 9, 61, 32]⟩ : ByteArray).size ≤ 60 := (by decide); omega)
              have HB54 := Lib.hid (show bs A4 ++ (⟨#[32, 9, 61, 32]⟩ : ByteArray) = bs A5 from by rw [hA5, ← bs_app]; rfl)
              obtain ⟨A6, hA6⟩ : ∃ x, x = A5 ++ vl := ⟨_, rfl⟩
              have L6 : A6.length ≤ 10600 := by rw [hA6, List.length_append]; have : (vl : List UInt8).length ≤ 60 := (by omega); omega
              have HC60 := Lib.hid (show (bs A5).size + (U : ByteArray).size ≤ 4611686018427387904 from by rw [bs_size]; have : (U : ByteArray).size ≤ 60 := (by rw [HU.out, bs_size]; omega); omega)
              have HB60 := Lib.hid (show bs A5 ++ (U : ByteArray) = bs A6 from by rw [hA6, ← bs_app]; rw [HU.out])
              obtain ⟨A7, hA7⟩ : ∃ x, x = A6 ++ [10] := ⟨_, rfl⟩
              have L7 : A7.length ≤ 10700 := by rw [hA7, List.length_append]; have : ([10] : List UInt8).length ≤ 60 := (by decide); omega
              have HC61 := Lib.hid (show (bs A6).size + (⟨#[10]⟩ : ByteArray).size ≤ 4611686018427387904 from by rw [bs_size]; have : (⟨#[10]⟩ : ByteArray).size ≤ 60 := (by decide); omega)
              have HB61 := Lib.hid (show bs A6 ++ (⟨#[10]⟩ : ByteArray) = bs A7 from by rw [hA7, ← bs_app]; rfl)
              have HFL := Lib.hid (show A7 = flatL (Ls ++ [hdrL sl] ++ [asnL true kl vl]) from by rw [hA7, hA6, hA5, hA4, hA3, hA2, hA1, HA0.out, flat_two]; unfold hdrL asnL sepL; simp)
              clear hA1 hA2 hA3 hA4 hA5 hA6 hA7 L1 L2 L3 L4 L5 L6 L7 bl hls hlk hlu
              go_wp2_with (first
                | (go_at_call 17; ((with_reducible refine (HWS.out _).mono ?_); rintro e w1 ⟨rfl, rfl⟩))
                | (go_at_call 17; ((with_reducible refine (HWK.out _).mono ?_); rintro e w1 ⟨rfl, rfl⟩))
                | (go_at_call 18; ((with_reducible refine (HVV.out _ GB.out).mono ?_); rintro e v2 ⟨rfl, b2⟩); have D2 := Lib.hid (BB.out.trans (b2.mono BB.out.size)); have G2 := HON.out _ _ GB.out b2; have hx := fun (j : Nat) (u : Value) (h : (encA ⟨p0, p1, S, K, U⟩)[j]? = some u) => (b2.cell (p := ⟨V.heap.size, j, none⟩) (by simp)).trans (show (V.alloc (.cells #[.string p0, .int .i64 p1, .string S, .string K, .string U] 39)).cell? ⟨V.heap.size, j, none⟩ = some u from by have := news_row V (encA ⟨p0, p1, S, K, U⟩) 39 j u h; rwa [Addr.add_lit, Nat.zero_add] at this)
                   have x2 := hx 2 _ rfl
                   have x3 := hx 3 _ rfl
                   have x4 := hx 4 _ rfl
                   have P2 := Lib.hid (own_b13 (PO.out.alloc (.cells #[.string p0, .int .i64 p1, .string S, .string K, .string U] 39)) b2)
                   clear hx b2)
                | ((with_reducible show wpList _ _ _ (⟨some 44, _, _, _, _, _⟩ :: _) _ _)
                   refine wpList_cat12 (X := bs A0) (z := A1) rfl rfl rfl rfl HC44.out HB44.out ?_)
                | ((with_reducible show wpList _ _ _ (⟨some 47, _, _, _, _, _⟩ :: _) _ _)
                   refine wpList_cat12 (X := bs A1) (z := A2) rfl rfl rfl rfl HC47.out HB47.out ?_)
                | ((with_reducible show wpList _ _ _ (⟨some 48, _, _, _, _, _⟩ :: _) _ _)
                   refine wpList_cat12 (X := bs A2) (z := A3) rfl rfl rfl rfl HC48.out HB48.out ?_)
                | ((with_reducible show wpList _ _ _ (⟨some 51, _, _, _, _, _⟩ :: _) _ _)
                   refine wpList_cat12 (X := bs A3) (z := A4) rfl rfl rfl rfl HC51.out HB51.out ?_)
                | ((with_reducible show wpList _ _ _ (⟨some 54, _, _, _, _, _⟩ :: _) _ _)
                   refine wpList_cat12 (X := bs A4) (z := A5) rfl rfl rfl rfl HC54.out HB54.out ?_)
                | ((with_reducible show wpList _ _ _ (⟨some 60, _, _, _, _, _⟩ :: _) _ _)
                   refine wpList_cat12 (X := bs A5) (z := A6) rfl rfl rfl rfl HC60.out HB60.out ?_)
                | ((with_reducible show wpList _ _ _ (⟨some 61, _, _, _, _, _⟩ :: _) _ _)
                   refine wpList_cat12 (X := bs A6) (z := A7) rfl rfl rfl rfl HC61.out HB61.out ?_)
                | (at_builtin
                   refine wpList_append_own _ rfl (.tmp 64) (.tmp 73) 26 rfl w.heap.size 39 i1 _ 5 72 Tryd.underlying26 KI.out KZ0.out KZ1.out KZ2.out rfl (by omega) _ W.length _ rfl (P2.out.alloc _) ⟨v2.heap.size, 0, none⟩ 1 1 (rowC encA [⟨fF, nn + 2, S, K, U⟩]) rfl rfl (by rw [rowC_one1]; exact news_row v2 (encA ⟨fF, nn + 2, S, K, U⟩) 39) (rowC_oneCell encA_one _) (by have := HWL.out; unfold maxLen; omega) (by have := HWL.out; omega) (by have := D2.out.size; simp; omega) ?_
                   intro vA wA oA hA _
                   rw [← rowC_app] at oA
                   have OA := Lib.hid oA
                   have BA := Lib.hid ((D2.out.alloc D2.out.size _).grown hA (by have := D2.out.size; simp; omega) (fun g hg => (P2.out.lt g hg).1))
                   clear oA hA))
              go_roundw
              case rel => exact ⟨k + 1, Ls ++ [hdrL sl] ++ [asnL true kl vl], W ++ [⟨fF, nn + 2, S, K, U⟩], nn + 2, by omega, by go_num, rfl, by have := HQ.out; omega, by rw [HFL.out], Lib.hid (by rw [HNN.out, HS.out, HK.out, HU.out]; exact HOK.out.more HW1.out HW2.out HW3.out), Lib.hid (by rw [List.length_append]; exact OA.out), BA⟩
              case measure => simp [intOf]; omega
            | false =>
              obtain ⟨A1, hA1⟩ : ∃ x, x = A0 ++ [91] := ⟨_, rfl⟩
              have L1 : A1.length ≤ 10100 := by rw [hA1, List.length_append]; have : ([91] : List UInt8).length ≤ 60 := (by decide); omega
              have HC44 := Lib.hid (show (bs A0).size + (⟨#[91]⟩ : ByteArray).size ≤ 4611686018427387904 from by rw [bs_size]; have : (⟨#[91]⟩ : ByteArray).size ≤ 60 := (by decide); omega)
              have HB44 := Lib.hid (show bs A0 ++ (⟨#[91]⟩ : ByteArray) = bs A1 from by rw [hA1, ← bs_app]; rfl)
              obtain ⟨A2, hA2⟩ : ∃ x, x = A1 ++ sl := ⟨_, rfl⟩
              have L2 : A2.length ≤ 10200 := by rw [hA2, List.length_append]; have : (sl : List UInt8).length ≤ 60 := (by omega); omega
              have HC47 := Lib.hid (show (bs A1).size + (S : ByteArray).size ≤ 4611686018427387904 from by rw [bs_size]; have : (S : ByteArray).size ≤ 60 := (by rw [HS.out, bs_size]; omega); omega)
              have HB47 := Lib.hid (show bs A1 ++ (S : ByteArray) = bs A2 from by rw [hA2, ← bs_app]; rw [HS.out])
              obtain ⟨A3, hA3⟩ : ∃ x, x = A2 ++ [93, 10] := ⟨_, rfl⟩
              have L3 : A3.length ≤ 10300 := by rw [hA3, List.length_append]; have : ([93, 10] : List UInt8).length ≤ 60 := (by decide); omega
              have HC48 := Lib.hid (show (bs A2).size + (⟨#[93, 10]⟩ : ByteArray).size ≤ 4611686018427387904 from by rw [bs_size]; have : (⟨#[93, 10]⟩ : ByteArray).size ≤ 60 := (by decide); omega)
              have HB48 := Lib.hid (show bs A2 ++ (⟨#[93, 10]⟩ : ByteArray) = bs A3 from by rw [hA3, ← bs_app]; rfl)
              obtain ⟨A4, hA4⟩ : ∃ x, x = A3 ++ kl := ⟨_, rfl⟩
              have L4 : A4.length ≤ 10400 := by rw [hA4, List.length_append]; have : (kl : List UInt8).length ≤ 60 := (by omega); omega
              have HC51 := Lib.hid (show (bs A3).size + (K : ByteArray).size ≤ 4611686018427387904 from by rw [bs_size]; have : (K : ByteArray).size ≤ 60 := (by rw [HK.out, bs_size]; omega); omega)
              have HB51 := Lib.hid (show bs A3 ++ (K : ByteArray) = bs A4 from by rw [hA4, ← bs_app]; rw [HK.out])
              obtain ⟨A5, hA5⟩ : ∃ x, x = A4 ++ [61] := ⟨_, rfl⟩
              have L5 : A5.length ≤ 10500 := by rw [hA5, List.length_append]; have : ([61] : List UInt8).length ≤ 60 := (by decide); omega
              have HC56 := Lib.hid (show (bs A4).size + (⟨#[61]⟩ : ByteArray).size ≤ 4611686018427387904 from by rw [bs_size]; have : (⟨#[61]⟩ : ByteArray).size ≤ 60 := (by decide); omega)
              have HB56 := Lib.hid (show bs A4 ++ (⟨#[61]⟩ : ByteArray) = bs A5 from by rw [hA5, ← bs_app]; rfl)
              obtain ⟨A6, hA6⟩ : ∃ x, x = A5 ++ vl := ⟨_, rfl⟩
              have L6 : A6.length ≤ 10600 := by rw [hA6, List.length_append]; have : (vl : List UInt8).length ≤ 60 := (by omega); omega
              have HC60 := Lib.hid (show (bs A5).size + (U : ByteArray).size ≤ 4611686018427387904 from by rw [bs_size]; have : (U : ByteArray).size ≤ 60 := (by rw [HU.out, bs_size]; omega); omega)
              have HB60 := Lib.hid (show bs A5 ++ (U : ByteArray) = bs A6 from by rw [hA6, ← bs_app]; rw [HU.out])
              obtain ⟨A7, hA7⟩ : ∃ x, x = A6 ++ [10] := ⟨_, rfl⟩
              have L7 : A7.length ≤ 10700 := by rw [hA7, List.length_append]; have : ([10] : List UInt8).length ≤ 60 := (by decide); omega
              have HC61 := Lib.hid (show (bs A6).size + (⟨#[10]⟩ : ByteArray).size ≤ 4611686018427387904 from by rw [bs_size]; have : (⟨#[10]⟩ : ByteArray).size ≤ 60 := (by decide); omega)
              have HB61 := Lib.hid (show bs A6 ++ (⟨#[10]⟩ : ByteArray) = bs A7 from by rw [hA7, ← bs_app]; rfl)
              have HFL := Lib.hid (show A7 = flatL (Ls ++ [hdrL sl] ++ [asnL false kl vl]) from by rw [hA7, hA6, hA5, hA4, hA3, hA2, hA1, HA0.out, flat_two]; unfold hdrL asnL sepL; simp)
              clear hA1 hA2 hA3 hA4 hA5 hA6 hA7 L1 L2 L3 L4 L5 L6 L7 bl hls hlk hlu
              go_wp2_with (first
                | (go_at_call 17; ((with_reducible refine (HWS.out _).mono ?_); rintro e w1 ⟨rfl, rfl⟩))
                | (go_at_call 17; ((with_reducible refine (HWK.out _).mono ?_); rintro e w1 ⟨rfl, rfl⟩))
                | (go_at_call 18; ((with_reducible refine (HVV.out _ GB.out).mono ?_); rintro e v2 ⟨rfl, b2⟩); have D2 := Lib.hid (BB.out.trans (b2.mono BB.out.size)); have G2 := HON.out _ _ GB.out b2; have hx := fun (j : Nat) (u : Value) (h : (encA ⟨p0, p1, S, K, U⟩)[j]? = some u) => (b2.cell (p := ⟨V.heap.size, j, none⟩) (by simp)).trans (show (V.alloc (.cells #[.string p0, .int .i64 p1, .string S, .string K, .string U] 39)).cell? ⟨V.heap.size, j, none⟩ = some u from by have := news_row V (encA ⟨p0, p1, S, K, U⟩) 39 j u h; rwa [Addr.add_lit, Nat.zero_add] at this)
                   have x2 := hx 2 _ rfl
                   have x3 := hx 3 _ rfl
                   have x4 := hx 4 _ rfl
                   have P2 := Lib.hid (own_b13 (PO.out.alloc (.cells #[.string p0, .int .i64 p1, .string S, .string K, .string U] 39)) b2)
                   clear hx b2)
                | ((with_reducible show wpList _ _ _ (⟨some 44, _, _, _, _, _⟩ :: _) _ _)
                   refine wpList_cat12 (X := bs A0) (z := A1) rfl rfl rfl rfl HC44.out HB44.out ?_)
                | ((with_reducible show wpList _ _ _ (⟨some 47, _, _, _, _, _⟩ :: _) _ _)
                   refine wpList_cat12 (X := bs A1) (z := A2) rfl rfl rfl rfl HC47.out HB47.out ?_)
                | ((with_reducible show wpList _ _ _ (⟨some 48, _, _, _, _, _⟩ :: _) _ _)
                   refine wpList_cat12 (X := bs A2) (z := A3) rfl rfl rfl rfl HC48.out HB48.out ?_)
                | ((with_reducible show wpList _ _ _ (⟨some 51, _, _, _, _, _⟩ :: _) _ _)
                   refine wpList_cat12 (X := bs A3) (z := A4) rfl rfl rfl rfl HC51.out HB51.out ?_)
                | ((with_reducible show wpList _ _ _ (⟨some 56, _, _, _, _, _⟩ :: _) _ _)
                   refine wpList_cat12 (X := bs A4) (z := A5) rfl rfl rfl rfl HC56.out HB56.out ?_)
                | ((with_reducible show wpList _ _ _ (⟨some 60, _, _, _, _, _⟩ :: _) _ _)
                   refine wpList_cat12 (X := bs A5) (z := A6) rfl rfl rfl rfl HC60.out HB60.out ?_)
                | ((with_reducible show wpList _ _ _ (⟨some 61, _, _, _, _, _⟩ :: _) _ _)
                   refine wpList_cat12 (X := bs A6) (z := A7) rfl rfl rfl rfl HC61.out HB61.out ?_)
                | (at_builtin
                   refine wpList_append_own _ rfl (.tmp 64) (.tmp 73) 26 rfl w.heap.size 39 i1 _ 5 72 Tryd.underlying26 KI.out KZ0.out KZ1.out KZ2.out rfl (by omega) _ W.length _ rfl (P2.out.alloc _) ⟨v2.heap.size, 0, none⟩ 1 1 (rowC encA [⟨fF, nn + 2, S, K, U⟩]) rfl rfl (by rw [rowC_one1]; exact news_row v2 (encA ⟨fF, nn + 2, S, K, U⟩) 39) (rowC_oneCell encA_one _) (by have := HWL.out; unfold maxLen; omega) (by have := HWL.out; omega) (by have := D2.out.size; simp; omega) ?_
                   intro vA wA oA hA _
                   rw [← rowC_app] at oA
                   have OA := Lib.hid oA
                   have BA := Lib.hid ((D2.out.alloc D2.out.size _).grown hA (by have := D2.out.size; simp; omega) (fun g hg => (P2.out.lt g hg).1))
                   clear oA hA))
              go_roundw
              case rel => exact ⟨k + 1, Ls ++ [hdrL sl] ++ [asnL false kl vl], W ++ [⟨fF, nn + 2, S, K, U⟩], nn + 2, by omega, by go_num, rfl, by have := HQ.out; omega, by rw [HFL.out], Lib.hid (by rw [HNN.out, HS.out, HK.out, HU.out]; exact HOK.out.more HW1.out HW2.out HW3.out), Lib.hid (by rw [List.length_append]; exact OA.out), BA⟩
              case measure => simp [intOf]; omega
    · obtain rfl : len0 = k := by omega
      have kk : ¬ (len0 : Int) < len0 := by omega
      obtain ⟨e1, e2, bl⟩ := HOK.out.ends (by omega)
      have hWl := HOK.out.wlen
      obtain ⟨T, hT⟩ : ∃ x, x = flatL Ls := ⟨_, rfl⟩
      rw [← hT] at e1 e2 bl ⊢
      have HPA := Lib.hid (fun (p : Option Addr) (c : Nat) (W' : World) (g : G W') (h2 : T.length ≤ c) (h3 : c ≤ maxLen) (h4 : p = none → c = 0) (h5 : RdB W' W'.heap.size p T) => HCC.out.parse fF 0 p T.length c T W' g (by decide) rfl (by omega) h2 h3 h4 h5)
      rw [e1, e2] at HPA
      have HSM := Lib.hid (fun u v W' hu hv => sameA_yes u v W W' hu hv (by omega))
      have GV := HON.out _ _ HG.out PB.out
      have HTL := Lib.hid (show T.length ≤ maxLen by unfold maxLen; omega)
      clear e1 e2 bl hT hWl
      go_wp2_with (first
        | ((with_reducible show wpList _ _ _ (⟨some 77, _, _, _, _, _⟩ :: _) _ _)
           refine wpList_bytes12 (l := T) rfl rfl rfl HTL.out ?_
           intro W1 c1 b1 r1 h1 h2
           have B1 := Lib.hid (PB.out.trans (b1.mono PB.out.size))
           have R1 := Lib.hid r1
           have G1 := HON.out _ _ GV b1
           have P1 := Lib.hid (own_b13 PO.out b1)
           clear r1 b1)
        | (go_at_call 8; ((with_reducible refine (HPA.out _ _ _ G1 h1 h2 (fun h => by cases h) R1.out).mono ?_); rintro e W2 ⟨va, vn, rfl, ra, rn, b2⟩); have G2 := HON.out _ _ G1 b2; have B2 := Lib.hid (B1.out.trans (b2.mono B1.out.size)); have RA := Lib.hid ra; have P2 := Lib.hid (rows_own encA_len (own_b13 P1.out b2)); obtain ⟨qn, cn, rfl, _⟩ := rn; clear b2 ra)
        | (go_at_call 10; ((with_reducible refine (HSM.out _ _ _ RA.out P2.out).mono ?_); rintro e W3 ⟨rfl, b3⟩); have G3 := HON.out _ _ G2 b3; have B3 := Lib.hid (B2.out.trans (b3.mono B2.out.size)); clear b3)
        | (go_at_call 12; ((with_reducible refine (HAW.out _ G3).mono ?_); rintro e v11 ⟨rfl, b11⟩)))
      go_ret
      exact ⟨by first | rfl | simp, B3.out.trans (b11.mono B3.out.size)⟩

set_option maxRecDepth 100000 in
theorem lifted (HC : UnitC G12) (HT : TrimC G12) (os : Os) (started : os.Started) (H : Type) (enc : TypeId × Value → H) :
    ReturnsInHanded {} Tryd.checked os 5 .any (fun w args => (Rows.unitWrittenSpec.pre enc Tryd.prog Tryd.f5 [] false w args ∧ laidMetH Tryd.prog listed12 w) ∧ sizedMet enc Tryd.prog Tryd.f5 (OpenSpec.ofChange Rows.unitWrittenSpec) false w args)
      (Rows.unitWrittenSpec.post enc Tryd.prog Tryd.f5 false true false false) := by
  refine returnsInHanded_of_change_and (C := Tryd.checked) (X := fun w _ => laidMetH Tryd.prog listed12 w) (fun _ _ _ hh h => h.of_heap hh) ownKnob_none started (by kernel_rfl) Tryd.func5
    (ChangeSpec.witness_shaped (enc := enc) (C := Tryd.checked) (os := os) (X := fun w _ => laidMetH Tryd.prog listed12 w) false (World.laidAll Tryd.prog os listed12) #[.slice none 0 0, .bool false] 8 (World.laidAll_os _ _ _) (World.shaped_of_ZipB (by kernel_rfl) (by kernel_rfl)) (by kernel_rfl) (by kernel_rfl) (by kernel_rfl) (by rw [MakeChecks.laidMetH_plain _ _ _ (by kernel_rfl)]; exact laidMet_laidAll _ (by kernel_rfl) (by kernel_rfl))) ?_
  intro W base args ds gs before hval0 hW _ _ hL _
  have hG : G12 W := of_laid12 hL
  have hval : ∀ (j : Nat) t v, Tryd.f5.params[j]? = some t → args[j]? = some v → Value.okWide Tryd.prog W .any base t v := hval0
  have hW' := hW
  obtain ⟨p, q, hA0, hV, rfl, hfz, hnd⟩ := hW
  have hA : DataW.TrodAll enc Tryd.prog W 0 (fun _ => true) true Tryd.f5.params.toList args.toList ds p := hA0
  rw [Tryd.params5] at hA hval
  obtain ⟨v0, vs0, d0, ds0, p0, q0, hargs, rfl, rfl, h0, r0⟩ := trodAll_cons hA
  obtain ⟨v1, vs1, d1, ds1, p1, q1, rfl, rfl, rfl, h1, r1⟩ := trodAll_cons r0
  obtain ⟨rfl, rfl, rfl⟩ := trodAll_nil r1
  obtain rfl : args = #[v0, v1] := by cases args; simp_all
  obtain ⟨rfl, rfl⟩ := trodVars_none hV
  obtain ⟨a0, len0, cap0, rfl⟩ := okWide_slice Tryd.underlying26 (hval 0 26 v0 rfl rfl)
  have k0 := h0
  have lt0 : ∀ x ∈ p0, x.block < W.heap.size := by obtain ⟨m, hm⟩ := k0; exact DataW.trod_lt m _ _ _ hm
  obtain ⟨z0, w0⟩ := asns_open h0 lt0
  obtain ⟨a1, rfl, rfl, rfl⟩ := open_bool Tryd.underlying4 (hval 1 4 v1 rfl rfl) h1
  have w1 := trivial
  clear hA0 hval0
  refine (walk HC HT a0 len0 cap0 z0 a1 W hG w0 w1).mono fun e W' ⟨he, bel⟩ => ?_
  subst he
  exact ⟨_, rfl, _, _, _, [], _, [], hW', trodAll_mk1 (shut_bool Tryd.underlying4 _), (trodAll_cons_mk (Below.trod laidOut (by kernel_rfl) (of_decide_eq_true (by kernel_rfl)) k0 bel lt0) (trodAll_cons_mk (shut_bool Tryd.underlying4 _) trodAll_mk0)), rfl, bel.frame _, fun h => by cases h⟩

theorem over (HC : UnitC G12) (HT : TrimC G12) : Rows.unitWrittenRow.holds Tryd.pinned (OpenSpec.ofChange Rows.unitWrittenSpec) :=
  OpenClaim.holds_of_wide 5 Tryd.f5 rfl rfl rfl rfl rfl rfl rfl ⟨rfl, rfl, rfl, rfl, rfl⟩ rfl rfl rfl rfl rfl (by kernel_rfl) Tryd.func5 (by kernel_rfl)
    (of_decide_eq_true (by kernel_rfl)) (by unfold Func.isWrapper; first | (rw [if_pos (by decide +kernel)]; kernel_rfl) | (rw [if_neg (by decide +kernel)]; exact ⟨rfl, rfl⟩))
    (fun os started H enc _ => lifted HC HT os started H enc)

/-- The row's statement. -/
theorem row_holds : Rows.UnitWrittenSaid := over unitC ⟨linesC.on, linesC.trim⟩
/-- The statement: the row, its table tied to the program's text. -/
theorem proved : Rows.UnitWrittenCardSaid :=
  Claim7.holds_tied_plain_at .later [] [.data, .pinned] true Rows.unitWrittenCard.stood.harness Rows.unitWrittenCard.stood.looks
    row_holds (fun _ h => by cases h) (by kernel_rfl) (fun _ h => by cases h) unitWritten_row_tie rfl ⟨rfl, rfl⟩ (by kernel_rfl) rfl
    (fun f fn hf hfn => by
      obtain rfl : f = 5 := Option.some.inj ((show Tryd.prog.funcNamed "vestibule/vestibulelaw13.UnitWritten" = some 5 by kernel_rfl).symm.trans hf) |>.symm
      obtain rfl : fn = Tryd.f5 := (Option.some.inj (Tryd.func5.symm.trans hfn)).symm
      exact ⟨by kernel_rfl, fun j t ht => by
        have hm : t ∈ Tryd.f5.params.toList := by simpa using Array.mem_of_getElem? ht
        have hall : (Tryd.f5.params.toList.all fun u => !Tryd.prog.wantsStandIn u) = true := by kernel_rfl
        exact (show Tryd.prog.wantsStandIn t = false by simpa using List.all_eq_true.1 hall t hm)⟩)
    (by kernel_rfl)
#print axioms proved
end Go.Proofs.YtifjnioichfodaaDoor.unitWritten
