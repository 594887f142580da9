/- The statement LinesJoined holds, over what the calls have to return: a text that is cut into parts, each but the last one continued, with comments between, is one logical line. -/
import Derived.Test.YtagmlphhmjdaiaaDoorRows
import Derived.Test.YtagmlphhmjdaiaaDoorCards
import Derived.Test.YtagmlphhmjdaiaaDoorTie
import Derived.SevenTiedAt
import Derived.Test.YtagmlphhmjdaiaaDoorFr
import Derived.Test.YtagmlphhmjdaiaaDoorZn
import Derived.Test.YtagmlphhmjdaiaaDoorZm
import Derived.Test.YtagmlphhmjdaiaaDoorLj
import Derived.Test.YtagmlphhmjdaiaaDoorLs
import Derived.Test.YtagmlphhmjdaiaaDoorLt
namespace Go.Proofs.YtagmlphhmjdaiaaDoor.linesJoined
set_option linter.unusedSimpArgs false
open Go.ChangeShapes Go.WideShapes Go.ChangeAt Go.RowKit
open Go.ChangeMaps (open_string shut_string)
set_option linter.unusedVariables false
attribute [local go_sem ↓] Go.wp_at_zero Go.wp_at_succ
/-- What was put into the text, and what it comes to, behind k of m parts. -/
def JoinK (A m k : Nat) (s T : List UInt8) : Prop := ∃ B TB j, j ≤ k ∧ JoinB j B TB ∧ ((k < m ∧ j = k ∧ s = flatL (repL A ++ B) ∧ T = TB) ∨ (k = m ∧ ∃ t, PlainT t ∧ s = flatL (repL A ++ B) ++ t ∧ T = TB ++ t))
set_option maxRecDepth 100000 in
set_option maxHeartbeats 64000000 in
theorem walk {G : World → Prop} (HC : LinesC G) (a0 : Option Addr) (len0 cap0 : Nat) (z0 : List ByteArray) (a1 : Int) (a2 : Bool) (w : World) (hG : G w) (w0 : IsStrs w a0 len0 cap0 z0) (w1 : (Lit.int .i64 a1).wf = true) (w2 : True) :
    Calls Tryd.prog 7 #[.slice a0 len0 cap0, .int .i64 a1, .bool a2] w fun e w' => e = .returned (.bool true) ∧ Below w.heap.size w w' := by
  have HAW := Lib.hid (fun (W : World) (g : G W) => awake12_any HC W g)
  have HON := Lib.hid (fun (w w' : World) => HC.on (w := w) (w' := w'))
  have HG := Lib.hid hG
  obtain ⟨y0, y1⟩ := bounds_i64 w1
  clear w2
  by_cases hz : len0 = 0
  · have hz1 : ((len0 : Int) == 0) = true := beq_iff_eq.2 (by omega)
    have hz2 : (len0 : Int) = 0 := by omega
    clear HC hG w0 w1 y0 y1 hz
    go_enter Tryd.func7, Tryd.ntmps7
    go_wp2_with (go_at_call 12; ((with_reducible refine (HAW.out _ HG.out).mono ?_); rintro e v1 ⟨rfl, b1⟩))
    go_ret
    exact ⟨rfl, b1⟩
  have hz1 : ((len0 : Int) == 0) = false := beq_eq_false_iff_ne.2 (by omega)
  by_cases hlong : (20 : Int) < len0
  · have hl1 : decide ((20 : Int) < len0) = true := decide_eq_true hlong
    clear HC hG w0 w1 y0 y1 hz
    go_enter Tryd.func7, Tryd.ntmps7
    go_wp2_with (go_at_call 12; ((with_reducible refine (HAW.out _ HG.out).mono ?_); rintro e v1 ⟨rfl, b1⟩))
    go_ret
    exact ⟨rfl, b1⟩
  have hl1 : decide ((20 : Int) < len0) = false := decide_eq_false hlong
  have hs : (len0 : Int) ≤ 20 := by omega
  obtain ⟨A, hA⟩ := Int.eq_ofNat_of_zero_le (show 0 ≤ a1 % 18446744073709551616 % 50 by omega)
  have hA2 : A < 50 := by omega
  have ht1 : Int.tmod (IntKind.u64.wrap a1) 50 = A := by rw [IntKind.wrap_u64, Int.tmod_eq_emod_of_nonneg (by omega)]; omega
  have ht2 : IntKind.i64.wrap (A : Int) = A := by rw [IntKind.wrap_i64]; omega
  have HZL := Lib.hid w0.size
  have HRN := Lib.hid w0.rng
  have HRD := Lib.hid w0.rd
  have HCC := Lib.hid HC
  have hm0 : 0 < len0 := by omega
  clear HC hG w0 w1 hlong y0 y1 hA hz
  have HC := HCC
  clear HCC
  go_enter Tryd.func7, Tryd.ntmps7
  go_wp2_with fail
  go_loop [7, 9] (fun v7 v9 => ∃ j : Nat, j ≤ A ∧ v9 = .int .i64 j ∧ v7 = .string (bs (flatL (repL j)))) (fun _ v9 => A - (intOf v9).toNat)
  case atStart => exact ⟨0, by omega, rfl, rfl⟩
  case round =>
    obtain ⟨j, hj, rfl, rfl⟩ := hrel
    by_cases hjl : j < A
    · have j1 : (j : Int) < A := by omega
      have j0 : (0 : Int) ≤ j := by omega
      have hw2 : IntKind.i64.wrap ((j : Int) + 1) = j + 1 := by rw [IntKind.wrap_i64]; omega
      have HS32 := Lib.hid (show (bs (flatL (repL j))).size + (⟨#[10]⟩ : ByteArray).size ≤ 4611686018427387904 from by rw [bs_size, repL_len]; show _ + 1 ≤ _; omega)
      have HB32 := Lib.hid (show bs (flatL (repL j)) ++ (⟨#[10]⟩ : ByteArray) = bs (flatL (repL (j + 1))) from by rw [repL_succ]; exact bs_app _ [10])
      go_wp2_with (first
        | ((with_reducible show wpList _ _ _ (⟨some 32, _, _, _, _, _⟩ :: _) _ _)
           refine wpList_cat12 (X := bs (flatL (repL j))) (z := flatL (repL (j + 1))) rfl rfl rfl rfl HS32.out HB32.out ?_))
      go_round
      case rel => exact ⟨j + 1, by omega, by go_num, rfl⟩
      case measure => simp [intOf]; omega
    · obtain rfl : A = j := by omega
      have jj : ¬ (A : Int) < A := by omega
      go_wp2_with fail
      go_loopw [7, 8, 10] (fun v7 v8 v10 wr => ∃ (k : Nat) (s T : List UInt8), k ≤ len0 ∧ v10 = .int .i64 k ∧ v7 = .string (bs s) ∧ v8 = .string (bs T) ∧ Hid (JoinK A len0 k s T) ∧ Hid (Below w.heap.size w wr)) (fun _ _ v10 _ => len0 - (intOf v10).toNat)
      case atStart => exact ⟨0, flatL (repL A), [], by omega, rfl, rfl, rfl, Lib.hid ⟨[], [], 0, Nat.le_refl _, JoinB.zero, .inl ⟨hm0, rfl, by rw [List.append_nil], rfl⟩⟩, Lib.hid (Below.refl _ _)⟩
      case round =>
        obtain ⟨k, s, T0, hk, rfl, rfl, rfl, HJ, PB⟩ := hrel
        obtain ⟨V, rfl⟩ : ∃ wo : World, wo = wr := ⟨_, rfl⟩
        by_cases hlt : k < len0
        · obtain ⟨B, T, jj2, hjk, hJB, hst⟩ := HJ.out
          rcases hst with ⟨_, hjk2, hs2, hT2⟩ | ⟨hkm, _⟩
          · have hq := hjk2.symm
            have hq2 := hT2.symm
            subst hq hs2 hq2
            have HJB := Lib.hid hJB
            clear hJB HJ hjk
            have hx : z0[k]? = some (z0[k]'(by rw [HZL.out]; exact hlt)) := List.getElem?_eq_getElem _
            obtain ⟨S, hS⟩ : ∃ s, s = z0[k]'(by rw [HZL.out]; exact hlt) := ⟨_, rfl⟩
            rw [← hS] at hx
            have hSm := HRN.out S (List.mem_of_getElem? hx)
            obtain ⟨b, o, rfl, hb, hcs⟩ := HRD.out (by omega)
            have d0 := hcs k S hx
            have c0 := (PB.out.cell (World.block_lt_of_cell? w _ d0)).trans d0
            obtain ⟨t, ht⟩ : ∃ t, t = S.data.toList := ⟨_, rfl⟩
            have HSB := Lib.hid (show S = bs t by rw [ht, bs_self])
            have HSZ := Lib.hid (show S.size = t.length by rw [ht]; simp)
            have HGET := Lib.hid (show ∀ i (h : i < S.size) (h2 : i < t.length), S[i]'h = t[i]'h2 from fun i h h2 => by subst ht; rfl)
            have HCM := Lib.hid (fun (W : World) (g : G W) => HC.out.comment S W g hSm)
            have HTR := Lib.hid (fun (W : World) (g : G W) => HC.out.trim S W g hSm)
            rw [← ht] at HCM HTR
            have GV := HON.out _ _ HG.out PB.out
            have k1 : (k : Int) < len0 := by omega
            have k0 : (0 : Int) ≤ k := by omega
            have hw1 : IntKind.i64.wrap ((k : Int) + 1) = k + 1 := by rw [IntKind.wrap_i64]; omega
            clear hx hS hb hcs d0 ht
            by_cases h60 : (60 : Int) < S.size
            · have h61 : decide ((60 : Int) < S.size) = true := decide_eq_true h60
              go_wp2_with (first
                | (go_at_call 15; ((with_reducible refine (HCM.out _ GV).mono ?_); rintro e vy ⟨rfl, by_⟩); have gy := HON.out _ _ GV by_; have hy := thn PB.out by_)
                | (go_at_call 12; ((with_reducible refine (HAW.out _ GV).mono ?_); rintro e vz ⟨rfl, bz⟩)))
              go_ret
              exact ⟨by first | rfl | simp, thn PB.out bz⟩
            have h61 : decide ((60 : Int) < S.size) = false := decide_eq_false h60
            cases hcm : comL t with
            | true =>
              rw [hcm] at HCM
              go_wp2_with (first
                | (go_at_call 15; ((with_reducible refine (HCM.out _ GV).mono ?_); rintro e vy ⟨rfl, by_⟩); have gy := HON.out _ _ GV by_; have hy := thn PB.out by_)
                | (go_at_call 12; ((with_reducible refine (HAW.out _ gy).mono ?_); rintro e vz ⟨rfl, bz⟩)))
              go_ret
              exact ⟨by first | rfl | simp, thn hy bz⟩
            | false =>
              rw [hcm] at HCM
              rcases List.eq_nil_or_concat t with ht0 | ⟨Y, c, hY⟩
              · have hs0 : S.size = 0 := by rw [HSZ.out, ht0]; rfl
                have HPT := Lib.hid (fun (h : ∀ c ∈ t, c ≠ 10) => (⟨by rw [ht0]; simp, hcm, by rw [ht0]; rfl, h⟩ : PlainT t))
                have s0 : ¬ (0 : Int) < S.size := by omega
                have s00 : decide ((0 : Int) < S.size) = false := decide_eq_false s0
                have s01 : ¬ 0 < S.size := by omega
                clear hs0 ht0 h60
                go_wp2_with (first
                  | (go_at_call 15; ((with_reducible refine (HCM.out _ GV).mono ?_); rintro e vy ⟨rfl, by_⟩); have GY := Lib.hid (HON.out _ _ GV by_); have BY := Lib.hid (thn PB.out by_); have bY := Lib.hid by_; clear by_))
                go_loop [12] (fun vk => ∃ j : Nat, j ≤ S.size ∧ vk = .int .i64 j ∧ Hid (∀ i (h : i < S.size), i < j → S[i]'h ≠ 10)) (fun vk => S.size - (intOf vk).toNat)
                case atStart => exact ⟨0, by omega, rfl, Lib.hid (fun i h hi => absurd hi (by omega))⟩
                case round =>
                  obtain ⟨j, hj, rfl, HT⟩ := hrel
                  by_cases hjl : j < S.size
                  · obtain ⟨x, hx⟩ : ∃ x, x = (((S[j]'hjl).toNat : Nat) : Int) := ⟨_, rfl⟩
                    have hidx : (((S[j]'hjl).toNat : Nat) : Int) = x := hx.symm
                    have j1 : (j : Int) < S.size := by omega
                    have j0 : (0 : Int) ≤ j := by omega
                    have hw2 : IntKind.i64.wrap ((j : Int) + 1) = j + 1 := by rw [IntKind.wrap_i64]; omega
                    by_cases h10 : x = 10
                    · subst h10
                      clear hx
                      go_wp2_with (first
                        | (go_at_call 12; ((with_reducible refine (HAW.out _ GY.out).mono ?_); rintro e vz ⟨rfl, bz⟩)))
                      go_ret
                      exact ⟨by first | rfl | simp, thn BY.out bz⟩
                    · have HN10 := Lib.hid (show S[j]'hjl ≠ 10 from fun h => h10 (by rw [hx, h]; rfl))
                      have hb10 : (x == 10) = false := beq_eq_false_iff_ne.2 h10
                      clear h10 hx
                      go_wp2_with fail
                      go_round
                      case rel => exact ⟨j + 1, by omega, by go_num, Lib.hid (fun i h hi => by
                        by_cases e : i = j
                        · subst e; exact HN10.out
                        · exact HT.out i h (by omega))⟩
                      case measure => simp [intOf]; omega
                  · obtain rfl : j = S.size := by omega
                    have jj : ¬ (S.size : Int) < S.size := by omega
                    have HTEN := Lib.hid (show ∀ c ∈ t, c ≠ 10 from fun c hc => by
                      obtain ⟨i, hi, rfl⟩ := List.mem_iff_getElem.1 hc
                      have hi2 : i < S.size := by rw [HSZ.out]; exact hi
                      have := HT.out i hi2 hi2
                      rwa [show S[i]'hi2 = t[i]'hi from HGET.out i hi2 hi] at this)
                    clear HT
                    have HPL := Lib.hid (HPT.out HTEN.out)
                    have hS60 : t.length ≤ 60 := HPL.out.len
                    have hbf := HJB.out.flat A
                    have hbt := HJB.out.text
                    obtain ⟨U, hU⟩ : ∃ U, U = flatL (repL A ++ B) := ⟨_, rfl⟩
                    have HU := Lib.hid hU
                    rw [← hU] at hbf ⊢
                    have HS77 := Lib.hid (show (bs U).size + S.size ≤ 4611686018427387904 from by rw [bs_size, HSZ.out]; omega)
                    have HB77 := Lib.hid (show bs U ++ S = bs (U ++ t) from by rw [HSB.out, bs_app])
                    have HS80 := Lib.hid (show (bs T).size + S.size ≤ 4611686018427387904 from by rw [bs_size, HSZ.out]; omega)
                    have HB80 := Lib.hid (show bs T ++ S = bs (T ++ t) from by rw [HSB.out, bs_app])
                    have HS87 := Lib.hid (show (bs (U ++ t)).size + (⟨#[92, 10]⟩ : ByteArray).size ≤ 4611686018427387904 from by rw [bs_size, List.length_append]; show _ + 2 ≤ _; omega)
                    have HB87 := Lib.hid (show bs (U ++ t) ++ (⟨#[92, 10]⟩ : ByteArray) = bs (U ++ (t ++ [92, 10])) from (bs_app (U ++ t) [92, 10]).trans (by rw [List.append_assoc]))
                    have HS89 := Lib.hid (show (bs (T ++ t)).size + (⟨#[32]⟩ : ByteArray).size ≤ 4611686018427387904 from by rw [bs_size, List.length_append]; show _ + 1 ≤ _; omega)
                    have HB89 := Lib.hid (show bs (T ++ t) ++ (⟨#[32]⟩ : ByteArray) = bs (T ++ (t ++ [32])) from (bs_app (T ++ t) [32]).trans (by rw [List.append_assoc]))
                    have HS92 := Lib.hid (show (bs (U ++ (t ++ [92, 10]))).size + (⟨#[59, 10]⟩ : ByteArray).size ≤ 4611686018427387904 from by rw [bs_size, List.length_append, List.length_append]; show _ + (_ + 2) + 2 ≤ _; omega)
                    have HB92 := Lib.hid (show bs (U ++ (t ++ [92, 10])) ++ (⟨#[59, 10]⟩ : ByteArray) = bs (U ++ (t ++ [92, 10, 59, 10])) from (bs_app (U ++ (t ++ [92, 10])) [59, 10]).trans (by simp))
                    have hml : IntKind.i64.wrap ((len0 : Int) - 1) = (len0 : Int) - 1 := by rw [IntKind.wrap_i64]; omega
                    clear hU hbf hbt
                    by_cases hlast : k + 1 < len0
                    · have l1 : (k : Int) < (len0 : Int) - 1 := by omega
                      have l2 : decide ((k : Int) < (len0 : Int) - 1) = true := decide_eq_true l1
                      cases a2 with
                      | true =>
                        have HE := Lib.hid (show U ++ (t ++ [92, 10, 59, 10]) = flatL (repL A ++ (B ++ [t ++ [92], [59]])) from by
                          rw [HU.out, show repL A ++ (B ++ [t ++ [92], [59]]) = (repL A ++ B) ++ [t ++ [92], [59]] from (List.append_assoc ..).symm, flatL_app (repL A ++ B)]
                          show _ = _ ++ ((t ++ [92]) ++ [10] ++ ([59] ++ [10] ++ []))
                          simp)
                        go_wp2_with (first
                          | ((with_reducible show wpList _ _ _ (⟨some 77, _, _, _, _, _⟩ :: _) _ _)
                             refine wpList_cat12 (X := bs U) (z := U ++ t) rfl rfl rfl rfl HS77.out HB77.out ?_)
                          | ((with_reducible show wpList _ _ _ (⟨some 80, _, _, _, _, _⟩ :: _) _ _)
                             refine wpList_cat12 (X := bs T) (z := T ++ t) rfl rfl rfl rfl HS80.out HB80.out ?_)
                          | ((with_reducible show wpList _ _ _ (⟨some 87, _, _, _, _, _⟩ :: _) _ _)
                             refine wpList_cat12 (X := bs (U ++ t)) (z := U ++ (t ++ [92, 10])) rfl rfl rfl rfl HS87.out HB87.out ?_)
                          | ((with_reducible show wpList _ _ _ (⟨some 89, _, _, _, _, _⟩ :: _) _ _)
                             refine wpList_cat12 (X := bs (T ++ t)) (z := T ++ (t ++ [32])) rfl rfl rfl rfl HS89.out HB89.out ?_)
                          | ((with_reducible show wpList _ _ _ (⟨some 92, _, _, _, _, _⟩ :: _) _ _)
                             refine wpList_cat12 (X := bs (U ++ (t ++ [92, 10]))) (z := U ++ (t ++ [92, 10, 59, 10])) rfl rfl rfl rfl HS92.out HB92.out ?_))
                        go_roundw
                        case rel => exact ⟨k + 1, U ++ (t ++ [92, 10, 59, 10]), T ++ (t ++ [32]), by omega, by go_num, rfl, rfl, Lib.hid ⟨_, _, k + 1, by omega, HJB.out.cmt HPL.out, .inl ⟨by omega, by omega, HE.out, rfl⟩⟩, Lib.hid (thn PB.out bY.out)⟩
                        case measure => simp [intOf]; omega
                      | false =>
                        have HE := Lib.hid (show U ++ (t ++ [92, 10]) = flatL (repL A ++ (B ++ [t ++ [92]])) from by
                          rw [HU.out, show repL A ++ (B ++ [t ++ [92]]) = (repL A ++ B) ++ [t ++ [92]] from (List.append_assoc ..).symm, flatL_app (repL A ++ B), flatL_one]
                          simp)
                        go_wp2_with (first
                          | ((with_reducible show wpList _ _ _ (⟨some 77, _, _, _, _, _⟩ :: _) _ _)
                             refine wpList_cat12 (X := bs U) (z := U ++ t) rfl rfl rfl rfl HS77.out HB77.out ?_)
                          | ((with_reducible show wpList _ _ _ (⟨some 80, _, _, _, _, _⟩ :: _) _ _)
                             refine wpList_cat12 (X := bs T) (z := T ++ t) rfl rfl rfl rfl HS80.out HB80.out ?_)
                          | ((with_reducible show wpList _ _ _ (⟨some 87, _, _, _, _, _⟩ :: _) _ _)
                             refine wpList_cat12 (X := bs (U ++ t)) (z := U ++ (t ++ [92, 10])) rfl rfl rfl rfl HS87.out HB87.out ?_)
                          | ((with_reducible show wpList _ _ _ (⟨some 89, _, _, _, _, _⟩ :: _) _ _)
                             refine wpList_cat12 (X := bs (T ++ t)) (z := T ++ (t ++ [32])) rfl rfl rfl rfl HS89.out HB89.out ?_)
                          | ((with_reducible show wpList _ _ _ (⟨some 92, _, _, _, _, _⟩ :: _) _ _)
                             refine wpList_cat12 (X := bs (U ++ (t ++ [92, 10]))) (z := U ++ (t ++ [92, 10, 59, 10])) rfl rfl rfl rfl HS92.out HB92.out ?_))
                        go_roundw
                        case rel => exact ⟨k + 1, U ++ (t ++ [92, 10]), T ++ (t ++ [32]), by omega, by go_num, rfl, rfl, Lib.hid ⟨_, _, k + 1, by omega, HJB.out.more HPL.out, .inl ⟨by omega, by omega, HE.out, rfl⟩⟩, Lib.hid (thn PB.out bY.out)⟩
                        case measure => simp [intOf]; omega
                    · have l1 : ¬ (k : Int) < (len0 : Int) - 1 := by omega
                      have l2 : decide ((k : Int) < (len0 : Int) - 1) = false := decide_eq_false l1
                      go_wp2_with (first
                          | ((with_reducible show wpList _ _ _ (⟨some 77, _, _, _, _, _⟩ :: _) _ _)
                             refine wpList_cat12 (X := bs U) (z := U ++ t) rfl rfl rfl rfl HS77.out HB77.out ?_)
                          | ((with_reducible show wpList _ _ _ (⟨some 80, _, _, _, _, _⟩ :: _) _ _)
                             refine wpList_cat12 (X := bs T) (z := T ++ t) rfl rfl rfl rfl HS80.out HB80.out ?_)
                          | ((with_reducible show wpList _ _ _ (⟨some 87, _, _, _, _, _⟩ :: _) _ _)
                             refine wpList_cat12 (X := bs (U ++ t)) (z := U ++ (t ++ [92, 10])) rfl rfl rfl rfl HS87.out HB87.out ?_)
                          | ((with_reducible show wpList _ _ _ (⟨some 89, _, _, _, _, _⟩ :: _) _ _)
                             refine wpList_cat12 (X := bs (T ++ t)) (z := T ++ (t ++ [32])) rfl rfl rfl rfl HS89.out HB89.out ?_)
                          | ((with_reducible show wpList _ _ _ (⟨some 92, _, _, _, _, _⟩ :: _) _ _)
                             refine wpList_cat12 (X := bs (U ++ (t ++ [92, 10]))) (z := U ++ (t ++ [92, 10, 59, 10])) rfl rfl rfl rfl HS92.out HB92.out ?_))
                      go_roundw
                      case rel => exact ⟨k + 1, U ++ t, T ++ t, by omega, by go_num, rfl, rfl, Lib.hid ⟨B, T, k, by omega, HJB.out, .inr ⟨by omega, t, HPL.out, by rw [HU.out], rfl⟩⟩, Lib.hid (thn PB.out bY.out)⟩
                      case measure => simp [intOf]; omega
              · rw [List.concat_eq_append] at hY
                obtain ⟨m, hm⟩ : ∃ m, m = Y.length := ⟨_, rfl⟩
                have e1 : S.size = m + 1 := by rw [HSZ.out, hY, List.length_append, hm]; rfl
                have hmS : m < S.size := by omega
                obtain ⟨x, hx⟩ : ∃ x, x = (((S[m]'hmS).toNat : Nat) : Int) := ⟨_, rfl⟩
                have hxc : x = (c.toNat : Int) := by
                  rw [hx, show S[m]'hmS = t[m]'(by rw [← HSZ.out]; exact hmS) from HGET.out m hmS _]
                  congr 2
                  subst hY
                  rw [List.getElem_append_right (by omega)]
                  simp [hm]
                have hidx0 : (((S[m]'hmS).toNat : Nat) : Int) = x := hx.symm
                have hcon : conL t = (x == 92) := by
                  unfold conL
                  rw [hY, List.getLast?_concat, hxc, Bool.eq_iff_iff, beq_iff_eq, beq_iff_eq]
                  simp only [Option.some.injEq]
                  exact ⟨fun h => by rw [h]; rfl, fun h => UInt8.toNat_inj.1 (by have : (c.toNat : Int) = ((92 : UInt8).toNat : Int) := h; omega)⟩
                have hS6 : S.size ≤ 60 := by omega
                have hw3 : IntKind.i64.wrap ((S.size : Int) - 1) = m := by rw [IntKind.wrap_i64]; omega
                have hw4 : (S.size : Int) - 1 = m := by omega
                have hw5 : IntKind.i64.wrap (m : Int) = m := by rw [IntKind.wrap_i64]; omega
                have m0 : (0 : Int) ≤ m := by omega
                have m1 : (m : Int) < S.size := by omega
                have m2 : (0 : Int) < S.size := by omega
                have m3 : 0 < S.size := by omega
                have m4 : decide ((0 : Int) < S.size) = true := decide_eq_true m2
                have hlen := (show t.length ≤ 60 by rw [← HSZ.out]; omega)
                clear hm e1 hx hxc h60
                by_cases h92 : x = 92
                · subst h92
                  clear hcon hY hlen
                  go_wp2_with (first
                    | (go_at_call 15; ((with_reducible refine (HCM.out _ GV).mono ?_); rintro e vy ⟨rfl, by_⟩); have gy := HON.out _ _ GV by_; have hy := thn PB.out by_)
                    | (go_at_call 12; ((with_reducible refine (HAW.out _ gy).mono ?_); rintro e vz ⟨rfl, bz⟩)))
                  go_ret
                  exact ⟨by first | rfl | simp, thn hy bz⟩
                · have e92 : (x == 92) = false := beq_eq_false_iff_ne.2 h92
                  rw [e92] at hcon
                  have HPT := Lib.hid (fun (h : ∀ c ∈ t, c ≠ 10) => (⟨hlen, hcm, hcon, h⟩ : PlainT t))
                  clear h92 hcon hY hlen
                  go_wp2_with (first
                    | (go_at_call 15; ((with_reducible refine (HCM.out _ GV).mono ?_); rintro e vy ⟨rfl, by_⟩); have GY := Lib.hid (HON.out _ _ GV by_); have BY := Lib.hid (thn PB.out by_); have bY := Lib.hid by_; clear by_))
                  clear hw3 hw4 hw5 m0 m1 m2 m3 m4 hidx0 e92
                  go_loop [12] (fun vk => ∃ j : Nat, j ≤ S.size ∧ vk = .int .i64 j ∧ Hid (∀ i (h : i < S.size), i < j → S[i]'h ≠ 10)) (fun vk => S.size - (intOf vk).toNat)
                  case atStart => exact ⟨0, by omega, rfl, Lib.hid (fun i h hi => absurd hi (by omega))⟩
                  case round =>
                    obtain ⟨j, hj, rfl, HT⟩ := hrel
                    by_cases hjl : j < S.size
                    · obtain ⟨x, hx⟩ : ∃ x, x = (((S[j]'hjl).toNat : Nat) : Int) := ⟨_, rfl⟩
                      have hidx : (((S[j]'hjl).toNat : Nat) : Int) = x := hx.symm
                      have j1 : (j : Int) < S.size := by omega
                      have j0 : (0 : Int) ≤ j := by omega
                      have hw2 : IntKind.i64.wrap ((j : Int) + 1) = j + 1 := by rw [IntKind.wrap_i64]; omega
                      by_cases h10 : x = 10
                      · subst h10
                        clear hx
                        go_wp2_with (first
                          | (go_at_call 12; ((with_reducible refine (HAW.out _ GY.out).mono ?_); rintro e vz ⟨rfl, bz⟩)))
                        go_ret
                        exact ⟨by first | rfl | simp, thn BY.out bz⟩
                      · have HN10 := Lib.hid (show S[j]'hjl ≠ 10 from fun h => h10 (by rw [hx, h]; rfl))
                        have hb10 : (x == 10) = false := beq_eq_false_iff_ne.2 h10
                        clear h10 hx
                        go_wp2_with fail
                        go_round
                        case rel => exact ⟨j + 1, by omega, by go_num, Lib.hid (fun i h hi => by
                          by_cases e : i = j
                          · subst e; exact HN10.out
                          · exact HT.out i h (by omega))⟩
                        case measure => simp [intOf]; omega
                    · obtain rfl : j = S.size := by omega
                      have jj : ¬ (S.size : Int) < S.size := by omega
                      have HTEN := Lib.hid (show ∀ c ∈ t, c ≠ 10 from fun c hc => by
                        obtain ⟨i, hi, rfl⟩ := List.mem_iff_getElem.1 hc
                        have hi2 : i < S.size := by rw [HSZ.out]; exact hi
                        have := HT.out i hi2 hi2
                        rwa [show S[i]'hi2 = t[i]'hi from HGET.out i hi2 hi] at this)
                      clear HT
                      have HPL := Lib.hid (HPT.out HTEN.out)
                      have hS60 : t.length ≤ 60 := HPL.out.len
                      have hbf := HJB.out.flat A
                      have hbt := HJB.out.text
                      obtain ⟨U, hU⟩ : ∃ U, U = flatL (repL A ++ B) := ⟨_, rfl⟩
                      have HU := Lib.hid hU
                      rw [← hU] at hbf ⊢
                      have HS77 := Lib.hid (show (bs U).size + S.size ≤ 4611686018427387904 from by rw [bs_size, HSZ.out]; omega)
                      have HB77 := Lib.hid (show bs U ++ S = bs (U ++ t) from by rw [HSB.out, bs_app])
                      have HS80 := Lib.hid (show (bs T).size + S.size ≤ 4611686018427387904 from by rw [bs_size, HSZ.out]; omega)
                      have HB80 := Lib.hid (show bs T ++ S = bs (T ++ t) from by rw [HSB.out, bs_app])
                      have HS87 := Lib.hid (show (bs (U ++ t)).size + (⟨#[92, 10]⟩ : ByteArray).size ≤ 4611686018427387904 from by rw [bs_size, List.length_append]; show _ + 2 ≤ _; omega)
                      have HB87 := Lib.hid (show bs (U ++ t) ++ (⟨#[92, 10]⟩ : ByteArray) = bs (U ++ (t ++ [92, 10])) from (bs_app (U ++ t) [92, 10]).trans (by rw [List.append_assoc]))
                      have HS89 := Lib.hid (show (bs (T ++ t)).size + (⟨#[32]⟩ : ByteArray).size ≤ 4611686018427387904 from by rw [bs_size, List.length_append]; show _ + 1 ≤ _; omega)
                      have HB89 := Lib.hid (show bs (T ++ t) ++ (⟨#[32]⟩ : ByteArray) = bs (T ++ (t ++ [32])) from (bs_app (T ++ t) [32]).trans (by rw [List.append_assoc]))
                      have HS92 := Lib.hid (show (bs (U ++ (t ++ [92, 10]))).size + (⟨#[59, 10]⟩ : ByteArray).size ≤ 4611686018427387904 from by rw [bs_size, List.length_append, List.length_append]; show _ + (_ + 2) + 2 ≤ _; omega)
                      have HB92 := Lib.hid (show bs (U ++ (t ++ [92, 10])) ++ (⟨#[59, 10]⟩ : ByteArray) = bs (U ++ (t ++ [92, 10, 59, 10])) from (bs_app (U ++ (t ++ [92, 10])) [59, 10]).trans (by simp))
                      have hml : IntKind.i64.wrap ((len0 : Int) - 1) = (len0 : Int) - 1 := by rw [IntKind.wrap_i64]; omega
                      clear hU hbf hbt
                      by_cases hlast : k + 1 < len0
                      · have l1 : (k : Int) < (len0 : Int) - 1 := by omega
                        have l2 : decide ((k : Int) < (len0 : Int) - 1) = true := decide_eq_true l1
                        cases a2 with
                        | true =>
                          have HE := Lib.hid (show U ++ (t ++ [92, 10, 59, 10]) = flatL (repL A ++ (B ++ [t ++ [92], [59]])) from by
                            rw [HU.out, show repL A ++ (B ++ [t ++ [92], [59]]) = (repL A ++ B) ++ [t ++ [92], [59]] from (List.append_assoc ..).symm, flatL_app (repL A ++ B)]
                            show _ = _ ++ ((t ++ [92]) ++ [10] ++ ([59] ++ [10] ++ []))
                            simp)
                          go_wp2_with (first
                            | ((with_reducible show wpList _ _ _ (⟨some 77, _, _, _, _, _⟩ :: _) _ _)
                               refine wpList_cat12 (X := bs U) (z := U ++ t) rfl rfl rfl rfl HS77.out HB77.out ?_)
                            | ((with_reducible show wpList _ _ _ (⟨some 80, _, _, _, _, _⟩ :: _) _ _)
                               refine wpList_cat12 (X := bs T) (z := T ++ t) rfl rfl rfl rfl HS80.out HB80.out ?_)
                            | ((with_reducible show wpList _ _ _ (⟨some 87, _, _, _, _, _⟩ :: _) _ _)
                               refine wpList_cat12 (X := bs (U ++ t)) (z := U ++ (t ++ [92, 10])) rfl rfl rfl rfl HS87.out HB87.out ?_)
                            | ((with_reducible show wpList _ _ _ (⟨some 89, _, _, _, _, _⟩ :: _) _ _)
                               refine wpList_cat12 (X := bs (T ++ t)) (z := T ++ (t ++ [32])) rfl rfl rfl rfl HS89.out HB89.out ?_)
                            | ((with_reducible show wpList _ _ _ (⟨some 92, _, _, _, _, _⟩ :: _) _ _)
                               refine wpList_cat12 (X := bs (U ++ (t ++ [92, 10]))) (z := U ++ (t ++ [92, 10, 59, 10])) rfl rfl rfl rfl HS92.out HB92.out ?_))
                          go_roundw
                          case rel => exact ⟨k + 1, U ++ (t ++ [92, 10, 59, 10]), T ++ (t ++ [32]), by omega, by go_num, rfl, rfl, Lib.hid ⟨_, _, k + 1, by omega, HJB.out.cmt HPL.out, .inl ⟨by omega, by omega, HE.out, rfl⟩⟩, Lib.hid (thn PB.out bY.out)⟩
                          case measure => simp [intOf]; omega
                        | false =>
                          have HE := Lib.hid (show U ++ (t ++ [92, 10]) = flatL (repL A ++ (B ++ [t ++ [92]])) from by
                            rw [HU.out, show repL A ++ (B ++ [t ++ [92]]) = (repL A ++ B) ++ [t ++ [92]] from (List.append_assoc ..).symm, flatL_app (repL A ++ B), flatL_one]
                            simp)
                          go_wp2_with (first
                            | ((with_reducible show wpList _ _ _ (⟨some 77, _, _, _, _, _⟩ :: _) _ _)
                               refine wpList_cat12 (X := bs U) (z := U ++ t) rfl rfl rfl rfl HS77.out HB77.out ?_)
                            | ((with_reducible show wpList _ _ _ (⟨some 80, _, _, _, _, _⟩ :: _) _ _)
                               refine wpList_cat12 (X := bs T) (z := T ++ t) rfl rfl rfl rfl HS80.out HB80.out ?_)
                            | ((with_reducible show wpList _ _ _ (⟨some 87, _, _, _, _, _⟩ :: _) _ _)
                               refine wpList_cat12 (X := bs (U ++ t)) (z := U ++ (t ++ [92, 10])) rfl rfl rfl rfl HS87.out HB87.out ?_)
                            | ((with_reducible show wpList _ _ _ (⟨some 89, _, _, _, _, _⟩ :: _) _ _)
                               refine wpList_cat12 (X := bs (T ++ t)) (z := T ++ (t ++ [32])) rfl rfl rfl rfl HS89.out HB89.out ?_)
                            | ((with_reducible show wpList _ _ _ (⟨some 92, _, _, _, _, _⟩ :: _) _ _)
                               refine wpList_cat12 (X := bs (U ++ (t ++ [92, 10]))) (z := U ++ (t ++ [92, 10, 59, 10])) rfl rfl rfl rfl HS92.out HB92.out ?_))
                          go_roundw
                          case rel => exact ⟨k + 1, U ++ (t ++ [92, 10]), T ++ (t ++ [32]), by omega, by go_num, rfl, rfl, Lib.hid ⟨_, _, k + 1, by omega, HJB.out.more HPL.out, .inl ⟨by omega, by omega, HE.out, rfl⟩⟩, Lib.hid (thn PB.out bY.out)⟩
                          case measure => simp [intOf]; omega
                      · have l1 : ¬ (k : Int) < (len0 : Int) - 1 := by omega
                        have l2 : decide ((k : Int) < (len0 : Int) - 1) = false := decide_eq_false l1
                        go_wp2_with (first
                            | ((with_reducible show wpList _ _ _ (⟨some 77, _, _, _, _, _⟩ :: _) _ _)
                               refine wpList_cat12 (X := bs U) (z := U ++ t) rfl rfl rfl rfl HS77.out HB77.out ?_)
                            | ((with_reducible show wpList _ _ _ (⟨some 80, _, _, _, _, _⟩ :: _) _ _)
                               refine wpList_cat12 (X := bs T) (z := T ++ t) rfl rfl rfl rfl HS80.out HB80.out ?_)
                            | ((with_reducible show wpList _ _ _ (⟨some 87, _, _, _, _, _⟩ :: _) _ _)
                               refine wpList_cat12 (X := bs (U ++ t)) (z := U ++ (t ++ [92, 10])) rfl rfl rfl rfl HS87.out HB87.out ?_)
                            | ((with_reducible show wpList _ _ _ (⟨some 89, _, _, _, _, _⟩ :: _) _ _)
                               refine wpList_cat12 (X := bs (T ++ t)) (z := T ++ (t ++ [32])) rfl rfl rfl rfl HS89.out HB89.out ?_)
                            | ((with_reducible show wpList _ _ _ (⟨some 92, _, _, _, _, _⟩ :: _) _ _)
                               refine wpList_cat12 (X := bs (U ++ (t ++ [92, 10]))) (z := U ++ (t ++ [92, 10, 59, 10])) rfl rfl rfl rfl HS92.out HB92.out ?_))
                        go_roundw
                        case rel => exact ⟨k + 1, U ++ t, T ++ t, by omega, by go_num, rfl, rfl, Lib.hid ⟨B, T, k, by omega, HJB.out, .inr ⟨by omega, t, HPL.out, by rw [HU.out], rfl⟩⟩, Lib.hid (thn PB.out bY.out)⟩
                        case measure => simp [intOf]; omega
          · omega
        · obtain rfl : len0 = k := by omega
          have kk : ¬ (len0 : Int) < len0 := by omega
          obtain ⟨B, TB, jj2, hjk, hJB, hst⟩ := HJ.out
          obtain ⟨t, hpt, hs2, hT2⟩ := hst.resolve_left (fun h => by omega) |>.2
          have hb := hJB.flat A
          have hbt := hJB.text
          have h60 := hpt.len
          have hsl : s.length ≤ 3000 := by rw [hs2, List.length_append]; omega
          have hTl : T0.length ≤ 3000 := by rw [hT2, List.length_append]; omega
          obtain ⟨sp1, sp2⟩ := spl_join hJB hpt (by omega) hA2
          rw [← hs2, ← hT2] at sp2
          rw [← hs2] at sp1
          have HTR := Lib.hid (fun (W : World) (g : G W) => HC.out.trim (bs T0) W g (by rw [bs_size]; unfold maxLen; omega))
          rw [bs_list] at HTR
          have GV := HON.out _ _ HG.out PB.out
          have hw3 : IntKind.i64.wrap ((A : Int) + 1) = A + 1 := by rw [IntKind.wrap_i64]; omega
          by_cases h0 : trimL T0 = []
          · rw [if_pos h0] at sp2
            rw [h0, show bs [] = ⟨#[]⟩ from rfl] at HTR
            have HIS := Lib.hid (fun (W : World) (g : G W) => is_yes HC.out s (by omega) (.slice none 0 0) [] sp1 sp2 W g (LnsAt.nil W))
            clear HJ hJB hst hpt hs2 hT2 sp1 sp2 h0 HC
            go_wp2_with (first
              | (go_at_call 13; ((with_reducible refine (HTR.out _ GV).mono ?_); rintro e v1 ⟨rfl, b1⟩); have G1 := HON.out _ _ GV b1; have B1 := thn PB.out b1)
              | (go_at_call 18; ((with_reducible refine (HIS.out _ G1).mono ?_); rintro e v2 ⟨rfl, b2⟩); have G2 := HON.out _ _ G1 b2; have B2 := thn B1 b2)
              | (go_at_call 12; ((with_reducible refine (HAW.out _ G2).mono ?_); rintro e v3 ⟨rfl, b3⟩)))
            go_ret
            exact ⟨by first | rfl | simp, thn B2 b3⟩
          · rw [if_neg h0] at sp2
            have e1 : (bs (trimL T0)).toList ≠ [] := by rw [bs_toList]; exact h0
            have e2 : (bs (trimL T0)).toList.isEmpty = false := by rw [bs_toList]; cases h : trimL T0 with | nil => exact absurd h h0 | cons a b => rfl
            have e3 : ((bs (trimL T0)).toList == []) = false := beq_eq_false_iff_ne.2 e1
            obtain ⟨tr, htq⟩ : ∃ x, x = trimL T0 := ⟨_, rfl⟩
            rw [← htq] at HTR sp2 e1 e2 e3
            have HIS := Lib.hid (fun (X : World) (g : G X) => (by
              have hA : Below X.heap.size X (X.alloc (.cells (lnC [(A + 1, tr)]).toArray 35)) := (Below.refl _ X).alloc (Nat.le_refl _) _
              refine (is_yes HC.out s (by omega) (.slice (some ⟨X.heap.size, 0, none⟩) 1 1) [(A + 1, tr)] sp1 sp2 (X.alloc (.cells (lnC [(A + 1, tr)]).toArray 35)) (HC.out.on g hA) (lns_lit X [(A + 1, tr)] _)).mono ?_
              rintro e w' ⟨rfl, b⟩
              exact ⟨rfl, hA.trans (b.mono hA.size)⟩ : Calls Tryd.prog 18 #[.string (bs s), .slice (some ⟨X.heap.size, 0, none⟩) 1 1] (X.alloc (.cells #[.int .i64 ((A + 1 : Nat) : Int), .string (bs tr)] 35)) fun e w' => e = .returned (.bool true) ∧ Below X.heap.size X w'))
            rw [show ((A + 1 : Nat) : Int) = (A : Int) + 1 from by omega] at HIS
            clear HJ hJB hst hpt hs2 hT2 sp1 sp2 h0 htq HC
            go_wp2_with (first
              | (go_at_call 13; ((with_reducible refine (HTR.out _ GV).mono ?_); rintro e v1 ⟨rfl, b1⟩); have G1 := HON.out _ _ GV b1; have B1 := thn PB.out b1)
              | (go_at_call 13; ((with_reducible refine (HTR.out _ G1).mono ?_); rintro e v2 ⟨rfl, b2⟩); have G2 := HON.out _ _ G1 b2; have B2 := thn B1 b2)
              | (go_at_call 17; ((with_reducible refine (of_c _ _ _).mono ?_); rintro e v3 ⟨rfl, b3⟩); have G3 := HON.out _ _ G2 b3; have B3 := thn B2 b3)
              | (go_at_call 18; ((with_reducible refine (HIS.out _ G3).mono ?_); rintro e v4 ⟨rfl, b4⟩); have G4 := HON.out _ _ G3 b4; have B4 := thn B3 b4)
              | (go_at_call 12; ((with_reducible refine (HAW.out _ G4).mono ?_); rintro e v5 ⟨rfl, b5⟩)))
            go_ret
            exact ⟨by first | rfl | simp, thn B4 b5⟩

set_option maxRecDepth 100000 in
theorem lifted (HC : LinesC G12) (os : Os) (started : os.Started) (H : Type) (enc : TypeId × Value → H) :
    ReturnsInHanded {} Tryd.checked os 7 .any (fun w args => (Rows.linesJoinedSpec.pre enc Tryd.prog Tryd.f7 [] false w args ∧ laidMetH Tryd.prog listed12 w) ∧ sizedMet enc Tryd.prog Tryd.f7 (OpenSpec.ofChange Rows.linesJoinedSpec) false w args)
      (Rows.linesJoinedSpec.post enc Tryd.prog Tryd.f7 false true false false) := by
  refine returnsInHanded_of_change_and (C := Tryd.checked) (X := fun w _ => laidMetH Tryd.prog listed12 w) (fun _ _ _ hh h => h.of_heap hh) ownKnob_none started (by kernel_rfl) Tryd.func7
    (ChangeSpec.witness_shaped (enc := enc) (C := Tryd.checked) (os := os) (X := fun w _ => laidMetH Tryd.prog listed12 w) false (World.laidAll Tryd.prog os listed12) #[.slice none 0 0, .int .i64 0, .bool false] 8 (World.laidAll_os _ _ _) (World.shaped_of_ZipB (by kernel_rfl) (by kernel_rfl)) (by kernel_rfl) (by kernel_rfl) (by kernel_rfl) (by rw [MakeChecks.laidMetH_plain _ _ _ (by kernel_rfl)]; exact laidMet_laidAll _ (by kernel_rfl) (by kernel_rfl))) ?_
  intro W base args ds gs before hval0 hW _ _ hL _
  have hG : G12 W := of_laid12 hL
  have hval : ∀ (j : Nat) t v, Tryd.f7.params[j]? = some t → args[j]? = some v → Value.okWide Tryd.prog W .any base t v := hval0
  have hW' := hW
  obtain ⟨p, q, hA0, hV, rfl, hfz, hnd⟩ := hW
  have hA : DataW.TrodAll enc Tryd.prog W 0 (fun _ => true) true Tryd.f7.params.toList args.toList ds p := hA0
  rw [Tryd.params7] at hA hval
  obtain ⟨v0, vs0, d0, ds0, p0, q0, hargs, rfl, rfl, h0, r0⟩ := trodAll_cons hA
  obtain ⟨v1, vs1, d1, ds1, p1, q1, rfl, rfl, rfl, h1, r1⟩ := trodAll_cons r0
  obtain ⟨v2, vs2, d2, ds2, p2, q2, rfl, rfl, rfl, h2, r2⟩ := trodAll_cons r1
  obtain ⟨rfl, rfl, rfl⟩ := trodAll_nil r2
  obtain rfl : args = #[v0, v1, v2] := by cases args; simp_all
  obtain ⟨rfl, rfl⟩ := trodVars_none hV
  obtain ⟨a0, len0, cap0, rfl⟩ := okWide_slice Tryd.underlying32 (hval 0 32 v0 rfl rfl)
  have k0 := h0
  have lt0 : ∀ x ∈ p0, x.block < W.heap.size := by obtain ⟨m, hm⟩ := k0; exact DataW.trod_lt m _ _ _ hm
  obtain ⟨z0, w0⟩ := strs_open h0 lt0
  obtain ⟨a1, rfl, rfl, rfl, w1⟩ := open_int Tryd.underlying3 (hval 1 3 v1 rfl rfl) h1
  obtain ⟨a2, rfl, rfl, rfl⟩ := open_bool Tryd.underlying4 (hval 2 4 v2 rfl rfl) h2
  have w2 := trivial
  clear hA0 hval0
  refine (walk HC a0 len0 cap0 z0 a1 a2 W hG w0 w1 w2).mono fun e W' ⟨he, bel⟩ => ?_
  subst he
  exact ⟨_, rfl, _, _, _, [], _, [], hW', trodAll_mk1 (shut_bool Tryd.underlying4 _), (trodAll_cons_mk (Below.trod laidOut (by kernel_rfl) (of_decide_eq_true (by kernel_rfl)) k0 bel lt0) (trodAll_cons_mk (shut_int Tryd.underlying3 w1) (trodAll_cons_mk (shut_bool Tryd.underlying4 _) trodAll_mk0))), rfl, bel.frame _, fun h => by cases h⟩

theorem over (HC : LinesC G12) : Rows.linesJoinedRow.holds Tryd.pinned (OpenSpec.ofChange Rows.linesJoinedSpec) :=
  OpenClaim.holds_of_wide 7 Tryd.f7 rfl rfl rfl rfl rfl rfl rfl ⟨rfl, rfl, rfl, rfl, rfl⟩ rfl rfl rfl rfl rfl (by kernel_rfl) Tryd.func7 (by kernel_rfl)
    (of_decide_eq_true (by kernel_rfl)) (by unfold Func.isWrapper; first | (rw [if_pos (by decide +kernel)]; kernel_rfl) | (rw [if_neg (by decide +kernel)]; exact ⟨rfl, rfl⟩))
    (fun os started H enc _ => lifted HC os started H enc)

/-- The row's statement. -/
theorem row_holds : Rows.LinesJoinedSaid := over linesC
/-- The statement: the row, its table tied to the program's text. -/
theorem proved : Rows.LinesJoinedCardSaid :=
  Claim7.holds_tied_plain_at .later [] [.data, .pinned] true Rows.linesJoinedCard.stood.harness Rows.linesJoinedCard.stood.looks
    row_holds (fun _ h => by cases h) (by kernel_rfl) (fun _ h => by cases h) linesJoined_row_tie rfl ⟨rfl, rfl⟩ (by kernel_rfl) rfl
    (fun f fn hf hfn => by
      obtain rfl : f = 7 := Option.some.inj ((show Tryd.prog.funcNamed "vestibule/vestibulelaw12.LinesJoined" = some 7 by kernel_rfl).symm.trans hf) |>.symm
      obtain rfl : fn = Tryd.f7 := (Option.some.inj (Tryd.func7.symm.trans hfn)).symm
      exact ⟨by kernel_rfl, fun j t ht => by
        have hm : t ∈ Tryd.f7.params.toList := by simpa using Array.mem_of_getElem? ht
        have hall : (Tryd.f7.params.toList.all fun u => !Tryd.prog.wantsStandIn u) = true := by kernel_rfl
        exact (show Tryd.prog.wantsStandIn t = false by simpa using List.all_eq_true.1 hall t hm)⟩)
    (by kernel_rfl)
#print axioms proved
end Go.Proofs.YtagmlphhmjdaiaaDoor.linesJoined
