/- PolicyOther: other sections and keys change nothing but the notes. -/
import Derived.Test.YtlenjfodjkhpmaaGreatDoorW7
namespace Go.Proofs.YtlenjfodjkhpmaaGreatDoor
set_option maxRecDepth 100000
open Go.Lib (hid)
open Go.RowKit
set_option linter.unusedVariables false
set_option linter.unusedSimpArgs false
attribute [local go_sem ↓] Go.wp_at_zero Go.wp_at_succ

set_option maxHeartbeats 64000000 in
theorem policyOther_walk (a0 : Option Addr) (len0 cap0 : Nat) (z0 : List As) (a1 : ByteArray) (a2 : Int) (a3 : ByteArray) (w : World) (hG : G18 w) (w0 : IsAs w a0 len0 cap0 z0) (w1 : a1.size ≤ maxLen) (w2 : (Lit.int .i64 a2).wf = true) (w3 : a3.size ≤ maxLen) : Calls Tryz.prog 7 #[.slice a0 len0 cap0, .string a1, .int .i64 a2, .string a3] w fun e w' => e = .returned (.bool true) ∧ Below w.heap.size w w' := by
 obtain ⟨q, hq⟩ : ∃ q, q = a0 := ⟨_, rfl⟩
 obtain ⟨n, hn⟩ : ∃ q, q = len0 := ⟨_, rfl⟩
 obtain ⟨c, hc⟩ : ∃ q, q = cap0 := ⟨_, rfl⟩
 obtain ⟨l, hl⟩ : ∃ q, q = z0 := ⟨_, rfl⟩
 rw [← hq, ← hn, ← hc, ← hl] at w0
 rw [← hq, ← hn, ← hc]
 clear hq hn hc hl
 have HAW := hid (fun (X : World) (b : Below w.heap.size w X) => awake19 X (hG.on b))
 by_cases hok : OkAs l
 ·have HGR := hid (great_ok19 q n c l w w0 hok)
  have hcm := w0.fits
  have hnl := w0.size
  by_cases h59 : 59 < n
  ·have x1 : (59 : Int) < n := by omega
   clear w0 hok hcm hnl h59 hG w1 w2 w3
   go_enter Tryz.func7, Tryz.ntmps7
   go_wp2_with (first
    | (go_at_call 8; ((with_reducible refine (HGR.out).mono ?_); rintro e U0 ⟨rfl, b⟩); have BU0 := hid b; clear b)
    | (go_at_call 15; ((with_reducible refine (HAW.out _ BU0.out).mono ?_); rintro e Z ⟨rfl, b⟩); have BZ := hid (thn16 BU0.out b); clear b))
   go_ret
   exact ⟨rfl, BZ.out⟩
  ·have x1 : ¬ (59 : Int) < n := by omega
   by_cases h1 : 100 < a1.size
   ·have x2 : (100 : Int) < a1.size := by omega
    clear w0 hok hcm hnl h59 hG w1 w2 w3 h1
    go_enter Tryz.func7, Tryz.ntmps7
    go_wp2_with (first
     | (go_at_call 8; ((with_reducible refine (HGR.out).mono ?_); rintro e U0 ⟨rfl, b⟩); have BU0 := hid b; clear b)
     | (go_at_call 15; ((with_reducible refine (HAW.out _ BU0.out).mono ?_); rintro e Z ⟨rfl, b⟩); have BZ := hid (thn16 BU0.out b); clear b))
    go_ret
    exact ⟨rfl, BZ.out⟩
   ·have x2 : ¬ (100 : Int) < a1.size := by omega
    by_cases h3 : 100 < a3.size
    ·have x3 : (100 : Int) < a3.size := by omega
     clear w0 hok hcm hnl h59 hG w1 w2 w3 h1 h3
     go_enter Tryz.func7, Tryz.ntmps7
     go_wp2_with (first
      | (go_at_call 8; ((with_reducible refine (HGR.out).mono ?_); rintro e U0 ⟨rfl, b⟩); have BU0 := hid b; clear b)
      | (go_at_call 15; ((with_reducible refine (HAW.out _ BU0.out).mono ?_); rintro e Z ⟨rfl, b⟩); have BZ := hid (thn16 BU0.out b); clear b))
     go_ret
     exact ⟨rfl, BZ.out⟩
    ·have x3 : ¬ (100 : Int) < a3.size := by omega
     obtain ⟨i0, hi0, hz0, hz1, hz2⟩ := info_parts asinf19
     have HI := hid hi0
     have HZ0 := hid hz0
     have HZ1 := hid hz1
     have HZ2 := hid hz2
     have HV3 := hid (show a3.size ≤ 1000 by omega)
     have HRD := hid (fun (X : World) (b : Below w.heap.size w X) => w0.rd.on b)
     have HLN := hid hnl.symm
     have hn59 : n ≤ 59 := by omega
     have hn1 : IntKind.i64.wrap ((n : Int) + 1) = (n : Int) + 1 := by rw [IntKind.wrap_i64]; omega
     have hn2 : IntKind.u64.wrap ((n : Int) + 1) = (n : Int) + 1 := by simp [IntKind.wrap, IntKind.bits, IntKind.signed]; omega
     have hn3 : ((n : Int) + 1 == 0) = false := beq_eq_false_iff_ne.2 (by omega)
     have hn4 : ¬ (n : Int) + 1 = 0 := by omega
     obtain ⟨x, hx⟩ : ∃ x : Int, IntKind.u64.wrap a2 = x := ⟨_, rfl⟩
     have hx0 : 0 ≤ x := by rw [← hx]; simp [IntKind.wrap, IntKind.bits, IntKind.signed]; omega
     obtain ⟨K, hK⟩ : ∃ K : Nat, x % ((n : Int) + 1) = (K : Int) := ⟨(x % ((n : Int) + 1)).toNat, by have := Int.emod_nonneg x hn4; omega⟩
     have hKk : K ≤ n := by have := Int.emod_lt_of_pos x (show (0 : Int) < (n : Int) + 1 by omega); omega
     have hK2 : x.tmod ((n : Int) + 1) = (K : Int) := by rw [Int.tmod_eq_emod_of_nonneg hx0]; exact hK
     have wK : IntKind.i64.wrap (K : Int) = K := by rw [IntKind.wrap_i64]; omega
     have wK2 : IntKind.u64.wrap (K : Int) = K := by simp [IntKind.wrap, IntKind.bits, IntKind.signed]; omega
     have K1 : (K : Int) ≤ n := by omega
     have K4 : (0 : Int) ≤ K := by omega
     have K5 : (K : Int) ≤ c := by omega
     have HKN := hid hKk
     have HNC := hid hcm
     have HOT := other_is19 (l := l) (a := ⟨(⟨#[103]⟩ : ByteArray), 7, a1, (⟨#[79, 116, 104, 101, 114]⟩ : ByteArray), a3⟩) (.inr ⟨by kernel_rfl, by kernel_rfl⟩) K
     have HRF := hid HOT.1
     have HRL := hid HOT.2.1
     have HJX := HOT.2.2
     simp only at HJX
     have HOK := hid hok
     have HGG := hid (fun (X : World) (b : Below w.heap.size w X) => hG.on b)
     clear HOT w0 hok hG w1 w2 w3 h59 hi0 hz0 hz1 hz2 hK hcm hnl hx0
     obtain ⟨A, hA⟩ : ∃ A, A = (if (a1 : ByteArray) = kSvc then ((⟨#[79, 116, 104, 101, 114]⟩ : ByteArray) : ByteArray) else a1) := ⟨_, rfl⟩
     obtain ⟨T, hT⟩ : ∃ T, T = t60 A.data.toList := ⟨_, rfl⟩
     replace HJX := (show (resR (l.take K ++ ⟨(⟨#[103]⟩ : ByteArray), 7, a1, (⟨#[79, 116, 104, 101, 114]⟩ : ByteArray), a3⟩ :: l.drop K)).2[(resR (l.take K)).2.length]? = some (⟨(⟨#[103]⟩ : ByteArray), 7, 100, T⟩ : Nte) from by rw [hT, hA]; exact HJX)
     have HTT := hid hT
     have HAA := hid hA
     clear hT hA
     go_enter Tryz.func7, Tryz.ntmps7
     go_wp2_with (first
      | (go_at_call 8; ((with_reducible refine (HGR.out).mono ?_); rintro e U0 ⟨rfl, b⟩); have BU0 := hid b; clear b))
     obtain ⟨U, hU⟩ : ∃ U, U = U0.alloc (.cells #[.string (⟨#[103]⟩ : ByteArray), .int .i64 7, .string a1, .string (⟨#[79, 116, 104, 101, 114]⟩ : ByteArray), .string a3] 37) := ⟨_, rfl⟩
     have BU := hid (show Below w.heap.size w U from hU ▸ BU0.out.alloc BU0.out.size _)
     have SU := hid (show U.heap[U0.heap.size]? = some (.cells #[.string (⟨#[103]⟩ : ByteArray), .int .i64 7, .string a1, .string (⟨#[79, 116, 104, 101, 114]⟩ : ByteArray), .string a3] 37 (0, 0)) from hU ▸ heap_alloc_new U0 _)
     have HSU := hid (show U.heap.size = U0.heap.size + 1 by rw [hU, World.size_alloc])
     have OLA := hid (World.ownsRow_lit (base := U.heap.size) (e := 37) (size := 5) U #[] 0 (Nat.le_refl _) (Nat.zero_le _) rfl)
     have OLC := hid (by
      have h := World.ownsRow_lit (base := U.heap.size) (e := 37) (size := 5) (U.alloc (.cells #[.string (⟨#[103]⟩ : ByteArray), .int .i64 7, .string a1, .string (⟨#[79, 116, 104, 101, 114]⟩ : ByteArray), .string a3] 37)) #[] 0 (by rw [World.size_alloc]; exact Nat.le_succ _) (Nat.zero_le _) rfl
      rw [World.size_alloc] at h
      exact h : ((U.alloc (.cells #[.string (⟨#[103]⟩ : ByteArray), .int .i64 7, .string a1, .string (⟨#[79, 116, 104, 101, 114]⟩ : ByteArray), .string a3] 37)).alloc (.cells #[] 37)).ownsRow U.heap.size 37 5 (.slice (some ⟨U.heap.size + 1, 0, none⟩) 0 0) 0 [])
     rw [← hU]
     obtain ⟨d0, d1, d2, d3, d4⟩ := acells19 SU.out
     have HS := hid (fun (X : World) (b : Below U.heap.size U X) => (by
      obtain ⟨d0, d1, d2, d3, d4⟩ := acells19 (blk_on SU.out b)
      exact ⟨d0, d1, d2, d3, d4, b⟩ : X.cell? ⟨U0.heap.size, 0, none⟩ = some (.string (⟨#[103]⟩ : ByteArray)) ∧ X.cell? ⟨U0.heap.size, 1, none⟩ = some (.int .i64 7) ∧ X.cell? ⟨U0.heap.size, 2, none⟩ = some (.string a1) ∧ X.cell? ⟨U0.heap.size, 3, none⟩ = some (.string (⟨#[79, 116, 104, 101, 114]⟩ : ByteArray)) ∧ X.cell? ⟨U0.heap.size, 4, none⟩ = some (.string a3) ∧ Below U.heap.size U X))
     have keep := hid (fun (X Y : World) (h : X.cell? ⟨U0.heap.size, 0, none⟩ = some (.string (⟨#[103]⟩ : ByteArray)) ∧ X.cell? ⟨U0.heap.size, 1, none⟩ = some (.int .i64 7) ∧ X.cell? ⟨U0.heap.size, 2, none⟩ = some (.string a1) ∧ X.cell? ⟨U0.heap.size, 3, none⟩ = some (.string (⟨#[79, 116, 104, 101, 114]⟩ : ByteArray)) ∧ X.cell? ⟨U0.heap.size, 4, none⟩ = some (.string a3) ∧ Below U.heap.size U X) (b : Below X.heap.size X Y) => (HS.out Y (thn16 h.2.2.2.2.2 b)))
     have HRW := hid (fun (X : World) (b : Below U.heap.size U X) => rows_news asC_len (by decide) (rows_take19 (asRows19 (c := c) HLN.out (HRD.out X (thn16 BU.out b))) HKN.out c))
     have SA := hid (show Below U.heap.size U (U.alloc (.cells #[] 37)).drew from (below16 U _).drew)
     have SB := hid (show Below U.heap.size U ((U.alloc (.cells #[] 37)).alloc (.cells #[.string (⟨#[103]⟩ : ByteArray), .int .i64 7, .string a1, .string (⟨#[79, 116, 104, 101, 114]⟩ : ByteArray), .string a3] 37)).drew from ((below16 U _).alloc (by rw [World.size_alloc]; exact Nat.le_succ _) _).drew)
     have SC_ := hid (show Below U.heap.size U ((U.alloc (.cells #[.string (⟨#[103]⟩ : ByteArray), .int .i64 7, .string a1, .string (⟨#[79, 116, 104, 101, 114]⟩ : ByteArray), .string a3] 37)).alloc (.cells #[] 37)).drew from ((below16 U _).alloc (by rw [World.size_alloc]; exact Nat.le_succ _) _).drew)
     have FB := hid (show ((U.alloc (.cells #[] 37)).alloc (.cells #[.string (⟨#[103]⟩ : ByteArray), .int .i64 7, .string a1, .string (⟨#[79, 116, 104, 101, 114]⟩ : ByteArray), .string a3] 37)).drew.heap[U.heap.size + 1]? = some (.cells #[.string (⟨#[103]⟩ : ByteArray), .int .i64 7, .string a1, .string (⟨#[79, 116, 104, 101, 114]⟩ : ByteArray), .string a3] 37 (0, 0)) by
      have h := heap_alloc_new (U.alloc (.cells #[] 37)) (.cells #[.string (⟨#[103]⟩ : ByteArray), .int .i64 7, .string a1, .string (⟨#[79, 116, 104, 101, 114]⟩ : ByteArray), .string a3] 37)
      rw [World.size_alloc] at h
      exact h)
     have FC := hid (show ((U.alloc (.cells #[.string (⟨#[103]⟩ : ByteArray), .int .i64 7, .string a1, .string (⟨#[79, 116, 104, 101, 114]⟩ : ByteArray), .string a3] 37)).alloc (.cells #[] 37)).drew.heap[U.heap.size]? = some (.cells #[.string (⟨#[103]⟩ : ByteArray), .int .i64 7, .string a1, .string (⟨#[79, 116, 104, 101, 114]⟩ : ByteArray), .string a3] 37 (0, 0)) from ((below16 (U.alloc (.cells #[.string (⟨#[103]⟩ : ByteArray), .int .i64 7, .string a1, .string (⟨#[79, 116, 104, 101, 114]⟩ : ByteArray), .string a3] 37)) _).block _ (by rw [World.size_alloc]; exact Nat.lt_succ_self _)).trans (heap_alloc_new U _))
     clear hU
     refine key19 (F := fun _ _ _ v2 W2 => Below U.heap.size U W2 ∧ W2.ownsRow U.heap.size 37 5 v2 (K + 1) (rowC asC (l.take K) ++ asC ⟨(⟨#[103]⟩ : ByteArray), 7, a1, (⟨#[79, 116, 104, 101, 114]⟩ : ByteArray), a3⟩)) (R := ?R) ?h1 ?h2
     case h1 =>
      intro KEY
      go_region_held3 (fun w' => w'.cell? ⟨U0.heap.size, 0, none⟩ = some (.string (⟨#[103]⟩ : ByteArray)) ∧ w'.cell? ⟨U0.heap.size, 1, none⟩ = some (.int .i64 7) ∧ w'.cell? ⟨U0.heap.size, 2, none⟩ = some (.string a1) ∧ w'.cell? ⟨U0.heap.size, 3, none⟩ = some (.string (⟨#[79, 116, 104, 101, 114]⟩ : ByteArray)) ∧ w'.cell? ⟨U0.heap.size, 4, none⟩ = some (.string a3) ∧ Below U.heap.size U w')
       (first | assumption | exact HS.out _ (Below.refl _ _).drew | (with_reducible exact HS.out _ D1.out) | (with_reducible exact HS.out _ D2.out) | exact keep.out _ _ (by assumption) (below16 _ _) | exact keep.out _ _ (by assumption) (Below.refl _ _).drew | exact HS.out _ (Below.refl _ _))
       (first
       | (refine step_app_r (by rfl) (.tmp 48) (.tmp 51) 22 (by rfl) U.heap.size 37 i0 _ 5 72 Tryz.underlying22 HI.out HZ0.out HZ1.out HZ2.out rfl (by decide) (.slice (some ⟨U.heap.size, 0, none⟩) 0 0) 0 [] (by rfl) OLA.out.drew q K c (rowC asC (l.take K)) (by rfl) (HRW.out _ SA.out).1 (HRW.out _ SA.out).2 (asC_one _) (by unfold maxLen; omega) (by omega) SA.out.size ?_
          intro v1 w1 o1 h1
          have D1 := hid (SA.out.grown h1 SA.out.size (fun g hg => (OLA.out.drew.lt g hg).1))
          have O1 := hid (show w1.ownsRow U.heap.size 37 5 v1 K (rowC asC (l.take K)) by rw [Nat.zero_add, List.nil_append] at o1; exact o1)
          skip
          clear o1 h1)
       | (refine step_app_r (by rfl) (.tmp 48) (.tmp 51) 22 (by rfl) U.heap.size 37 i0 _ 5 72 Tryz.underlying22 HI.out HZ0.out HZ1.out HZ2.out rfl (by decide) (.slice (some ⟨U.heap.size, 0, none⟩) 0 0) 0 [] (by rfl) (OLA.out.alloc (.cells #[.string (⟨#[103]⟩ : ByteArray), .int .i64 7, .string a1, .string (⟨#[79, 116, 104, 101, 114]⟩ : ByteArray), .string a3] 37)).drew q K c (rowC asC (l.take K)) (by rfl) (HRW.out _ SB.out).1 (HRW.out _ SB.out).2 (asC_one _) (by unfold maxLen; omega) (by omega) SB.out.size ?_
          intro v1 w1 o1 h1
          have D1 := hid (SB.out.grown h1 SB.out.size (fun g hg => ((OLA.out.alloc (.cells #[.string (⟨#[103]⟩ : ByteArray), .int .i64 7, .string a1, .string (⟨#[79, 116, 104, 101, 114]⟩ : ByteArray), .string a3] 37)).drew.lt g hg).1))
          have O1 := hid (show w1.ownsRow U.heap.size 37 5 v1 K (rowC asC (l.take K)) by rw [Nat.zero_add, List.nil_append] at o1; exact o1)
          have FB1 := hid ((h1.block _ (blk_lt FB.out) (fun e => absurd (Option.some.inj (show some (U.heap.size + 1) = some (U.heap.size) from e)) (by omega))).trans FB.out)
          clear o1 h1)
       | (refine step_app_r (by rfl) (.tmp 48) (.tmp 51) 22 (by rfl) U.heap.size 37 i0 _ 5 72 Tryz.underlying22 HI.out HZ0.out HZ1.out HZ2.out rfl (by decide) (.slice (some ⟨U.heap.size + 1, 0, none⟩) 0 0) 0 [] (by rfl) OLC.out.drew q K c (rowC asC (l.take K)) (by rfl) (HRW.out _ SC_.out).1 (HRW.out _ SC_.out).2 (asC_one _) (by unfold maxLen; omega) (by omega) SC_.out.size ?_
          intro v1 w1 o1 h1
          have D1 := hid (SC_.out.grown h1 SC_.out.size (fun g hg => (OLC.out.drew.lt g hg).1))
          have O1 := hid (show w1.ownsRow U.heap.size 37 5 v1 K (rowC asC (l.take K)) by rw [Nat.zero_add, List.nil_append] at o1; exact o1)
          have FC1 := hid ((h1.block _ (blk_lt FC.out) (fun e => absurd (Option.some.inj (show some (U.heap.size) = some (U.heap.size + 1) from e)) (by omega))).trans FC.out)
          clear o1 h1)
       | (refine step_app_r (by rfl) (.tmp 52) (.tmp 54) 22 (by rfl) U.heap.size 37 i0 _ 5 72 Tryz.underlying22 HI.out HZ0.out HZ1.out HZ2.out rfl (by decide) v1 K (rowC asC (l.take K)) (by rfl) (O1.out.alloc _) (some ⟨w1.heap.size, 0, none⟩) 1 1 (asC ⟨(⟨#[103]⟩ : ByteArray), 7, a1, (⟨#[79, 116, 104, 101, 114]⟩ : ByteArray), a3⟩) (by rfl) rfl (fun _ => ⟨_, rfl, news_row w1 _ _⟩) (asC_one1 _) (by unfold maxLen; omega) (by omega) (by rw [World.size_alloc]; exact Nat.le_succ_of_le D1.out.size) ?_
          intro v2 w2 o2 h2
          have D2 := hid ((D1.out.alloc D1.out.size _).grown h2 (by rw [World.size_alloc]; exact Nat.le_succ_of_le D1.out.size) (fun g hg => (O1.out.lt g hg).1))
          have O2 := hid o2
          clear o2 h2)
       | (refine step_app_r (by rfl) (.tmp 52) (.tmp 54) 22 (by rfl) U.heap.size 37 i0 _ 5 72 Tryz.underlying22 HI.out HZ0.out HZ1.out HZ2.out rfl (by decide) v1 K (rowC asC (l.take K)) (by rfl) O1.out (some ⟨U.heap.size + 1, 0, none⟩) 1 1 (asC ⟨(⟨#[103]⟩ : ByteArray), 7, a1, (⟨#[79, 116, 104, 101, 114]⟩ : ByteArray), a3⟩) (by rfl) rfl (fun _ => ⟨_, rfl, row_cells19 FB1.out⟩) (asC_one1 _) (by unfold maxLen; omega) (by omega) D1.out.size ?_
          intro v2 w2 o2 h2
          have D2 := hid ((D1.out).grown h2 D1.out.size (fun g hg => (O1.out.lt g hg).1))
          have O2 := hid o2
          clear o2 h2)
       | (refine step_app_r (by rfl) (.tmp 52) (.tmp 54) 22 (by rfl) U.heap.size 37 i0 _ 5 72 Tryz.underlying22 HI.out HZ0.out HZ1.out HZ2.out rfl (by decide) v1 K (rowC asC (l.take K)) (by rfl) O1.out (some ⟨U.heap.size, 0, none⟩) 1 1 (asC ⟨(⟨#[103]⟩ : ByteArray), 7, a1, (⟨#[79, 116, 104, 101, 114]⟩ : ByteArray), a3⟩) (by rfl) rfl (fun _ => ⟨_, rfl, row_cells19 FC1.out⟩) (asC_one1 _) (by unfold maxLen; omega) (by omega) D1.out.size ?_
          intro v2 w2 o2 h2
          have D2 := hid ((D1.out).grown h2 D1.out.size (fun g hg => (O1.out.lt g hg).1))
          have O2 := hid o2
          clear o2 h2)
      )
      all_goals
       obtain ⟨sA, hA⟩ : ∃ x, x = Value.slice (some ⟨U.heap.size, 0, none⟩) 0 0 := ⟨_, rfl⟩
       obtain ⟨sB, hB⟩ : ∃ x, x = Value.slice (some ⟨U.heap.size + 1, 0, none⟩) 0 0 := ⟨_, rfl⟩
       obtain ⟨rA, hrA⟩ : ∃ x, x = Value.slice (some ⟨w1.heap.size, 0, none⟩) 1 1 := ⟨_, rfl⟩
       obtain ⟨rB, hrB⟩ : ∃ x, x = Value.slice (some ⟨U.heap.size + 1, 0, none⟩) 1 1 := ⟨_, rfl⟩
       obtain ⟨rC, hrC⟩ : ∃ x, x = Value.slice (some ⟨U.heap.size, 0, none⟩) 1 1 := ⟨_, rfl⟩
       first
        | (rw [← hA, ← hrA]; exact KEY sA v1 rA v2 w2 ⟨D2.out, O2.out⟩)
        | (rw [← hA, ← hrB]; exact KEY sA v1 rB v2 w2 ⟨D2.out, O2.out⟩)
        | (rw [← hB, ← hrC]; exact KEY sB v1 rC v2 w2 ⟨D2.out, O2.out⟩)
     case h2 =>
      intro s48 v1 s54 v2 w2 hF2
      have D2 := hid hF2.1
      have O2 := hid hF2.2
      clear hF2 SU d0 d1 d2 d3 d4 OLA OLC HS keep HRW SA SB SC_ FB FC
      have RN2a := rows_news asC_len (by decide) (rows_drop19 (asRows19 (c := c) HLN.out (HRD.out _ (thn16 BU.out D2.out))) HKN.out HNC.out (c - K))
      obtain ⟨q2, hq2⟩ : ∃ r, (if c = K then q else Option.map (fun x => x.add (K * 5)) q) = r := ⟨_, rfl⟩
      rw [hq2] at RN2a
      have RN2 := hid RN2a
      clear RN2a
      go_wp2_with (first
       | (at_builtin; (refine wpList_app_r rfl (.tmp 56) (.tmp 59) 22 rfl U.heap.size 37 i0 _ 5 72 Tryz.underlying22 HI.out HZ0.out HZ1.out HZ2.out rfl (by decide) v2 (K + 1) (rowC asC (l.take K) ++ asC ⟨(⟨#[103]⟩ : ByteArray), 7, a1, (⟨#[79, 116, 104, 101, 114]⟩ : ByteArray), a3⟩) rfl O2.out _ (n - K) _ (rowC asC (l.drop K)) rfl RN2.out.1 RN2.out.2 (asC_one _) (by unfold maxLen; omega) (by omega) D2.out.size ?_); intro v3 w3 o3 h3; have D3 := hid (D2.out.grown h3 D2.out.size (fun g hg => (O2.out.lt g hg).1)); have O3 := hid (row_ml19 HLN.out HKN.out o3); clear o3 h3)
       | fail)
      obtain ⟨qm, cm, hqm⟩ := own16 O3.out
      subst hqm
      obtain ⟨ML, hML⟩ : ∃ L, L = l.take K ++ ⟨(⟨#[103]⟩ : ByteArray), 7, a1, (⟨#[79, 116, 104, 101, 114]⟩ : ByteArray), a3⟩ :: l.drop K := ⟨_, rfl⟩
      have HML := hid hML
      have HMM := hid (ml_mem19 (a := ⟨(⟨#[103]⟩ : ByteArray), 7, a1, (⟨#[79, 116, 104, 101, 114]⟩ : ByteArray), a3⟩) (K := K) HOK.out ⟨HV3.out, show ((⟨#[79, 116, 104, 101, 114]⟩ : ByteArray) : ByteArray).size ≤ 200 by decide⟩)
      have HMN := hid (ml_len19 (a := ⟨(⟨#[103]⟩ : ByteArray), 7, a1, (⟨#[79, 116, 104, 101, 114]⟩ : ByteArray), a3⟩) HLN.out HKN.out)
      rw [← hML] at O3 HRF HRL HJX HMM HMN
      obtain ⟨PR, hPR⟩ : ∃ P, P = resF l := ⟨_, rfl⟩
      have HPR := hid hPR
      obtain ⟨N1, hN1⟩ : ∃ N, N = (resR l).2 := ⟨_, rfl⟩
      have HN1 := hid hN1
      obtain ⟨N2, hN2⟩ : ∃ N, N = (resR ML).2 := ⟨_, rfl⟩
      have HN2 := hid hN2
      obtain ⟨J, hJ⟩ : ∃ J, J = (resR (l.take K)).2.length := ⟨_, rfl⟩
      rw [← hN1, ← hN2] at HRL
      rw [← hN2, ← hJ] at HJX
      have BD := hid (thn16 BU.out D3.out)
      have HRS1 := hid (fun (X : World) (b : Below w.heap.size w X) => resolve_c19 q n c l X (HGG.out X b) HLN.out (by omega) (HRD.out X b) (fun a ha => ⟨(HOK.out.each a ha).1, (HOK.out.each a ha).2.1⟩))
      have HRS2 := hid (fun (X : World) (b : Below w.heap.size w X) (b3 : Below w3.heap.size w3 X) => resolve_c19 qm (n + 1) cm ML X (HGG.out X b) HMN.out (by omega) (asAt_rows19 (rows_own (sz := 5) asC_len (B := U.heap.size) (t := 37) (by have := owns_on16 O3.out b3; rw [HMN.out] at this; exact this))) HMM.out)
      rw [← hPR, ← hN1] at HRS1
      rw [HRF.out, ← hPR, ← hN2] at HRS2
      clear hML hPR hN1 hN2 hJ
      go_wp2_with (first
       | (go_at_call 9; ((with_reducible refine (HRS1.out _ BD.out).mono ?_); rintro e V1 ⟨⟨aq1, an1, ac1, fq1, fn1, fc1, lq1, ln1, lc1, mq1, mn1, mc1⟩, vn1, rfl, o, r, b⟩)
          obtain ⟨qn1, cn1, rfl⟩ := own16 r
          have BW1 := hid (thn16 BD.out b)
          have OW1 := hid o
          have RW1 := hid r
          have CW1 := hid (b)
          have XA1 := hid (heap_alloc_new V1 (.cells #[.slice none 0 0, .int .u8 0, .slice none 0 0, .int .u32 0, .int .u8 0, .slice none 0 0, .slice none 0 0, .int .u8 0, .int .u64 0, .bool false, .bool false, .bool false, .bool false] 32) : (V1.alloc (.cells #[.slice none 0 0, .int .u8 0, .slice none 0 0, .int .u32 0, .int .u8 0, .slice none 0 0, .slice none 0 0, .int .u8 0, .int .u64 0, .bool false, .bool false, .bool false, .bool false] 32)).heap[V1.heap.size]? = some (.cells ([.slice none 0 0, .int .u8 0, .slice none 0 0, .int .u32 0, .int .u8 0, .slice none 0 0, .slice none 0 0, .int .u8 0, .int .u64 0, .bool false, .bool false, .bool false, .bool false] : List Value).toArray 32 (0, 0)))
          clear o r b)
       | ((with_reducible show wpList _ _ _ (⟨none, .store 32 (.tmp 12) (.tmp 64), _, _, _, _⟩ :: _) _ _)
          refine wpList_store_mid rfl 32 (.tmp 12) (.tmp 64) rfl V1.heap.size 0 (plC ⟨aq1, an1, ac1, fq1, fn1, fc1, lq1, ln1, lc1, mq1, mn1, mc1⟩ PR).toArray (by rfl) (by rfl) (there_row17 XA1.out (show 0 + 13 ≤ 13 by decide)) pl_info (plC_one _ _) ?_
          show wpList _ _ _ _ _ ((V1.alloc (.cells #[.slice none 0 0, .int .u8 0, .slice none 0 0, .int .u32 0, .int .u8 0, .slice none 0 0, .slice none 0 0, .int .u8 0, .int .u64 0, .bool false, .bool false, .bool false, .bool false] 32)).setCells V1.heap.size 0 (plC ⟨aq1, an1, ac1, fq1, fn1, fc1, lq1, ln1, lc1, mq1, mn1, mc1⟩ PR))
          have E1 := hid (set_fresh17 (p := ⟨aq1, an1, ac1, fq1, fn1, fc1, lq1, ln1, lc1, mq1, mn1, mc1⟩) (P := PR) XA1.out rfl)
          have O1 := hid ((OW1.out.on (below16 V1 (.cells #[.slice none 0 0, .int .u8 0, .slice none 0 0, .int .u32 0, .int .u8 0, .slice none 0 0, .slice none 0 0, .int .u8 0, .int .u64 0, .bool false, .bool false, .bool false, .bool false] 32))).box XA1.out 0 (plC ⟨aq1, an1, ac1, fq1, fn1, fc1, lq1, ln1, lc1, mq1, mn1, mc1⟩ PR))
          have R1 := hid (rows_box17 (i := 0) XA1.out (by decide) (owns_on16 RW1.out (below16 V1 (.cells #[.slice none 0 0, .int .u8 0, .slice none 0 0, .int .u32 0, .int .u8 0, .slice none 0 0, .slice none 0 0, .int .u8 0, .int .u64 0, .bool false, .bool false, .bool false, .bool false] 32))) (plC ⟨aq1, an1, ac1, fq1, fn1, fc1, lq1, ln1, lc1, mq1, mn1, mc1⟩ PR))
          have B1 := hid (below_setCells16 BW1.out.size (plC ⟨aq1, an1, ac1, fq1, fn1, fc1, lq1, ln1, lc1, mq1, mn1, mc1⟩ PR) 0 _ (BW1.out.alloc BW1.out.size (.cells #[.slice none 0 0, .int .u8 0, .slice none 0 0, .int .u32 0, .int .u8 0, .slice none 0 0, .slice none 0 0, .int .u8 0, .int .u64 0, .bool false, .bool false, .bool false, .bool false] 32)))
          have C1 := hid (below_setCells16 CW1.out.size (plC ⟨aq1, an1, ac1, fq1, fn1, fc1, lq1, ln1, lc1, mq1, mn1, mc1⟩ PR) 0 _ (CW1.out.alloc CW1.out.size (.cells #[.slice none 0 0, .int .u8 0, .slice none 0 0, .int .u32 0, .int .u8 0, .slice none 0 0, .slice none 0 0, .int .u8 0, .int .u64 0, .bool false, .bool false, .bool false, .bool false] 32)))
          generalize (V1.alloc (.cells #[.slice none 0 0, .int .u8 0, .slice none 0 0, .int .u32 0, .int .u8 0, .slice none 0 0, .slice none 0 0, .int .u8 0, .int .u64 0, .bool false, .bool false, .bool false, .bool false] 32)).setCells V1.heap.size 0 (plC ⟨aq1, an1, ac1, fq1, fn1, fc1, lq1, ln1, lc1, mq1, mn1, mc1⟩ PR) = Y1 at E1 O1 R1 B1 C1 ⊢
          obtain ⟨g1, hg1⟩ : ∃ g, g = V1.heap.size := ⟨_, rfl⟩
          rw [← hg1] at E1 ⊢
          clear hg1 XA1))
      have HRS2a := hid (HRS2.out Y1 B1.out C1.out)
      have P1Y := hid O1.out.pol
      have E1Y := hid E1.out
      go_upto_if 73 with (first
       | (go_at_call 9; ((with_reducible refine (HRS2a.out).mono ?_); rintro e V2 ⟨⟨aq2, an2, ac2, fq2, fn2, fc2, lq2, ln2, lc2, mq2, mn2, mc2⟩, vn2, rfl, o, r, b⟩)
          obtain ⟨qn2, cn2, rfl⟩ := own16 r
          have BW2 := hid (thn16 B1.out b)
          have OW2 := hid o
          have RW2 := hid r
          have CW2 := hid (b)
          have XA2 := hid (heap_alloc_new V2 (.cells #[.slice none 0 0, .int .u8 0, .slice none 0 0, .int .u32 0, .int .u8 0, .slice none 0 0, .slice none 0 0, .int .u8 0, .int .u64 0, .bool false, .bool false, .bool false, .bool false] 32) : (V2.alloc (.cells #[.slice none 0 0, .int .u8 0, .slice none 0 0, .int .u32 0, .int .u8 0, .slice none 0 0, .slice none 0 0, .int .u8 0, .int .u64 0, .bool false, .bool false, .bool false, .bool false] 32)).heap[V2.heap.size]? = some (.cells ([.slice none 0 0, .int .u8 0, .slice none 0 0, .int .u32 0, .int .u8 0, .slice none 0 0, .slice none 0 0, .int .u8 0, .int .u64 0, .bool false, .bool false, .bool false, .bool false] : List Value).toArray 32 (0, 0)))
          clear o r b)
       | ((with_reducible show wpList _ _ _ (⟨none, .store 32 (.tmp 14) (.tmp 69), _, _, _, _⟩ :: _) _ _)
          refine wpList_store_mid rfl 32 (.tmp 14) (.tmp 69) rfl V2.heap.size 0 (plC ⟨aq2, an2, ac2, fq2, fn2, fc2, lq2, ln2, lc2, mq2, mn2, mc2⟩ PR).toArray (by rfl) (by rfl) (there_row17 XA2.out (show 0 + 13 ≤ 13 by decide)) pl_info (plC_one _ _) ?_
          show wpList _ _ _ _ _ ((V2.alloc (.cells #[.slice none 0 0, .int .u8 0, .slice none 0 0, .int .u32 0, .int .u8 0, .slice none 0 0, .slice none 0 0, .int .u8 0, .int .u64 0, .bool false, .bool false, .bool false, .bool false] 32)).setCells V2.heap.size 0 (plC ⟨aq2, an2, ac2, fq2, fn2, fc2, lq2, ln2, lc2, mq2, mn2, mc2⟩ PR))
          have E2 := hid (set_fresh17 (p := ⟨aq2, an2, ac2, fq2, fn2, fc2, lq2, ln2, lc2, mq2, mn2, mc2⟩) (P := PR) XA2.out rfl)
          have O2 := hid ((OW2.out.on (below16 V2 (.cells #[.slice none 0 0, .int .u8 0, .slice none 0 0, .int .u32 0, .int .u8 0, .slice none 0 0, .slice none 0 0, .int .u8 0, .int .u64 0, .bool false, .bool false, .bool false, .bool false] 32))).box XA2.out 0 (plC ⟨aq2, an2, ac2, fq2, fn2, fc2, lq2, ln2, lc2, mq2, mn2, mc2⟩ PR))
          have R2 := hid (rows_box17 (i := 0) XA2.out (by decide) (owns_on16 RW2.out (below16 V2 (.cells #[.slice none 0 0, .int .u8 0, .slice none 0 0, .int .u32 0, .int .u8 0, .slice none 0 0, .slice none 0 0, .int .u8 0, .int .u64 0, .bool false, .bool false, .bool false, .bool false] 32))) (plC ⟨aq2, an2, ac2, fq2, fn2, fc2, lq2, ln2, lc2, mq2, mn2, mc2⟩ PR))
          have B2 := hid (below_setCells16 BW2.out.size (plC ⟨aq2, an2, ac2, fq2, fn2, fc2, lq2, ln2, lc2, mq2, mn2, mc2⟩ PR) 0 _ (BW2.out.alloc BW2.out.size (.cells #[.slice none 0 0, .int .u8 0, .slice none 0 0, .int .u32 0, .int .u8 0, .slice none 0 0, .slice none 0 0, .int .u8 0, .int .u64 0, .bool false, .bool false, .bool false, .bool false] 32)))
          have C2 := hid (below_setCells16 CW2.out.size (plC ⟨aq2, an2, ac2, fq2, fn2, fc2, lq2, ln2, lc2, mq2, mn2, mc2⟩ PR) 0 _ (CW2.out.alloc CW2.out.size (.cells #[.slice none 0 0, .int .u8 0, .slice none 0 0, .int .u32 0, .int .u8 0, .slice none 0 0, .slice none 0 0, .int .u8 0, .int .u64 0, .bool false, .bool false, .bool false, .bool false] 32)))
          generalize (V2.alloc (.cells #[.slice none 0 0, .int .u8 0, .slice none 0 0, .int .u32 0, .int .u8 0, .slice none 0 0, .slice none 0 0, .int .u8 0, .int .u64 0, .bool false, .bool false, .bool false, .bool false] 32)).setCells V2.heap.size 0 (plC ⟨aq2, an2, ac2, fq2, fn2, fc2, lq2, ln2, lc2, mq2, mn2, mc2⟩ PR) = Y2 at E2 O2 R2 B2 C2 ⊢
          obtain ⟨g2, hg2⟩ : ∃ g, g = V2.heap.size := ⟨_, rfl⟩
          rw [← hg2] at E2 ⊢
          clear hg2 XA2))
      have RWS := hid (rows_own encN_len R2.out)
      have P2Y := hid O2.out.pol
      obtain ⟨nO, hnO⟩ : ∃ m, m = N2.length := ⟨_, rfl⟩
      have HNO := hid hnO
      obtain ⟨n1, hn1'⟩ : ∃ m, m = N1.length := ⟨_, rfl⟩
      have HNN1 := hid hn1'
      rw [← hnO] at RWS ⊢
      rw [← hn1']
      have HNB := hid (show nO ≤ 200200 by
       have h := notes_len19 HMM.out (k := n + 1) (P := (resR ML).1) (N := N2) (by rw [List.take_of_length_le (by rw [← HMN.out]; exact Nat.le_refl _), HN2.out])
       rw [hnO]
       exact Nat.le_trans h (by omega))
      have HJL := hid (show J < nO by rw [hnO]; exact (List.getElem?_eq_some_iff.1 HJX).1)
      have HJX2 := hid HJX
      clear HRS1 HRS2 HRS2a hnO hn1' HJX
      go_cut [16] (fun s16 wx => s16 = .string A ∧ wx = Y2)
      case first =>
       by_cases hs : a1 = kSvc
       ·have t0 : (a1.toList == [83, 101, 114, 118, 105, 99, 101]) = true := eq_str hs
        have HA1 := hid (HAA.out.trans (if_pos hs))
        clear hs
        go_wp2_with fail
        all_goals first
         | (rename_i hb; exact absurd (hb.symm.trans t0) (by decide))
         | (go_meet; case rel => exact ⟨by rw [HA1.out], rfl⟩)
       ·have t0 : (a1.toList == [83, 101, 114, 118, 105, 99, 101]) = false := ne_str hs
        have HA1 := hid (HAA.out.trans (if_neg hs))
        clear hs
        go_wp2_with fail
        all_goals first
         | (rename_i hb; exact absurd (hb.symm.trans t0) (by decide))
         | (go_meet; case rel => exact ⟨by rw [HA1.out], rfl⟩)
      obtain ⟨rfl, hVV⟩ := hcut
      obtain rfl : Y2 = wc := hVV.symm
      go_upto_if 76 with fail
      go_cut [16] (fun s16 wx => s16 = .string T ∧ wx = Y2)
      case first =>
       by_cases hg : (60 : Int) < A.size
       ·have hg60 : (60 : Int) ≤ A.size := by omega
        have HT1 := hid (HTT.out.trans (t60_cut19 (by omega)))
        go_wp2_with fail
        go_meet
        case rel => exact ⟨by rw [HT1.out], rfl⟩
       ·have HT1 := hid (HTT.out.trans (t60_self19 (by omega)))
        go_wp2_with fail
        go_meet
        case rel => exact ⟨by rw [HT1.out], rfl⟩
      obtain ⟨rfl, hVV⟩ := hcut
      obtain rfl : Y2 = wc := hVV.symm
      go_wp2_with fail
      go_loopw [17, 18] (fun v17 v18 wr => ∃ (j f : Nat), j ≤ nO ∧ v18 = .int .i64 j ∧ v17 = .int .i64 f ∧ f ≤ j ∧ Hid (J < j → 0 < f) ∧ Hid (Below Y2.heap.size Y2 wr)) (fun _ v18 _ => nO - (intOf v18).toNat)
      case atStart => exact ⟨0, 0, Nat.zero_le _, rfl, rfl, Nat.le_refl _, hid (fun h => absurd h (Nat.not_lt_zero _)), hid (Below.refl _ _)⟩
      case round =>
       obtain ⟨j, f, hj, rfl, rfl, hfj, HJ, PB⟩ := hrel
       obtain ⟨V, rfl⟩ : ∃ wo : World, wo = wr := ⟨_, rfl⟩
       have hnb := HNB.out
       by_cases hlt : j < nO
       ·obtain ⟨y, hy⟩ : ∃ y, N2[j]? = some y := ⟨N2[j]'(by rw [← HNO.out]; exact hlt), List.getElem?_eq_getElem _⟩
        obtain ⟨go, oo, hqo, y0, y1, y2, y3⟩ := row_nte (RWS.out.on PB.out) hy
        obtain ⟨yf, yl, ye, yt⟩ := y
        simp only at y0 y1 y2 y3
        subst hqo
        have HNE0 := hid (fun (h : ((yf.toList == [103]) && (yl == 7) && (ye == 100) && (yt.toList == T.toList)) = false) => (show J ≠ j from fun e => by
         subst e
         have h2 := HJX2.out
         rw [hy] at h2
         injection h2 with h2
         injection h2 with a b c d
         have hT2 : (yt.toList == T.toList) = true := by rw [d]; simp
         have hG2 : ((⟨#[103]⟩ : ByteArray).toList == [103]) = true := eq_str rfl
         rw [hT2, a, b, c, hG2] at h
         exact absurd h (by decide)))
        have k1 : (j : Int) < nO := by omega
        have k0 : (0 : Int) ≤ j := by omega
        clear hy
        cases e0 : (yf.toList == [103]) with
        | false =>
         have HYES := hid True.intro
         have HNE := hid (HNE0.out (by simp [e0]))
         clear HYES
         go_wp2_with fail
         go_roundw
         case rel => exact ⟨j + 1, f, by omega, by go_num, rfl, by omega, hid (fun h => HJ.out (by
          by_cases e : J = j
          ·exact absurd e HNE.out
          ·omega)), PB⟩
         case measure => first | (simp [intOf]; done) | (simp [intOf]; omega)
        | true =>
         cases e1 : (yl == 7) with
         | false =>
          have HYES := hid True.intro
          have HNE := hid (HNE0.out (by simp [e1]))
          clear HYES
          go_wp2_with fail
          go_roundw
          case rel => exact ⟨j + 1, f, by omega, by go_num, rfl, by omega, hid (fun h => HJ.out (by
           by_cases e : J = j
           ·exact absurd e HNE.out
           ·omega)), PB⟩
          case measure => first | (simp [intOf]; done) | (simp [intOf]; omega)
         | true =>
          cases e2 : (ye == 100) with
          | false =>
           have HYES := hid True.intro
           have HNE := hid (HNE0.out (by simp [e2]))
           clear HYES
           go_wp2_with fail
           go_roundw
           case rel => exact ⟨j + 1, f, by omega, by go_num, rfl, by omega, hid (fun h => HJ.out (by
            by_cases e : J = j
            ·exact absurd e HNE.out
            ·omega)), PB⟩
           case measure => first | (simp [intOf]; done) | (simp [intOf]; omega)
          | true =>
           cases e3 : (yt.toList == T.toList) with
           | false =>
            have HYES := hid True.intro
            have HNE := hid (HNE0.out (by simp [e3]))
            clear HYES
            go_wp2_with fail
            go_roundw
            case rel => exact ⟨j + 1, f, by omega, by go_num, rfl, by omega, hid (fun h => HJ.out (by
             by_cases e : J = j
             ·exact absurd e HNE.out
             ·omega)), PB⟩
            case measure => first | (simp [intOf]; done) | (simp [intOf]; omega)
           | true =>
            have HYES := hid True.intro
            have HNE := hid True.intro
            clear HNE
            have ef : IntKind.i64.wrap ((f : Int) + 1) = (f : Int) + 1 := by rw [IntKind.wrap_i64]; omega
            go_wp2_with fail
            go_roundw
            case rel => exact ⟨j + 1, f + 1, by omega, by go_num, by first | rfl | simp, by omega, hid (fun _ => by omega), PB⟩
            case measure => first | (simp [intOf]; done) | (simp [intOf]; omega)
       ·obtain rfl : j = nO := by omega
        have k1 : ¬ (j : Int) < j := by omega
        have f1 : (0 : Int) < f := by have := HJ.out HJL.out; omega
        have h11 : IntKind.i64.wrap ((n1 : Int) + 1) = (n1 : Int) + 1 := by have := HRL.out; rw [← HNO.out, ← HNN1.out] at this; rw [IntKind.wrap_i64]; omega
        have h12 : ((j : Int) == (n1 : Int) + 1) = true := beq_iff_eq.2 (by have := HRL.out; rw [← HNO.out, ← HNN1.out] at this; omega)
        have h13 : (j : Int) = (n1 : Int) + 1 := by have := HRL.out; rw [← HNO.out, ← HNN1.out] at this; omega
        have CC2 := hid (thn16 C2.out PB.out)
        have BZ0 := hid (thn16 B2.out PB.out)
        obtain ⟨s0, s1, s2, s3, s4, s5, s6, s7, s8, s9, s10, s11, s12⟩ := pcells17 (blk_on E1Y.out CC2.out)
        obtain ⟨u0, u1, u2, u3, u4, u5, u6, u7, u8, u9, u10, u11, u12⟩ := pcells17 (blk_on E2.out PB.out)
        have HSH := hid (resF_short19 l)
        rw [← HPR.out] at HSH
        have HSM := hid (fun (X : World) (b : Below V.heap.size V X) => (by
         have h := same_yes19 ⟨aq1, an1, ac1, fq1, fn1, fc1, lq1, ln1, lc1, mq1, mn1, mc1⟩ ⟨aq2, an2, ac2, fq2, fn2, fc2, lq2, ln2, lc2, mq2, mn2, mc2⟩ PR X ((P1Y.out.on CC2.out).on b) ((P2Y.out.on PB.out).on b) HSH.out.1 HSH.out.2.1 HSH.out.2.2.1 HSH.out.2.2.2
         exact h : Calls Tryz.prog 22 #[plV ⟨aq1, an1, ac1, fq1, fn1, fc1, lq1, ln1, lc1, mq1, mn1, mc1⟩ PR, plV ⟨aq2, an2, ac2, fq2, fn2, fc2, lq2, ln2, lc2, mq2, mn2, mc2⟩ PR] X (fun e w' => e = .returned (.bool true) ∧ Below X.heap.size X w')))
        rw [show plV ⟨aq1, an1, ac1, fq1, fn1, fc1, lq1, ln1, lc1, mq1, mn1, mc1⟩ PR = .agg #[.slice aq1 an1 ac1, .int .u8 (PR.fl.1 : Nat), .slice fq1 fn1 fc1, .int .u32 (PR.dn : Nat), .int .u8 (PR.lg.1 : Nat), .slice lq1 ln1 lc1, .slice mq1 mn1 mc1, .int .u8 (PR.fm : Nat), .int .u64 (PR.sp : Nat), .bool PR.b1, .bool PR.b2, .bool PR.b3, .bool PR.b4] from rfl, show plV ⟨aq2, an2, ac2, fq2, fn2, fc2, lq2, ln2, lc2, mq2, mn2, mc2⟩ PR = .agg #[.slice aq2 an2 ac2, .int .u8 (PR.fl.1 : Nat), .slice fq2 fn2 fc2, .int .u32 (PR.dn : Nat), .int .u8 (PR.lg.1 : Nat), .slice lq2 ln2 lc2, .slice mq2 mn2 mc2, .int .u8 (PR.fm : Nat), .int .u64 (PR.sp : Nat), .bool PR.b1, .bool PR.b2, .bool PR.b3, .bool PR.b4] from rfl] at HSM
        clear h13
        go_wp2_with (first
         | (go_at_call 22; ((with_reducible refine (HSM.out _ (Below.refl _ _)).mono ?_); rintro e Z1 ⟨rfl, b⟩); have BZ1 := hid (thn16 BZ0.out b); clear b)
         | (go_at_call 15; ((with_reducible refine (HAW.out _ BZ1.out).mono ?_); rintro e Z ⟨rfl, b⟩); have BZ := hid (thn16 BZ1.out b); clear b))
        go_ret
        exact ⟨by first | rfl | simp, BZ.out⟩
 ·have HGR := hid (great_no19 q n c l w w0 hok)
  clear w0 hok hG w1 w2 w3
  go_enter Tryz.func7, Tryz.ntmps7
  go_wp2_with (first
   | (go_at_call 8; ((with_reducible refine (HGR.out).mono ?_); rintro e U0 ⟨rfl, b⟩); have BU0 := hid b; clear b)
   | (go_at_call 15; ((with_reducible refine (HAW.out _ BU0.out).mono ?_); rintro e Z ⟨rfl, b⟩); have BZ := hid (thn16 BU0.out b); clear b))
  go_ret
  exact ⟨rfl, BZ.out⟩
end Go.Proofs.YtlenjfodjkhpmaaGreatDoor
