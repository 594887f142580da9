/- Some of the chapter's rows, over what the calls of the package fold have to return. -/
import Derived.Test.YtickkaeaaemakaaGreatDoorTt
namespace Go.Proofs.YtickkaeaaemakaaGreatDoor
open Go.RowKit
set_option linter.unusedVariables false
set_option linter.unusedSimpArgs false
attribute [local go_sem ↓] Go.wp_at_zero Go.wp_at_succ

theorem strs_lit16 (W : World) (l : List ByteArray) : StrsAt (W.alloc (.cells (sG l).toArray 9)) (.slice (some ⟨W.heap.size, 0, none⟩) l.length l.length) l := ⟨_, _, rfl, fun k s hk => ⟨W.heap.size, 0, rfl, by
  rw [cell_of_row _ _ _ _ _ (0, 0) (heap_alloc_new W _), List.getElem?_toArray, Nat.zero_add]
  exact sG_get hk⟩⟩
theorem cls_lit16 (W : World) (l : List Cl) : LsAt (W.alloc (.cells (rowC encC l).toArray 51)) (some ⟨W.heap.size, 0, none⟩) l := LsAt.of_rows (rows_lit encC_len W l 51)
set_option maxRecDepth 100000 in
set_option maxHeartbeats 8000000 in
theorem comes_c {G : World → Prop} (HC : FoldC G) (mo : Nat) (mi : Int) (hmi : mi = (mo : Nat)) (V : List ByteArray) (want : List Cl) (nt : List (Int × ByteArray)) (hf : foldK true V V.length = ((mo, want), nt)) (hV : V.length ≤ 100) (hs : ∀ x ∈ V, x.size ≤ 1000) (hwl : want.length ≤ 40) (w : World) (hG : G w) (u : Value) (hu : StrsAt w u V) (qw : Option Addr) (nw cw : Nat) (hnw : nw = want.length) (hw : LsAt w qw want) :
    Calls Tryz.prog 43 #[.int .u8 mi, u, .slice qw nw cw] w fun e w' => e = .returned (.bool true) ∧ Below w.heap.size w w' := by
  have HF := Lib.hid (HC.fold u V true w hG hu hV hs)
  rw [hf] at HF
  unfold lsV at HF
  simp only at HF
  rw [← hmi] at HF
  rw [← hnw] at HF
  have HW := Lib.hid hw
  have HN := Lib.hid hnw
  have hn40 : nw ≤ 40 := by omega
  have t0 : (mi == mi) = true := by simp
  have t0' : (mi != mi) = false := by simp
  have t9 : ((nw : Int) != (nw : Int)) = false := by simp
  clear hf hV hs hu hw hnw hwl hmi hG HC
  go_enter Tryz.func43, Tryz.ntmps43
  go_wp2_with (go_at_call 17
               (with_reducible refine (HF.out).mono ?_)
               rintro e v1 ⟨q1, n1, c1, vN, rfl, hn1, l1, _, b1⟩
               obtain rfl : nw = n1 := hn1.symm
               have L1 := Lib.hid l1
               have B1 := Lib.hid b1
               clear l1 b1)
  have x1 := (cell_of_row (v1.alloc (.cells #[.int .u8 mi, .slice q1 nw c1] 24)) v1.heap.size 1 _ _ (0, 0) (heap_alloc_new v1 _)).trans (show _ = some (Value.slice q1 nw c1) from rfl)
  have hlt1 : v1.heap.size < (v1.alloc (.cells #[.int .u8 mi, .slice q1 nw c1] 24)).heap.size := by rw [World.size_alloc]; exact Nat.lt_succ_self _
  have B2 := Lib.hid (B1.out.alloc B1.out.size (.cells #[.int .u8 mi, .slice q1 nw c1] 24))
  have L2 := Lib.hid (L1.out.on (below16 v1 (.cells #[.int .u8 mi, .slice q1 nw c1] 24)))
  have W2 := Lib.hid (HW.out.on B2.out)
  generalize v1.alloc (.cells #[.int .u8 mi, .slice q1 nw c1] 24) = U at x1 hlt1 B2 L2 W2 ⊢
  go_loopw [9] (fun v9 wr => ∃ k : Nat, k ≤ nw ∧ v9 = .int .i64 k ∧ Hid (Below U.heap.size U wr)) (fun v9 _ => nw - (intOf v9).toNat)
  case atStart => exact ⟨0, by omega, rfl, Lib.hid (Below.refl _ _)⟩
  case round =>
    obtain ⟨k, hk, rfl, PB⟩ := hrel
    obtain ⟨V0, rfl⟩ : ∃ wo : World, wo = wr := ⟨_, rfl⟩
    by_cases hlt : k < nw
    · have hx : want[k]? = some (want[k]'(by rw [← HN.out]; exact hlt)) := List.getElem?_eq_getElem _
      obtain ⟨⟨x, y⟩, he⟩ : ∃ e, e = want[k]'(by rw [← HN.out]; exact hlt) := ⟨_, rfl⟩
      rw [← he] at hx
      obtain ⟨g, o, rfl, c0, d0⟩ := (L2.out.on PB.out) k _ hx
      obtain ⟨g', o', rfl, c2, d2⟩ := (W2.out.on PB.out) k _ hx
      simp only at c0 d0 c2 d2
      have r1 := (PB.out.cell (p := ⟨v1.heap.size, 1, none⟩) hlt1).trans x1
      obtain ⟨yi, hyi⟩ : ∃ v, v = ((y : Nat) : Int) := ⟨_, rfl⟩
      rw [← hyi] at d0 d2
      have k1 : (k : Int) < nw := by omega
      have k0 : (0 : Int) ≤ k := by omega
      have hw1 : IntKind.i64.wrap ((k : Int) + 1) = k + 1 := by rw [IntKind.wrap_i64]; omega
      have t1 : (x.toList == x.toList) = true := by simp
      have t2 : (yi == yi) = true := by simp
      clear hx he hyi x1
      go_wp2_with fail
      go_quiet (fail)
      go_wp2_with fail
      go_roundw
      case rel => exact ⟨k + 1, by omega, by go_num, Lib.hid (Go.below_drewN PB.out _)⟩
      case measure => first | (simp [intOf]; done) | (simp [intOf]; omega)
    · obtain rfl : k = nw := by omega
      have k1 : ¬ (k : Int) < k := by omega
      go_wp2_with fail
      go_ret
      exact ⟨rfl, thn16 B2.out PB.out⟩
set_option maxRecDepth 100000 in
theorem row16_0 : ∃ nt, foldK true [⟨#[114, 101, 97, 100, 32, 119, 114, 105, 116, 101]⟩, ⟨#[126, 119, 114, 105, 116, 101]⟩] 2 = ((1, [(⟨#[114, 101, 97, 100]⟩, 0)]), nt) := ⟨(foldK true [⟨#[114, 101, 97, 100, 32, 119, 114, 105, 116, 101]⟩, ⟨#[126, 119, 114, 105, 116, 101]⟩] 2).2, by kernel_rfl⟩
set_option maxRecDepth 100000 in
theorem row16_1 : ∃ nt, foldK true [⟨#[126, 64, 99, 108, 111, 99, 107, 58, 69, 80, 69, 82, 77, 32, 112, 116, 114, 97, 99, 101]⟩, ⟨#[115, 101, 116, 116, 105, 109, 101, 111, 102, 100, 97, 121]⟩] 2 = ((2, [(⟨#[99, 108, 111, 99, 107, 95, 115, 101, 116, 116, 105, 109, 101]⟩, 327681), (⟨#[112, 116, 114, 97, 99, 101]⟩, 0)]), nt) := ⟨(foldK true [⟨#[126, 64, 99, 108, 111, 99, 107, 58, 69, 80, 69, 82, 77, 32, 112, 116, 114, 97, 99, 101]⟩, ⟨#[115, 101, 116, 116, 105, 109, 101, 111, 102, 100, 97, 121]⟩] 2).2, by kernel_rfl⟩
set_option maxRecDepth 100000 in
theorem row16_2 : ∃ nt, foldK true [⟨#[114, 101, 97, 100]⟩, ⟨#[126, 114, 101, 97, 100, 58, 107, 105, 108, 108]⟩] 2 = ((1, [(⟨#[114, 101, 97, 100]⟩, 2147483648)]), nt) := ⟨(foldK true [⟨#[114, 101, 97, 100]⟩, ⟨#[126, 114, 101, 97, 100, 58, 107, 105, 108, 108]⟩] 2).2, by kernel_rfl⟩
set_option maxRecDepth 100000 in
theorem row16_3 : ∃ nt, foldK true [⟨#[114, 101, 97, 100]⟩, ⟨#[]⟩, ⟨#[126, 114, 101, 97, 100]⟩] 3 = ((2, [(⟨#[114, 101, 97, 100]⟩, 0)]), nt) := ⟨(foldK true [⟨#[114, 101, 97, 100]⟩, ⟨#[]⟩, ⟨#[126, 114, 101, 97, 100]⟩] 3).2, by kernel_rfl⟩
set_option maxRecDepth 100000 in
theorem row16_4 : foldK true [⟨#[110, 111, 116, 104, 105, 110, 103, 32, 64, 110, 111, 110, 101, 32, 114, 101, 97, 100, 58, 53, 32, 64, 110, 101, 115, 116]⟩] 1 = ((1, [(⟨#[114, 101, 97, 100]⟩, 0)]), [(90, ⟨#[110, 111, 116, 104, 105, 110, 103]⟩), (110, ⟨#[64, 110, 111, 110, 101]⟩), (161, ⟨#[114, 101, 97, 100, 58, 53]⟩), (111, ⟨#[64, 110, 101, 115, 116]⟩)]) := by kernel_rfl
set_option maxRecDepth 100000 in
set_option maxHeartbeats 16000000 in
theorem awake16_any {G : World → Prop} (HC : FoldC G) (w : World) (hG : G w) : Calls Tryz.prog 16 #[] w fun e w' => e = .returned (.bool true) ∧ Below w.heap.size w w' := by
  have HON := Lib.hid (fun (w w' : World) => HC.on (w := w) (w' := w'))
  have HG := Lib.hid hG
  have HC0 := Lib.hid HC
  have HCL := Lib.hid (fun (s : ByteArray) (a : Int) (W : World) => call16 s a W)
  obtain ⟨nt0, hr0⟩ := row16_0
  have HR0 := Lib.hid (fun (W : World) (g : G W) (u : Value) (hu : StrsAt W u [⟨#[114, 101, 97, 100, 32, 119, 114, 105, 116, 101]⟩, ⟨#[126, 119, 114, 105, 116, 101]⟩]) (qw : Option Addr) (hw : LsAt W qw [(⟨#[114, 101, 97, 100]⟩, 0)]) => comes_c HC 1 1 rfl [⟨#[114, 101, 97, 100, 32, 119, 114, 105, 116, 101]⟩, ⟨#[126, 119, 114, 105, 116, 101]⟩] [(⟨#[114, 101, 97, 100]⟩, 0)] nt0 hr0 (by decide) (fun x hx => Nat.le_of_lt (of_decide_eq_true (List.all_eq_true.1 (show ([⟨#[114, 101, 97, 100, 32, 119, 114, 105, 116, 101]⟩, ⟨#[126, 119, 114, 105, 116, 101]⟩] : List ByteArray).all (fun x => decide (x.size < 1000)) = true by decide) x hx))) (by decide) W g u hu qw 1 1 rfl hw)
  obtain ⟨nt1, hr1⟩ := row16_1
  have HR1 := Lib.hid (fun (W : World) (g : G W) (u : Value) (hu : StrsAt W u [⟨#[126, 64, 99, 108, 111, 99, 107, 58, 69, 80, 69, 82, 77, 32, 112, 116, 114, 97, 99, 101]⟩, ⟨#[115, 101, 116, 116, 105, 109, 101, 111, 102, 100, 97, 121]⟩]) (qw : Option Addr) (hw : LsAt W qw [(⟨#[99, 108, 111, 99, 107, 95, 115, 101, 116, 116, 105, 109, 101]⟩, 327681), (⟨#[112, 116, 114, 97, 99, 101]⟩, 0)]) => comes_c HC 2 2 rfl [⟨#[126, 64, 99, 108, 111, 99, 107, 58, 69, 80, 69, 82, 77, 32, 112, 116, 114, 97, 99, 101]⟩, ⟨#[115, 101, 116, 116, 105, 109, 101, 111, 102, 100, 97, 121]⟩] [(⟨#[99, 108, 111, 99, 107, 95, 115, 101, 116, 116, 105, 109, 101]⟩, 327681), (⟨#[112, 116, 114, 97, 99, 101]⟩, 0)] nt1 hr1 (by decide) (fun x hx => Nat.le_of_lt (of_decide_eq_true (List.all_eq_true.1 (show ([⟨#[126, 64, 99, 108, 111, 99, 107, 58, 69, 80, 69, 82, 77, 32, 112, 116, 114, 97, 99, 101]⟩, ⟨#[115, 101, 116, 116, 105, 109, 101, 111, 102, 100, 97, 121]⟩] : List ByteArray).all (fun x => decide (x.size < 1000)) = true by decide) x hx))) (by decide) W g u hu qw 2 2 rfl hw)
  obtain ⟨nt2, hr2⟩ := row16_2
  have HR2 := Lib.hid (fun (W : World) (g : G W) (u : Value) (hu : StrsAt W u [⟨#[114, 101, 97, 100]⟩, ⟨#[126, 114, 101, 97, 100, 58, 107, 105, 108, 108]⟩]) (qw : Option Addr) (hw : LsAt W qw [(⟨#[114, 101, 97, 100]⟩, 2147483648)]) => comes_c HC 1 1 rfl [⟨#[114, 101, 97, 100]⟩, ⟨#[126, 114, 101, 97, 100, 58, 107, 105, 108, 108]⟩] [(⟨#[114, 101, 97, 100]⟩, 2147483648)] nt2 hr2 (by decide) (fun x hx => Nat.le_of_lt (of_decide_eq_true (List.all_eq_true.1 (show ([⟨#[114, 101, 97, 100]⟩, ⟨#[126, 114, 101, 97, 100, 58, 107, 105, 108, 108]⟩] : List ByteArray).all (fun x => decide (x.size < 1000)) = true by decide) x hx))) (by decide) W g u hu qw 1 1 rfl hw)
  obtain ⟨nt3, hr3⟩ := row16_3
  have HR3 := Lib.hid (fun (W : World) (g : G W) (u : Value) (hu : StrsAt W u [⟨#[114, 101, 97, 100]⟩, ⟨#[]⟩, ⟨#[126, 114, 101, 97, 100]⟩]) (qw : Option Addr) (hw : LsAt W qw [(⟨#[114, 101, 97, 100]⟩, 0)]) => comes_c HC 2 2 rfl [⟨#[114, 101, 97, 100]⟩, ⟨#[]⟩, ⟨#[126, 114, 101, 97, 100]⟩] [(⟨#[114, 101, 97, 100]⟩, 0)] nt3 hr3 (by decide) (fun x hx => Nat.le_of_lt (of_decide_eq_true (List.all_eq_true.1 (show ([⟨#[114, 101, 97, 100]⟩, ⟨#[]⟩, ⟨#[126, 114, 101, 97, 100]⟩] : List ByteArray).all (fun x => decide (x.size < 1000)) = true by decide) x hx))) (by decide) W g u hu qw 1 1 rfl hw)
  have HF := Lib.hid (fun (W : World) (g : G W) (u : Value) (hu : StrsAt W u [⟨#[110, 111, 116, 104, 105, 110, 103, 32, 64, 110, 111, 110, 101, 32, 114, 101, 97, 100, 58, 53, 32, 64, 110, 101, 115, 116]⟩]) => HC.fold u [⟨#[110, 111, 116, 104, 105, 110, 103, 32, 64, 110, 111, 110, 101, 32, 114, 101, 97, 100, 58, 53, 32, 64, 110, 101, 115, 116]⟩] true W g hu (by decide) (fun x hx => Nat.le_of_lt (of_decide_eq_true (List.all_eq_true.1 (show ([⟨#[110, 111, 116, 104, 105, 110, 103, 32, 64, 110, 111, 110, 101, 32, 114, 101, 97, 100, 58, 53, 32, 64, 110, 101, 115, 116]⟩] : List ByteArray).all (fun x => decide (x.size < 1000)) = true by decide) x hx))))
  rw [show ([⟨#[110, 111, 116, 104, 105, 110, 103, 32, 64, 110, 111, 110, 101, 32, 114, 101, 97, 100, 58, 53, 32, 64, 110, 101, 115, 116]⟩] : List ByteArray).length = 1 from rfl, row16_4] at HF
  unfold lsV at HF
  simp only at HF
  rw [show ((1 : Nat) : Int) = 1 from rfl] at HF
  have HWA := Lib.hid (fun (e : Int) (W : World) (g : G W) => HC.warns e W g)
  clear HC hG hr0 hr1 hr2 hr3
  go_enter Tryz.func16, Tryz.ntmps16
  go_wp2_with (first
    | (go_at_call 44
       (with_reducible refine (HCL.out ⟨#[114, 101, 97, 100]⟩ 0 _).mono ?_)
       rintro e v0a ⟨rfl, b⟩
       have S0 := Lib.hid ((show StrsAt (w.alloc (.cells #[.string ⟨#[114, 101, 97, 100, 32, 119, 114, 105, 116, 101]⟩, .string ⟨#[126, 119, 114, 105, 116, 101]⟩] 9)) (.slice (some ⟨w.heap.size, 0, none⟩) 2 2) [⟨#[114, 101, 97, 100, 32, 119, 114, 105, 116, 101]⟩, ⟨#[126, 119, 114, 105, 116, 101]⟩] from strs_lit16 w [⟨#[114, 101, 97, 100, 32, 119, 114, 105, 116, 101]⟩, ⟨#[126, 119, 114, 105, 116, 101]⟩]).on b)
       have B0a := Lib.hid ((below16 w (.cells #[.string ⟨#[114, 101, 97, 100, 32, 119, 114, 105, 116, 101]⟩, .string ⟨#[126, 119, 114, 105, 116, 101]⟩] 9)).trans (b.mono (by rw [World.size_alloc]; exact Nat.le_succ _)))
       clear b)
    | (go_at_call 43
       have gg := (show G (v0a.alloc (.cells #[.string ⟨#[114, 101, 97, 100]⟩, .int .u32 0] 51)) from HON.out _ _ HG.out (B0a.out.alloc B0a.out.size _))
       have uu := (show StrsAt (v0a.alloc (.cells #[.string ⟨#[114, 101, 97, 100]⟩, .int .u32 0] 51)) (.slice (some ⟨w.heap.size, 0, none⟩) 2 2) [⟨#[114, 101, 97, 100, 32, 119, 114, 105, 116, 101]⟩, ⟨#[126, 119, 114, 105, 116, 101]⟩] from S0.out.on (below16 v0a (.cells #[.string ⟨#[114, 101, 97, 100]⟩, .int .u32 0] 51)))
       have qq := (show LsAt (v0a.alloc (.cells #[.string ⟨#[114, 101, 97, 100]⟩, .int .u32 0] 51)) (some ⟨v0a.heap.size, 0, none⟩) [(⟨#[114, 101, 97, 100]⟩, 0)] from cls_lit16 v0a [(⟨#[114, 101, 97, 100]⟩, 0)])
       (with_reducible refine (HR0.out _ gg _ uu _ qq).mono ?_)
       clear gg uu qq
       rintro e v0 ⟨rfl, b⟩
       have B0 := Lib.hid (thn16 (B0a.out.alloc B0a.out.size (.cells #[.string ⟨#[114, 101, 97, 100]⟩, .int .u32 0] 51)) b)
       clear b)
    | (go_at_call 44
       (with_reducible refine (HCL.out ⟨#[99, 108, 111, 99, 107, 95, 115, 101, 116, 116, 105, 109, 101]⟩ 327681 _).mono ?_)
       rintro e v1a ⟨rfl, b⟩
       have S1 := Lib.hid ((show StrsAt (v0.alloc (.cells #[.string ⟨#[126, 64, 99, 108, 111, 99, 107, 58, 69, 80, 69, 82, 77, 32, 112, 116, 114, 97, 99, 101]⟩, .string ⟨#[115, 101, 116, 116, 105, 109, 101, 111, 102, 100, 97, 121]⟩] 9)) (.slice (some ⟨v0.heap.size, 0, none⟩) 2 2) [⟨#[126, 64, 99, 108, 111, 99, 107, 58, 69, 80, 69, 82, 77, 32, 112, 116, 114, 97, 99, 101]⟩, ⟨#[115, 101, 116, 116, 105, 109, 101, 111, 102, 100, 97, 121]⟩] from strs_lit16 v0 [⟨#[126, 64, 99, 108, 111, 99, 107, 58, 69, 80, 69, 82, 77, 32, 112, 116, 114, 97, 99, 101]⟩, ⟨#[115, 101, 116, 116, 105, 109, 101, 111, 102, 100, 97, 121]⟩]).on b)
       have B1a := Lib.hid (thn16 B0.out ((below16 v0 (.cells #[.string ⟨#[126, 64, 99, 108, 111, 99, 107, 58, 69, 80, 69, 82, 77, 32, 112, 116, 114, 97, 99, 101]⟩, .string ⟨#[115, 101, 116, 116, 105, 109, 101, 111, 102, 100, 97, 121]⟩] 9)).trans (b.mono (by rw [World.size_alloc]; exact Nat.le_succ _))))
       clear b)
    | (go_at_call 44
       (with_reducible refine (HCL.out ⟨#[112, 116, 114, 97, 99, 101]⟩ 0 _).mono ?_)
       rintro e v1b ⟨rfl, b⟩
       have S1 := Lib.hid (S1.out.on b)
       have B1a := Lib.hid (thn16 B1a.out b)
       clear b)
    | (go_at_call 43
       have gg := (show G (v1b.alloc (.cells #[.string ⟨#[99, 108, 111, 99, 107, 95, 115, 101, 116, 116, 105, 109, 101]⟩, .int .u32 327681, .string ⟨#[112, 116, 114, 97, 99, 101]⟩, .int .u32 0] 51)) from HON.out _ _ HG.out (B1a.out.alloc B1a.out.size _))
       have uu := (show StrsAt (v1b.alloc (.cells #[.string ⟨#[99, 108, 111, 99, 107, 95, 115, 101, 116, 116, 105, 109, 101]⟩, .int .u32 327681, .string ⟨#[112, 116, 114, 97, 99, 101]⟩, .int .u32 0] 51)) (.slice (some ⟨v0.heap.size, 0, none⟩) 2 2) [⟨#[126, 64, 99, 108, 111, 99, 107, 58, 69, 80, 69, 82, 77, 32, 112, 116, 114, 97, 99, 101]⟩, ⟨#[115, 101, 116, 116, 105, 109, 101, 111, 102, 100, 97, 121]⟩] from S1.out.on (below16 v1b (.cells #[.string ⟨#[99, 108, 111, 99, 107, 95, 115, 101, 116, 116, 105, 109, 101]⟩, .int .u32 327681, .string ⟨#[112, 116, 114, 97, 99, 101]⟩, .int .u32 0] 51)))
       have qq := (show LsAt (v1b.alloc (.cells #[.string ⟨#[99, 108, 111, 99, 107, 95, 115, 101, 116, 116, 105, 109, 101]⟩, .int .u32 327681, .string ⟨#[112, 116, 114, 97, 99, 101]⟩, .int .u32 0] 51)) (some ⟨v1b.heap.size, 0, none⟩) [(⟨#[99, 108, 111, 99, 107, 95, 115, 101, 116, 116, 105, 109, 101]⟩, 327681), (⟨#[112, 116, 114, 97, 99, 101]⟩, 0)] from cls_lit16 v1b [(⟨#[99, 108, 111, 99, 107, 95, 115, 101, 116, 116, 105, 109, 101]⟩, 327681), (⟨#[112, 116, 114, 97, 99, 101]⟩, 0)])
       (with_reducible refine (HR1.out _ gg _ uu _ qq).mono ?_)
       clear gg uu qq
       rintro e v1 ⟨rfl, b⟩
       have B1 := Lib.hid (thn16 (B1a.out.alloc B1a.out.size (.cells #[.string ⟨#[99, 108, 111, 99, 107, 95, 115, 101, 116, 116, 105, 109, 101]⟩, .int .u32 327681, .string ⟨#[112, 116, 114, 97, 99, 101]⟩, .int .u32 0] 51)) b)
       clear b)
    | (go_at_call 44
       (with_reducible refine (HCL.out ⟨#[114, 101, 97, 100]⟩ 2147483648 _).mono ?_)
       rintro e v2a ⟨rfl, b⟩
       have S2 := Lib.hid ((show StrsAt (v1.alloc (.cells #[.string ⟨#[114, 101, 97, 100]⟩, .string ⟨#[126, 114, 101, 97, 100, 58, 107, 105, 108, 108]⟩] 9)) (.slice (some ⟨v1.heap.size, 0, none⟩) 2 2) [⟨#[114, 101, 97, 100]⟩, ⟨#[126, 114, 101, 97, 100, 58, 107, 105, 108, 108]⟩] from strs_lit16 v1 [⟨#[114, 101, 97, 100]⟩, ⟨#[126, 114, 101, 97, 100, 58, 107, 105, 108, 108]⟩]).on b)
       have B2a := Lib.hid (thn16 B1.out ((below16 v1 (.cells #[.string ⟨#[114, 101, 97, 100]⟩, .string ⟨#[126, 114, 101, 97, 100, 58, 107, 105, 108, 108]⟩] 9)).trans (b.mono (by rw [World.size_alloc]; exact Nat.le_succ _))))
       clear b)
    | (go_at_call 43
       have gg := (show G (v2a.alloc (.cells #[.string ⟨#[114, 101, 97, 100]⟩, .int .u32 2147483648] 51)) from HON.out _ _ HG.out (B2a.out.alloc B2a.out.size _))
       have uu := (show StrsAt (v2a.alloc (.cells #[.string ⟨#[114, 101, 97, 100]⟩, .int .u32 2147483648] 51)) (.slice (some ⟨v1.heap.size, 0, none⟩) 2 2) [⟨#[114, 101, 97, 100]⟩, ⟨#[126, 114, 101, 97, 100, 58, 107, 105, 108, 108]⟩] from S2.out.on (below16 v2a (.cells #[.string ⟨#[114, 101, 97, 100]⟩, .int .u32 2147483648] 51)))
       have qq := (show LsAt (v2a.alloc (.cells #[.string ⟨#[114, 101, 97, 100]⟩, .int .u32 2147483648] 51)) (some ⟨v2a.heap.size, 0, none⟩) [(⟨#[114, 101, 97, 100]⟩, 2147483648)] from cls_lit16 v2a [(⟨#[114, 101, 97, 100]⟩, 2147483648)])
       (with_reducible refine (HR2.out _ gg _ uu _ qq).mono ?_)
       clear gg uu qq
       rintro e v2 ⟨rfl, b⟩
       have B2 := Lib.hid (thn16 (B2a.out.alloc B2a.out.size (.cells #[.string ⟨#[114, 101, 97, 100]⟩, .int .u32 2147483648] 51)) b)
       clear b)
    | (go_at_call 44
       (with_reducible refine (HCL.out ⟨#[114, 101, 97, 100]⟩ 0 _).mono ?_)
       rintro e v3a ⟨rfl, b⟩
       have S3 := Lib.hid ((show StrsAt (v2.alloc (.cells #[.string ⟨#[114, 101, 97, 100]⟩, .string ⟨#[]⟩, .string ⟨#[126, 114, 101, 97, 100]⟩] 9)) (.slice (some ⟨v2.heap.size, 0, none⟩) 3 3) [⟨#[114, 101, 97, 100]⟩, ⟨#[]⟩, ⟨#[126, 114, 101, 97, 100]⟩] from strs_lit16 v2 [⟨#[114, 101, 97, 100]⟩, ⟨#[]⟩, ⟨#[126, 114, 101, 97, 100]⟩]).on b)
       have B3a := Lib.hid (thn16 B2.out ((below16 v2 (.cells #[.string ⟨#[114, 101, 97, 100]⟩, .string ⟨#[]⟩, .string ⟨#[126, 114, 101, 97, 100]⟩] 9)).trans (b.mono (by rw [World.size_alloc]; exact Nat.le_succ _))))
       clear b)
    | (go_at_call 43
       have gg := (show G (v3a.alloc (.cells #[.string ⟨#[114, 101, 97, 100]⟩, .int .u32 0] 51)) from HON.out _ _ HG.out (B3a.out.alloc B3a.out.size _))
       have uu := (show StrsAt (v3a.alloc (.cells #[.string ⟨#[114, 101, 97, 100]⟩, .int .u32 0] 51)) (.slice (some ⟨v2.heap.size, 0, none⟩) 3 3) [⟨#[114, 101, 97, 100]⟩, ⟨#[]⟩, ⟨#[126, 114, 101, 97, 100]⟩] from S3.out.on (below16 v3a (.cells #[.string ⟨#[114, 101, 97, 100]⟩, .int .u32 0] 51)))
       have qq := (show LsAt (v3a.alloc (.cells #[.string ⟨#[114, 101, 97, 100]⟩, .int .u32 0] 51)) (some ⟨v3a.heap.size, 0, none⟩) [(⟨#[114, 101, 97, 100]⟩, 0)] from cls_lit16 v3a [(⟨#[114, 101, 97, 100]⟩, 0)])
       (with_reducible refine (HR3.out _ gg _ uu _ qq).mono ?_)
       clear gg uu qq
       rintro e v3 ⟨rfl, b⟩
       have B3 := Lib.hid (thn16 (B3a.out.alloc B3a.out.size (.cells #[.string ⟨#[114, 101, 97, 100]⟩, .int .u32 0] 51)) b)
       clear b)
    | (go_at_call 17
       have gg := (show G (v3.alloc (.cells #[.string ⟨#[110, 111, 116, 104, 105, 110, 103, 32, 64, 110, 111, 110, 101, 32, 114, 101, 97, 100, 58, 53, 32, 64, 110, 101, 115, 116]⟩] 9)) from HON.out _ _ HG.out (B3.out.alloc B3.out.size _))
       have uu := (show StrsAt (v3.alloc (.cells #[.string ⟨#[110, 111, 116, 104, 105, 110, 103, 32, 64, 110, 111, 110, 101, 32, 114, 101, 97, 100, 58, 53, 32, 64, 110, 101, 115, 116]⟩] 9)) (.slice (some ⟨v3.heap.size, 0, none⟩) 1 1) [⟨#[110, 111, 116, 104, 105, 110, 103, 32, 64, 110, 111, 110, 101, 32, 114, 101, 97, 100, 58, 53, 32, 64, 110, 101, 115, 116]⟩] from strs_lit16 v3 [⟨#[110, 111, 116, 104, 105, 110, 103, 32, 64, 110, 111, 110, 101, 32, 114, 101, 97, 100, 58, 53, 32, 64, 110, 101, 115, 116]⟩])
       (with_reducible refine (HF.out _ gg _ uu).mono ?_)
       clear gg uu
       rintro e v5 ⟨q5, n5, c5, vN, rfl, hn5, l5, hN5, b⟩
       obtain rfl : 1 = n5 := hn5.symm
       obtain ⟨qN, cN, hvN, hrow⟩ := hN5
       have hvN2 : vN = .slice qN 4 cN := hvN
       clear hvN
       subst hvN2
       obtain ⟨gn, on, hqq, hzz⟩ := hrow 0 _ rfl
       subst hqq
       have dn := (fun (k : Nat) (p : Nte) (hk : (([(90, ⟨#[110, 111, 116, 104, 105, 110, 103]⟩), (110, ⟨#[64, 110, 111, 110, 101]⟩), (161, ⟨#[114, 101, 97, 100, 58, 53]⟩), (111, ⟨#[64, 110, 101, 115, 116]⟩)] : List (Int × ByteArray)).map nteS)[k]? = some p) (j : Nat) (x : Value) (hx : (encN p)[j]? = some x) => (by
         obtain ⟨g', o', e', h'⟩ := hrow k p hk
         injection e' with e'
         injection e' with e1 e2
         subst e1 e2
         exact h' j x hx : v5.cell? ⟨gn, on + k * 4 + j, none⟩ = some x))
       have y02 := (show v5.cell? ⟨gn, on + 2, none⟩ = some (.int .i64 90) from dn 0 _ rfl 2 _ rfl)
       have y12 := (show v5.cell? ⟨gn, on + 6, none⟩ = some (.int .i64 110) from dn 1 _ rfl 2 _ rfl)
       have y22 := (show v5.cell? ⟨gn, on + 10, none⟩ = some (.int .i64 161) from dn 2 _ rfl 2 _ rfl)
       have y32 := (show v5.cell? ⟨gn, on + 14, none⟩ = some (.int .i64 111) from dn 3 _ rfl 2 _ rfl)
       have y23 := (show v5.cell? ⟨gn, on + 11, none⟩ = some (.string ⟨#[114, 101, 97, 100, 58, 53]⟩) from dn 2 _ rfl 3 _ rfl)
       have hgl : gn < v5.heap.size := World.block_lt_of_cell? v5 _ y02
       have B5 := Lib.hid (thn16 (B3.out.alloc B3.out.size (.cells #[.string ⟨#[110, 111, 116, 104, 105, 110, 103, 32, 64, 110, 111, 110, 101, 32, 114, 101, 97, 100, 58, 53, 32, 64, 110, 101, 115, 116]⟩] 9)) b)
       clear b hrow dn hzz l5 hn5)
    | (go_at_call 25
       (with_reducible refine (HWA.out 161 _ (HON.out _ _ HG.out (B5.out.alloc B5.out.size _))).mono ?_)
       rintro e v6 ⟨rfl, b⟩
       have B6 := Lib.hid (thn16 (B5.out.alloc B5.out.size (.cells #[.int .u8 1, .slice q5 1 c5] 24)) b)
       have y32a := ((below16 v5 (.cells #[.int .u8 1, .slice q5 1 c5] 24)).cell (World.block_lt_of_cell? _ _ y32)).trans y32
       have y32b := (b.cell (World.block_lt_of_cell? _ _ y32a)).trans y32a
       clear y32a
       clear b)
    | (go_at_call 25
       (with_reducible refine (HWA.out 111 _ (HON.out _ _ HG.out B6.out)).mono ?_)
       rintro e v7 ⟨rfl, b⟩
       have B7 := Lib.hid (thn16 B6.out b)
       clear b))
  go_ret
  exact ⟨by first | rfl | simp [warnsF] | decide, B7.out⟩
theorem okl_lt {K : ByteArray → Bool} {m : Nat} {L : List Cl} (h : Okl K m L) : ∀ e ∈ L, e.2 < 4294967296 := fun e he => act_lt (h.each e he).2
theorem step_empty {s : Nat × List Cl} {v : ByteArray} {sfx : Bool} (h : wdL v.data.toList = []) : (stepC knownR grpX sfx v s).1 = (0, []) := by unfold stepC; rw [if_pos h]
theorem step_mode {s : Nat × List Cl} {v : ByteArray} {sfx : Bool} (h : wdL v.data.toList ≠ []) : (stepC knownR grpX sfx v s).1.1 = modeF s.1 (turnR v).2 := by unfold stepC; rw [if_neg h]
theorem same2 (m : Nat) (q q' : Option Addr) (n n' cap cap' : Nat) (L : List Cl) (w : World) (hn : n = L.length) (hn' : n' = L.length) (hb : L.length ≤ 1000000) (h : LsAt w q L) (h' : LsAt w q' L) : Calls Tryz.prog 13 #[lsV m q n cap, lsV m q' n' cap'] w fun e w' =>
    e = .returned (.bool true) ∧ Below w.heap.size w w' := by
  subst hn
  subst hn'
  exact refSame16 m q q' _ cap cap' L w rfl hb h h'
/-- What stands in memory behind a Put and a Take: two boxes, two rows of their own. -/
def Two16 (V0 : World) (mi : Int) (LP LQ : List Cl) (X : World) (ga gb : Nat) (qp : Option Addr) (np cp : Nat) (qt : Option Addr) (nt ct : Nat) : Prop :=
  Below V0.heap.size V0 X ∧ X.heap[ga]? = some (.cells #[.int .u8 mi, .slice qp np cp] 24 (0, 0)) ∧ X.heap[gb]? = some (.cells #[.int .u8 mi, .slice qt nt ct] 24 (0, 0)) ∧ V0.heap.size ≤ ga ∧ V0.heap.size ≤ gb ∧ ga ≠ gb ∧ np = LP.length ∧ nt = LQ.length ∧ X.ownsRow V0.heap.size 51 2 (.slice qp np cp) np (rowC encC LP) ∧ ∃ Bt, V0.heap.size ≤ Bt ∧ X.ownsRow Bt 51 2 (.slice qt nt ct) nt (rowC encC LQ) ∧ ∀ j, qp = some ⟨j, 0, none⟩ → j < Bt
theorem key16 {F R : World → Nat → Nat → Option Addr → Nat → Nat → Option Addr → Nat → Nat → Prop} {P : Prop} (h1 : (∀ X ga gb qp np cp qt nt ct, F X ga gb qp np cp qt nt ct → R X ga gb qp np cp qt nt ct) → P) (h2 : ∀ X ga gb qp np cp qt nt ct, F X ga gb qp np cp qt nt ct → R X ga gb qp np cp qt nt ct) : P := h1 h2
theorem own_ne16 {W : World} {B s n c k g : Nat} {q : Option Addr} {xs : List Value} {cs : Array Value} {fz : Nat × Nat} (h : W.ownsRow B 51 s (.slice q n c) k xs) (hb : W.heap[g]? = some (.cells cs 24 fz)) : q ≠ some ⟨g, 0, none⟩ := fun e => by
  subst e
  rcases h.2 with ⟨hv, _⟩ | ⟨g2, cap, cur, hv, _, hg, _⟩
  · cases hv
  · injection hv with hv _ _
    injection hv with hv
    injection hv with hv _ _
    subst hv
    exact ne_type16 hg hb (by decide) rfl
theorem ins_len (n : ByteArray) (a : Nat) : ∀ (l : List Cl), (insC n a l).length = l.length + 1
  | [] => rfl
  | d :: r => by
    unfold insC
    split
    · rfl
    · show (insC n a r).length + 1 = r.length + 1 + 1
      rw [ins_len n a r]
theorem takeC_len (l : List Cl) (n : ByteArray) : (takeC l n).length ≤ l.length := List.length_filter_le _ _
theorem takeK_len (K : ByteArray → Bool) (m : Nat) (l : List Cl) (n : ByteArray) : (takeK K m l n).length ≤ l.length := by
  unfold takeK
  split
  · exact takeC_len l n
  · exact Nat.le_refl _
theorem putK_len (K : ByteArray → Bool) (m : Nat) (l : List Cl) (n : ByteArray) (a : Nat) : (putK K m l n a).length ≤ l.length + 1 := by
  unfold putK
  split
  · unfold putC
    rw [ins_len]
    exact Nat.succ_le_succ (takeC_len l n)
  · exact Nat.le_succ _
/-- What fold.Step makes of a list, with its length as it is. -/
theorem step_n {G : World → Prop} (HC : FoldC G) (m : Nat) (q : Option Addr) (n c : Nat) (L : List Cl) (v : ByteArray) (sfx : Bool) (w : World) (g : G w) (hm : m < 256) (hn : n = L.length) (hn2 : n ≤ 1000) (he : ∀ e ∈ L, e.2 < 4294967296) (hv : v.size ≤ 1000) (h : LsAt w q L) (r : (Nat × List Cl) × List (Int × ByteArray)) (hr : stepA sfx v (m, L) = r) (nr : Nat) (hnr : nr = r.1.2.length) :
    Calls Tryz.prog 11 #[lsV m q n c, .string v, .bool sfx] w fun e w' => ∃ q' c' vN, e = .returned (.tuple #[lsV r.1.1 q' nr c', vN]) ∧ w'.ownsRow w.heap.size 51 2 (.slice q' nr c') nr (rowC encC r.1.2) ∧ RowsAt 4 encN w' vN (r.2.map nteS) ∧ Below w.heap.size w w' := by
  subst hr
  refine (HC.step m q n c L v sfx w g hm hn hn2 he hv h).mono ?_
  rintro e w' ⟨q', n', c', vN, h1, h2, h3⟩
  rw [← hnr] at h2
  subst h2
  exact ⟨q', c', vN, h1, h3⟩
end Go.Proofs.YtickkaeaaemakaaGreatDoor
