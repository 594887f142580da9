/- The statement DataBack holds: data is read from its bytes, and what is read has those bytes. No condition. -/
import Derived.Test.YthoichjomfdgjaaRows
import Derived.Test.YthoichjomfdgjaaDd
import Derived.Test.YthoichjomfdgjaaWg
import Derived.Deep.RegionHeld3
import Derived.Test.YthoichjomfdgjaaTf
import Derived.Test.YthoichjomfdgjaaDt
namespace Go.Proofs.Ythoichjomfdgjaa.dataBack
open Go.ChangeShapes Go.WideShapes Go.ChangeAt Go.RowKit
open Go.ChangeMaps (open_string shut_string)
set_option linter.unusedVariables false
attribute [local go_sem ↓] Go.wp_at_zero Go.wp_at_succ

set_option maxRecDepth 100000 in
set_option maxHeartbeats 8000000 in
theorem bad (HC : DataC) (a0 : Dat) (a1 : Option Addr) (len1 cap1 : Nat) (z1 : List Int) (w : World) (w0 : a0.Ok) (w1 : IsBytes w a1 len1 cap1 z1) (hs : ¬ (100 : Int) < len1) (hn : len1 ≠ 64) :
    Calls Try.prog 5 #[datV a0, .slice a1 len1 cap1] w fun e w' => e = .returned (.bool true) ∧ Below w.heap.size w w' := by
  obtain ⟨kz, kB, kfit, kmost, kr, knil⟩ := w1
  have hm1 : cap1 ≤ maxLen := kmost
  have HA := Lib.hid (fun W => awake3_any HC W)
  have KR := Lib.hid kr
  have HP := Lib.hid (fun W => HC.print_ a0 W w0)
  have HQ := Lib.hid (fun p c W h1 h2 h3 => HC.parse p c (datB a0) W (datB_length a0) (datB_byt a0) h1 h2 h3)
  rw [datOf_datB w0] at HQ
  have bx := BoxD.new w a0
  have hq := eq6
  have HB := Lib.hid (fun W => HC.parseBad a1 len1 cap1 W hn (by omega))
  have e1 : ((len1 : Int) == 64) = false := by simp; omega
  have e2 : ¬ (len1 : Int) = 64 := by omega
  clear HC hn kz kB kfit kmost kr knil w0
  unfold datV datC at *
  go_enter Try.func5, Try.ntmps5
  go_wp2_with (first
    | (go_at_call 15; ((with_reducible refine (HA.out _).mono ?_); rintro e v1 ⟨rfl, b1⟩); have bx1 := BoxD.on (d := a0) bx b1; have B1 : Below w.heap.size w v1 := (((Below.refl _ _).alloc (Nat.le_refl _) _).trans (b1.mono (by simp))); have z1' : w.heap.size < v1.heap.size := bx1.lt; have k1 := KR.out.on B1; obtain ⟨x0, x1, x2, x3, x4, x5, x6, x7, x8⟩ := bx1.cells)
    | (go_at_call 8; ((with_reducible refine (HP.out _).mono ?_); rintro e v2 ⟨p2, c2, rfl, o2, b2⟩); have bx2 := bx1.on b2; have B2 := thn B1 b2; have k2 := k1.on b2; obtain ⟨r2, _, f2, m2⟩ := own_rd o2; clear o2)
    | (go_at_call 13; ((with_reducible refine (HQ.out _ _ _ f2 m2 r2).mono ?_); rintro e v3 ⟨rfl, b3⟩); have bx3 := bx2.on b3; have B3 := thn B2 b3; have k3 := k2.on b3; clear r2 k2 k1)
    | (go_at_call 13; ((with_reducible refine (HB.out _).mono ?_); rintro e v4 ⟨rfl, b4⟩); have s0 := box_cells b4 0 (.int .u32 a0.nr) rfl; have s1 := box_cells b4 1 (.int .u32 a0.arch) rfl; have s2 := box_cells b4 2 (.int .u64 a0.ip) rfl; have s3 := box_cells b4 3 (.int .u64 a0.a0) rfl; have s4 := box_cells b4 4 (.int .u64 a0.a1) rfl; have s5 := box_cells b4 5 (.int .u64 a0.a2) rfl; have s6 := box_cells b4 6 (.int .u64 a0.a3) rfl; have s7 := box_cells b4 7 (.int .u64 a0.a4) rfl; have s8 := box_cells b4 8 (.int .u64 a0.a5) rfl; have bx4 := (bx3.alloc _).on b4; obtain ⟨y0, y1, y2, y3, y4, y5, y6, y7, y8⟩ := bx4.cells; have B4 : Below w.heap.size w v4 := (B3.alloc B3.size _).trans (b4.mono (by have := B3.size; simp; omega)); have l1 : v3.heap.size < v4.heap.size := (by have := b4.size; simp at this; omega); have l2 : w.heap.size < v4.heap.size := bx4.lt; clear k3))
  go_ret
  exact ⟨rfl, B4.alloc B4.size _⟩
set_option maxRecDepth 100000 in
set_option maxHeartbeats 8000000 in
theorem good (HC : DataC) (a0 : Dat) (a1 : Option Addr) (len1 cap1 : Nat) (z1 : List Int) (w : World) (w0 : a0.Ok) (w1 : IsBytes w a1 len1 cap1 z1) (hs : ¬ (100 : Int) < len1) (hn : len1 = 64) :
    Calls Try.prog 5 #[datV a0, .slice a1 len1 cap1] w fun e w' => e = .returned (.bool true) ∧ Below w.heap.size w w' := by
  obtain ⟨kz, kB, kfit, kmost, kr, knil⟩ := w1
  have hm1 : cap1 ≤ maxLen := kmost
  have HA := Lib.hid (fun W => awake3_any HC W)
  have KR := Lib.hid kr
  have HP := Lib.hid (fun W => HC.print_ a0 W w0)
  have HQ := Lib.hid (fun p c W h1 h2 h3 => HC.parse p c (datB a0) W (datB_length a0) (datB_byt a0) h1 h2 h3)
  rw [datOf_datB w0] at HQ
  have bx := BoxD.new w a0
  have hq := eq6
  subst hn
  have HB := Lib.hid (fun W h => HC.parse a1 cap1 z1 W kz kB kfit hm1 h)
  have HP' := Lib.hid (fun W => HC.print_ (datOf z1) W (datOf_ok kB))
  rw [datB_datOf kB kz] at HP'
  have HW := Lib.hid (fun q d W h1 h2 => Same_any q a1 64 d 64 cap1 (World.heap W).size (World.heap W).size z1 z1 W kz kz kB kB h1 h2)
  rw [show sameB z1 z1 = true from sameB_self _] at HW
  obtain ⟨y, hy⟩ : ∃ y, y = datOf z1 := ⟨_, rfl⟩
  rw [← hy] at HB HP'
  clear HC kz kB kfit kmost kr knil w0 hy
  unfold datV datC at *
  go_enter Try.func5, Try.ntmps5
  go_wp2_with (first
    | (go_at_call 15; ((with_reducible refine (HA.out _).mono ?_); rintro e v1 ⟨rfl, b1⟩); have bx1 := BoxD.on (d := a0) bx b1; have B1 : Below w.heap.size w v1 := (((Below.refl _ _).alloc (Nat.le_refl _) _).trans (b1.mono (by simp))); have z1' : w.heap.size < v1.heap.size := bx1.lt; have k1 := KR.out.on B1; obtain ⟨x0, x1, x2, x3, x4, x5, x6, x7, x8⟩ := bx1.cells)
    | (go_at_call 8; ((with_reducible refine (HP.out _).mono ?_); rintro e v2 ⟨p2, c2, rfl, o2, b2⟩); have bx2 := bx1.on b2; have B2 := thn B1 b2; have k2 := k1.on b2; obtain ⟨r2, _, f2, m2⟩ := own_rd o2; clear o2)
    | (go_at_call 13; ((with_reducible refine (HQ.out _ _ _ f2 m2 r2).mono ?_); rintro e v3 ⟨rfl, b3⟩); have bx3 := bx2.on b3; have B3 := thn B2 b3; have k3 := k2.on b3; clear r2 k2 k1)
    | (go_at_call 13; ((with_reducible refine (HB.out _ ((k3.alloc (Nat.le_refl _) _).more (by simp))).mono ?_); rintro e v4 ⟨rfl, b4⟩); have s0 := box_cells b4 0 (.int .u32 a0.nr) rfl; have s1 := box_cells b4 1 (.int .u32 a0.arch) rfl; have s2 := box_cells b4 2 (.int .u64 a0.ip) rfl; have s3 := box_cells b4 3 (.int .u64 a0.a0) rfl; have s4 := box_cells b4 4 (.int .u64 a0.a1) rfl; have s5 := box_cells b4 5 (.int .u64 a0.a2) rfl; have s6 := box_cells b4 6 (.int .u64 a0.a3) rfl; have s7 := box_cells b4 7 (.int .u64 a0.a4) rfl; have s8 := box_cells b4 8 (.int .u64 a0.a5) rfl; have bx4 := (bx3.alloc _).on b4; obtain ⟨y0, y1, y2, y3, y4, y5, y6, y7, y8⟩ := bx4.cells; have B4 : Below w.heap.size w v4 := (B3.alloc B3.size _).trans (b4.mono (by have := B3.size; simp; omega)); have l1 : v3.heap.size < v4.heap.size := (by have := b4.size; simp at this; omega); have l2 : w.heap.size < v4.heap.size := bx4.lt; have k4 := ((k3.alloc (Nat.le_refl _) _).more (by simp : v3.heap.size ≤ _)).on b4; clear k3)
    | (go_at_call 8; ((with_reducible refine (HP'.out _).mono ?_); rintro e v5 ⟨p5, c5, rfl, o5, b5⟩); have k5 := ((k4.alloc (Nat.le_refl _) _).more (by simp : v4.heap.size ≤ _)).on b5; have r5 := (own_rd o5).1; have B5 : Below w.heap.size w v5 := (B4.alloc B4.size _).trans (b5.mono (by have := B4.size; simp; omega)))
    | (go_at_call 16; ((with_reducible refine (HW.out _ _ _ r5 k5).mono ?_); rintro e v6 ⟨rfl, rfl⟩)))
  go_ret
  exact ⟨rfl, B5⟩
theorem walk (HC : DataC) (a0 : Dat) (a1 : Option Addr) (len1 cap1 : Nat) (z1 : List Int) (w : World) (w0 : a0.Ok) (w1 : IsBytes w a1 len1 cap1 z1) :
    Calls Try.prog 5 #[datV a0, .slice a1 len1 cap1] w fun e w' => e = .returned (.bool true) ∧ Below w.heap.size w w' := by
  by_cases h : (100 : Int) < len1
  · have HA := Lib.hid (fun W => awake3_any HC W)
    clear HC w0 w1
    unfold datV datC
    go_enter Try.func5, Try.ntmps5
    go_wp2_with (go_at_call 15; ((with_reducible refine (HA.out _).mono ?_); rintro e v1 ⟨rfl, b1⟩))
    go_ret
    exact ⟨rfl, ((Below.refl _ _).alloc (Nat.le_refl _) _).trans (b1.mono (by simp))⟩
  · by_cases hn : len1 = 64
    · exact good HC a0 a1 len1 cap1 z1 w w0 w1 h hn
    · exact bad HC a0 a1 len1 cap1 z1 w w0 w1 h hn

set_option maxRecDepth 100000 in
theorem lifted (HC : DataC) (os : Os) (started : os.Started) (H : Type) (enc : TypeId × Value → H) :
    ReturnsInHanded {} Try.checked os 5 .any (Rows.dataBackSpec.pre6 enc Try.prog Try.f5 Rows.dataBackRow.domain false) (Rows.dataBackSpec.post enc Try.prog Try.f5 false true false false) := by
  refine returnsInHanded_of_change (C := Try.checked) ownKnob_none started (by kernel_rfl) Try.func5
    (ChangeSpec.witness6 (enc := enc) (C := Try.checked) false ⟨#[], #[.agg #[.int .u32 0, .int .u32 0, .int .u64 0, .int .u64 0, .int .u64 0, .int .u64 0, .int .u64 0, .int .u64 0, .int .u64 0], .slice none 0 0], []⟩ 8 (by kernel_rfl) (by kernel_rfl) (by kernel_rfl) (by kernel_rfl)) ?_
  intro W base args ds gs before hval0 hW hcnd _
  have hval : ∀ (j : Nat) t v, Try.f5.params[j]? = some t → args[j]? = some v → Value.okWide Try.prog W .any base t v := hval0
  have hW' := hW
  obtain ⟨p, q, hA0, hV, rfl, hfz, hnd⟩ := hW
  have hA : DataW.TrodAll enc Try.prog W 0 (fun _ => true) true Try.f5.params.toList args.toList ds p := hA0
  rw [Try.params5] at hA hval
  obtain ⟨v0, vs0, d0, ds0, p0, q0, hargs, rfl, rfl, h0, r0⟩ := trodAll_cons hA
  obtain ⟨v1, vs1, d1, ds1, p1, q1, rfl, rfl, rfl, h1, r1⟩ := trodAll_cons r0
  obtain ⟨rfl, rfl, rfl⟩ := trodAll_nil r1
  obtain rfl : args = #[v0, v1] := by cases args; simp_all
  obtain ⟨rfl, rfl⟩ := trodVars_none hV
  have k0 := h0
  have lt0 : ∀ x ∈ p0, x.block < W.heap.size := by obtain ⟨m, hm⟩ := k0; exact DataW.trod_lt m _ _ _ hm
  obtain ⟨a0, w0, rfl⟩ := data_open (hval 0 26 v0 rfl rfl) h0
  obtain ⟨a1, len1, cap1, rfl⟩ := okWide_slice Try.underlying27 (hval 1 27 v1 rfl rfl)
  have k1 := h1
  have lt1 : ∀ x ∈ p1, x.block < W.heap.size := by obtain ⟨m, hm⟩ := k1; exact DataW.trod_lt m _ _ _ hm
  obtain ⟨z1, w1⟩ := bytes_open h1 lt1
  clear hA0 hval0
  refine (walk HC a0 a1 len1 cap1 z1 W w0 w1).mono fun e W' ⟨he, bel⟩ => ?_
  subst he
  exact ⟨_, rfl, _, _, _, [], _, [], hW', trodAll_mk1 (shut_bool Try.underlying4 _), (trodAll_cons_mk (Below.trod laidOut (by kernel_rfl) (of_decide_eq_true (by kernel_rfl)) k0 bel lt0) (trodAll_cons_mk (Below.trod laidOut (by kernel_rfl) (of_decide_eq_true (by kernel_rfl)) k1 bel lt1) trodAll_mk0)), rfl, bel.frame _, fun h => by cases h⟩

theorem over (HC : DataC) : Rows.dataBackRow.holds Try.pinned (OpenSpec.ofChange Rows.dataBackSpec) :=
  OpenClaim.holds_of_wide 5 Try.f5 rfl rfl rfl rfl rfl rfl rfl ⟨rfl, rfl, rfl, rfl, rfl⟩ rfl rfl rfl rfl rfl (by kernel_rfl) Try.func5 (by kernel_rfl)
    (of_decide_eq_true (by kernel_rfl)) (by unfold Func.isWrapper; first | (rw [if_pos (by decide +kernel)]; kernel_rfl) | (rw [if_neg (by decide +kernel)]; exact ⟨rfl, rfl⟩))
    (fun os started H enc _ => lifted HC os started H enc)

/-- The statement. -/
theorem proved : Rows.DataBackSaid := over dataC
#print axioms proved

end Go.Proofs.Ythoichjomfdgjaa.dataBack
