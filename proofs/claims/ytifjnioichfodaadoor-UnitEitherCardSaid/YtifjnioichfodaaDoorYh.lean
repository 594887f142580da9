/- The chapter's rows on unit files: what awake returns, over what unit's calls have to return. -/
import Derived.Test.YtifjnioichfodaaDoorYg
import Derived.Lib.SlBytesConst
namespace Go.Proofs.YtifjnioichfodaaDoor
open Go.RowKit
set_option linter.unusedVariables false
set_option linter.unusedSimpArgs false
attribute [local go_sem ↓] Go.wp_at_zero Go.wp_at_succ

theorem rdb_lit (w : World) (l : List UInt8) (cs : Array Value) (t : TypeId) (fr : Nat × Nat) (h : cs = (bL l).toArray) : RdB (w.alloc (.cells cs t fr)) (w.alloc (.cells cs t fr)).heap.size (some ⟨w.heap.size, 0, none⟩) l := fun _ => by
  subst h
  refine ⟨w.heap.size, 0, rfl, by rw [World.size_alloc]; exact Nat.lt_succ_self _, fun i hi => ?_⟩
  rw [Nat.zero_add, World.cell?_alloc_mark, List.getElem?_toArray]
  exact bL_get hi
def t13 : List UInt8 := [91, 83, 101, 114, 118, 105, 99, 101, 93, 10, 65, 32, 61, 32, 98, 32, 99, 10, 66, 61, 10, 91, 88, 93, 10, 65, 61, 98, 61, 99, 10]
theorem t13_a : filA fF t13 = [⟨fF, 2, ⟨#[83, 101, 114, 118, 105, 99, 101]⟩, ⟨#[65]⟩, ⟨#[98, 32, 99]⟩⟩, ⟨fF, 3, ⟨#[83, 101, 114, 118, 105, 99, 101]⟩, ⟨#[66]⟩, ⟨#[]⟩⟩, ⟨fF, 5, ⟨#[88]⟩, ⟨#[65]⟩, ⟨#[98, 61, 99]⟩⟩] ∧ filN fF t13 = [] := by constructor <;> kernel_rfl
theorem t13_c : (#[.int .u8 91, .int .u8 83, .int .u8 101, .int .u8 114, .int .u8 118, .int .u8 105, .int .u8 99, .int .u8 101, .int .u8 93, .int .u8 10, .int .u8 65, .int .u8 32, .int .u8 61, .int .u8 32, .int .u8 98, .int .u8 32, .int .u8 99, .int .u8 10, .int .u8 66, .int .u8 61, .int .u8 10, .int .u8 91, .int .u8 88, .int .u8 93, .int .u8 10, .int .u8 65, .int .u8 61, .int .u8 98, .int .u8 61, .int .u8 99, .int .u8 10] : Array Value) = (bL t13).toArray := by kernel_rfl
def u13_0 : List UInt8 := [65, 61, 98]
theorem w13_0 : (filN fF u13_0).map (·.line) = [1] ∧ ((filN fF u13_0).all fun q => decide (q.err = 130) && decide (q.file = fF)) = true := by constructor <;> kernel_rfl
theorem litI_0 (u : Value) (X : World) (h : RowsAt 1 encI X u [1]) : Calls Tryd.prog 24 #[u, .slice (some ⟨X.heap.size, 0, none⟩) 1 1] (X.alloc (.cells #[.int .i64 1] 3)) fun e w' => e = .returned (.bool true) ∧ Below X.heap.size X w' := by
  have hA : Below X.heap.size X (X.alloc (.cells (rowC encI [1]).toArray 3)) := (Below.refl _ X).alloc (Nat.le_refl _) _
  refine (at_yes u (.slice (some ⟨X.heap.size, 0, none⟩) 1 1) [1] (X.alloc (.cells (rowC encI [1]).toArray 3)) (h.on hA) (rows_lit encI_len X [1] _) (by decide)).mono ?_
  rintro e w' ⟨rfl, b⟩
  exact ⟨rfl, hA.trans (b.mono hA.size)⟩
def u13_1 : List UInt8 := [91, 83, 101, 114, 118, 105, 99, 101, 10, 91, 93]
theorem w13_1 : (filN fF u13_1).map (·.line) = [1, 2] ∧ ((filN fF u13_1).all fun q => decide (q.err = 130) && decide (q.file = fF)) = true := by constructor <;> kernel_rfl
theorem litI_1 (u : Value) (X : World) (h : RowsAt 1 encI X u [1, 2]) : Calls Tryd.prog 24 #[u, .slice (some ⟨X.heap.size, 0, none⟩) 2 2] (X.alloc (.cells #[.int .i64 1, .int .i64 2] 3)) fun e w' => e = .returned (.bool true) ∧ Below X.heap.size X w' := by
  have hA : Below X.heap.size X (X.alloc (.cells (rowC encI [1, 2]).toArray 3)) := (Below.refl _ X).alloc (Nat.le_refl _) _
  refine (at_yes u (.slice (some ⟨X.heap.size, 0, none⟩) 2 2) [1, 2] (X.alloc (.cells (rowC encI [1, 2]).toArray 3)) (h.on hA) (rows_lit encI_len X [1, 2] _) (by decide)).mono ?_
  rintro e w' ⟨rfl, b⟩
  exact ⟨rfl, hA.trans (b.mono hA.size)⟩
def u13_2 : List UInt8 := [91, 83, 93, 10, 97, 32, 98, 61, 99, 10, 61, 99, 10, 120]
theorem w13_2 : (filN fF u13_2).map (·.line) = [2, 3, 4] ∧ ((filN fF u13_2).all fun q => decide (q.err = 130) && decide (q.file = fF)) = true := by constructor <;> kernel_rfl
theorem litI_2 (u : Value) (X : World) (h : RowsAt 1 encI X u [2, 3, 4]) : Calls Tryd.prog 24 #[u, .slice (some ⟨X.heap.size, 0, none⟩) 3 3] (X.alloc (.cells #[.int .i64 2, .int .i64 3, .int .i64 4] 3)) fun e w' => e = .returned (.bool true) ∧ Below X.heap.size X w' := by
  have hA : Below X.heap.size X (X.alloc (.cells (rowC encI [2, 3, 4]).toArray 3)) := (Below.refl _ X).alloc (Nat.le_refl _) _
  refine (at_yes u (.slice (some ⟨X.heap.size, 0, none⟩) 3 3) [2, 3, 4] (X.alloc (.cells (rowC encI [2, 3, 4]).toArray 3)) (h.on hA) (rows_lit encI_len X [2, 3, 4] _) (by decide)).mono ?_
  rintro e w' ⟨rfl, b⟩
  exact ⟨rfl, hA.trans (b.mono hA.size)⟩
theorem litA13 (u : Value) (X : World) (h : RowsAt 5 encA X u [⟨fF, 2, ⟨#[83, 101, 114, 118, 105, 99, 101]⟩, ⟨#[65]⟩, ⟨#[98, 32, 99]⟩⟩, ⟨fF, 3, ⟨#[83, 101, 114, 118, 105, 99, 101]⟩, ⟨#[66]⟩, ⟨#[]⟩⟩, ⟨fF, 5, ⟨#[88]⟩, ⟨#[65]⟩, ⟨#[98, 61, 99]⟩⟩]) : Calls Tryd.prog 10 #[u, .slice (some ⟨X.heap.size, 0, none⟩) 3 3] (X.alloc (.cells #[.string ⟨#[102]⟩, .int .i64 2, .string ⟨#[83, 101, 114, 118, 105, 99, 101]⟩, .string ⟨#[65]⟩, .string ⟨#[98, 32, 99]⟩, .string ⟨#[102]⟩, .int .i64 3, .string ⟨#[83, 101, 114, 118, 105, 99, 101]⟩, .string ⟨#[66]⟩, .string ⟨#[]⟩, .string ⟨#[102]⟩, .int .i64 5, .string ⟨#[88]⟩, .string ⟨#[65]⟩, .string ⟨#[98, 61, 99]⟩] 39)) fun e w' => e = .returned (.bool true) ∧ Below X.heap.size X w' := by
  have hA : Below X.heap.size X (X.alloc (.cells (rowC encA [⟨fF, 2, ⟨#[83, 101, 114, 118, 105, 99, 101]⟩, ⟨#[65]⟩, ⟨#[98, 32, 99]⟩⟩, ⟨fF, 3, ⟨#[83, 101, 114, 118, 105, 99, 101]⟩, ⟨#[66]⟩, ⟨#[]⟩⟩, ⟨fF, 5, ⟨#[88]⟩, ⟨#[65]⟩, ⟨#[98, 61, 99]⟩⟩]).toArray 39)) := (Below.refl _ X).alloc (Nat.le_refl _) _
  refine (sameA_yes u (.slice (some ⟨X.heap.size, 0, none⟩) 3 3) [⟨fF, 2, ⟨#[83, 101, 114, 118, 105, 99, 101]⟩, ⟨#[65]⟩, ⟨#[98, 32, 99]⟩⟩, ⟨fF, 3, ⟨#[83, 101, 114, 118, 105, 99, 101]⟩, ⟨#[66]⟩, ⟨#[]⟩⟩, ⟨fF, 5, ⟨#[88]⟩, ⟨#[65]⟩, ⟨#[98, 61, 99]⟩⟩] (X.alloc (.cells (rowC encA [⟨fF, 2, ⟨#[83, 101, 114, 118, 105, 99, 101]⟩, ⟨#[65]⟩, ⟨#[98, 32, 99]⟩⟩, ⟨fF, 3, ⟨#[83, 101, 114, 118, 105, 99, 101]⟩, ⟨#[66]⟩, ⟨#[]⟩⟩, ⟨fF, 5, ⟨#[88]⟩, ⟨#[65]⟩, ⟨#[98, 61, 99]⟩⟩]).toArray 39)) (h.on hA) (rows_lit encA_len X [⟨fF, 2, ⟨#[83, 101, 114, 118, 105, 99, 101]⟩, ⟨#[65]⟩, ⟨#[98, 32, 99]⟩⟩, ⟨fF, 3, ⟨#[83, 101, 114, 118, 105, 99, 101]⟩, ⟨#[66]⟩, ⟨#[]⟩⟩, ⟨fF, 5, ⟨#[88]⟩, ⟨#[65]⟩, ⟨#[98, 61, 99]⟩⟩] _) (by show 3 ≤ 1000000; decide)).mono ?_
  rintro e w' ⟨rfl, b⟩
  exact ⟨rfl, hA.trans (b.mono hA.size)⟩
set_option maxRecDepth 100000 in
set_option maxHeartbeats 8000000 in
theorem awake13_any {G : World → Prop} (HC : UnitC G) (w : World) (hG : G w) : Calls Tryd.prog 12 #[] w fun e w' => e = .returned (.bool true) ∧ Below w.heap.size w w' := by
  have HON := Lib.hid (fun (w w' : World) => HC.on (w := w) (w' := w'))
  have HG := Lib.hid hG
  have BA := (Below.refl w.heap.size w).alloc (Nat.le_refl _) (.cells #[.int .u8 91, .int .u8 83, .int .u8 101, .int .u8 114, .int .u8 118, .int .u8 105, .int .u8 99, .int .u8 101, .int .u8 93, .int .u8 10, .int .u8 65, .int .u8 32, .int .u8 61, .int .u8 32, .int .u8 98, .int .u8 32, .int .u8 99, .int .u8 10, .int .u8 66, .int .u8 61, .int .u8 10, .int .u8 91, .int .u8 88, .int .u8 93, .int .u8 10, .int .u8 65, .int .u8 61, .int .u8 98, .int .u8 61, .int .u8 99, .int .u8 10] 5 (31, 31 + 1))
  have HP := Lib.hid (HC.parse fF 0 (some ⟨w.heap.size, 0, none⟩) 31 31 t13 (w.alloc (.cells #[.int .u8 91, .int .u8 83, .int .u8 101, .int .u8 114, .int .u8 118, .int .u8 105, .int .u8 99, .int .u8 101, .int .u8 93, .int .u8 10, .int .u8 65, .int .u8 32, .int .u8 61, .int .u8 32, .int .u8 98, .int .u8 32, .int .u8 99, .int .u8 10, .int .u8 66, .int .u8 61, .int .u8 10, .int .u8 91, .int .u8 88, .int .u8 93, .int .u8 10, .int .u8 65, .int .u8 61, .int .u8 98, .int .u8 61, .int .u8 99, .int .u8 10] 5 (31, 31 + 1))) (HC.on hG BA) (by unfold maxLen; decide) (by kernel_rfl) (by decide) (by decide) (by unfold maxLen; decide) (fun h => by cases h) (rdb_lit w t13 _ _ _ t13_c))
  rw [t13_a.1, t13_a.2] at HP
  have BA2 := Lib.hid BA
  have V0 := Lib.hid (fun (W : World) (g : G W) => wrong_c HC u13_0 (by decide) [1] w13_0.1 (fun q hq => by
    have := List.all_eq_true.1 w13_0.2 q hq
    simp only [Bool.and_eq_true, decide_eq_true_eq] at this
    exact this) W g)
  rw [show bs u13_0 = ⟨#[65, 61, 98]⟩ from rfl] at V0
  have I0 := Lib.hid (fun (u : Value) (X : World) (h : RowsAt 1 encI X u [1]) => litI_0 u X h)
  have V1 := Lib.hid (fun (W : World) (g : G W) => wrong_c HC u13_1 (by decide) [1, 2] w13_1.1 (fun q hq => by
    have := List.all_eq_true.1 w13_1.2 q hq
    simp only [Bool.and_eq_true, decide_eq_true_eq] at this
    exact this) W g)
  rw [show bs u13_1 = ⟨#[91, 83, 101, 114, 118, 105, 99, 101, 10, 91, 93]⟩ from rfl] at V1
  have I1 := Lib.hid (fun (u : Value) (X : World) (h : RowsAt 1 encI X u [1, 2]) => litI_1 u X h)
  have V2 := Lib.hid (fun (W : World) (g : G W) => wrong_c HC u13_2 (by decide) [2, 3, 4] w13_2.1 (fun q hq => by
    have := List.all_eq_true.1 w13_2.2 q hq
    simp only [Bool.and_eq_true, decide_eq_true_eq] at this
    exact this) W g)
  rw [show bs u13_2 = ⟨#[91, 83, 93, 10, 97, 32, 98, 61, 99, 10, 61, 99, 10, 120]⟩ from rfl] at V2
  have I2 := Lib.hid (fun (u : Value) (X : World) (h : RowsAt 1 encI X u [2, 3, 4]) => litI_2 u X h)
  have LA := Lib.hid (fun (u : Value) (X : World) (h : RowsAt 5 encA X u [⟨fF, 2, ⟨#[83, 101, 114, 118, 105, 99, 101]⟩, ⟨#[65]⟩, ⟨#[98, 32, 99]⟩⟩, ⟨fF, 3, ⟨#[83, 101, 114, 118, 105, 99, 101]⟩, ⟨#[66]⟩, ⟨#[]⟩⟩, ⟨fF, 5, ⟨#[88]⟩, ⟨#[65]⟩, ⟨#[98, 61, 99]⟩⟩]) => litA13 u X h)
  have kc := fun (w : World) (C : Array Value) (n c : Nat) => Lib.run_convert_bytes_const (P := Tryd.prog) w 22 5 C n c Tryd.underlying22 Tryd.underlying5
  clear HC hG BA
  go_enter Tryd.func12, Tryd.ntmps12
  go_wp2_with (first
    | (go_at_call 8; ((with_reducible refine (HP.out).mono ?_); rintro e v1 ⟨va, vn, rfl, s1, n1, b1⟩); have B1 := Lib.hid (thn13 BA2.out b1); have G1 := Lib.hid (HON.out _ _ HG.out B1.out); have S1 := Lib.hid s1; obtain ⟨qn, cn, rfl, _⟩ := n1; clear s1 b1)
    | (go_at_call 10; ((with_reducible refine (LA.out _ v1 S1.out).mono ?_); rintro e v2 ⟨rfl, b2⟩); have B2 := Lib.hid (thn13 B1.out b2); have G2 := Lib.hid (HON.out _ _ HG.out B2.out); clear b2)
    | (go_at_call 25; ((with_reducible refine (V0.out v2 G2.out).mono ?_); rintro e v3 ⟨l0, rfl, s3, b3⟩); have B3 := Lib.hid (thn13 B2.out b3); have G3 := Lib.hid (HON.out _ _ HG.out B3.out); have T0 := Lib.hid s3; clear s3 b3)
    | (go_at_call 24; ((with_reducible refine (I0.out _ v3 T0.out).mono ?_); rintro e v4 ⟨rfl, b4⟩); have B4 := Lib.hid (thn13 B3.out b4); have G4 := Lib.hid (HON.out _ _ HG.out B4.out); clear b4)
    | (go_at_call 25; ((with_reducible refine (V1.out v4 G4.out).mono ?_); rintro e v5 ⟨l1, rfl, s5, b5⟩); have B5 := Lib.hid (thn13 B4.out b5); have G5 := Lib.hid (HON.out _ _ HG.out B5.out); have T1 := Lib.hid s5; clear s5 b5)
    | (go_at_call 24; ((with_reducible refine (I1.out _ v5 T1.out).mono ?_); rintro e v6 ⟨rfl, b6⟩); have B6 := Lib.hid (thn13 B5.out b6); have G6 := Lib.hid (HON.out _ _ HG.out B6.out); clear b6)
    | (go_at_call 25; ((with_reducible refine (V2.out v6 G6.out).mono ?_); rintro e v7 ⟨l2, rfl, s7, b7⟩); have B7 := Lib.hid (thn13 B6.out b7); have G7 := Lib.hid (HON.out _ _ HG.out B7.out); have T2 := Lib.hid s7; clear s7 b7)
    | (go_at_call 24; ((with_reducible refine (I2.out _ v7 T2.out).mono ?_); rintro e v8 ⟨rfl, b8⟩); have B8 := Lib.hid (thn13 B7.out b8); have G8 := Lib.hid (HON.out _ _ HG.out B8.out); clear b8))
  go_ret
  exact ⟨by first | rfl | simp, B8.out⟩
end Go.Proofs.YtifjnioichfodaaDoor
