/- What the calls of the package data have to return, one by one, as the chapter says it: the statements of layer 3 are walked over these. And how an argument that is data is opened. Condition: a slice is as long as its capacity allows. What the calls of the landed package data return: the words in a row (halves, tableOf), as the chapter says. Condition: each number fits its kind. What the calls of the landed package data return: the data's words in a row. Condition: each number fits its kind. What the calls of the landed package data return: Word, Low, High, and the number of two words in a row. Condition: each number fits its kind. -/
import Derived.Test.YtohfampfnhfnlaaDoorDb
import Derived.Test.YtohfampfnhfnlaaDoorWd
import Derived.ChangeSame
import Derived.Lib.SmallJoins
import Derived.ChangeKeysEq
import Derived.Test.YtohfampfnhfnlaaDoorDa
import Derived.Deep.RegionHeld3
import Derived.Deep.DrawnRows
import Derived.BigQuiet
import Derived.Deep.QuietTactic
import Derived.LoopN
namespace Go.Proofs.YtohfampfnhfnlaaDoor
open Go.ChangeShapes Go.WideShapes Go.ChangeAt Go.RowKit
set_option linter.unusedVariables false

/-- Is it an argument's index? -/
def argB (a : Int) : Bool := decide (0 ≤ a ∧ a < 6)
def lowV (a : Int) : Int := if argB a then 16 + 8 * a else 0
def highV (a : Int) : Int := if argB a then 20 + 8 * a else 0
def DWordC : Prop := ∀ (d : Dat) (a : Int) (w : World), d.Ok → 0 ≤ a → a < 4294967296 → Calls Tryd.prog 87 #[datV d, .int .u32 a] w fun e w' => e = .returned (.tuple #[.int .u32 (wordV d a), .int .i64 (wordE a)]) ∧ Below w.heap.size w w'
set_option maxRecDepth 100000 in
theorem own_rd {w : World} {B n d : Nat} {e : TypeId} {p : Option Addr} {xs : List Int} (h : w.ownsRow B e 1 (.slice p n d) n (bv xs)) : Rd w w.heap.size p xs ∧ (p = none → d = 0) ∧ n ≤ d ∧ d ≤ maxLen := by
  have hl : xs.length = n := by have := h.1; rw [bv_length] at this; omega
  rcases h.2 with ⟨hv, rfl⟩ | ⟨g, cap, cur, hv, hg, hh, hc, hm, r⟩
  · injection hv with h1 h2 h3
    subst h1 h3
    obtain rfl : xs = [] := List.eq_nil_of_length_eq_zero hl
    exact ⟨Rd.nil _ _ _, fun _ => rfl, Nat.le_refl _, Nat.zero_le _⟩
  · injection hv with h1 h2 h3
    subst h1 h3
    exact ⟨Rd.of_own h, (fun h => by cases h), hc, hm⟩
set_option maxRecDepth 100000 in
theorem own_some {w : World} {B n size : Nat} {e : TypeId} {v : Value} {xs : List Value} (h : w.ownsRow B e size v n xs) (hn : 0 < n) : ∃ g c, v = .slice (some ⟨g, 0, none⟩) n c := by
  rcases h.2 with ⟨_, h0⟩ | ⟨g, cap, cur, rfl, _⟩
  · omega
  · exact ⟨g, cap, rfl⟩
set_option maxRecDepth 100000 in
theorem box_cells {w w1 : World} {cs : Array Value} {t : TypeId} (b : Below (w.alloc (.cells cs t)).heap.size (w.alloc (.cells cs t)) w1) (j : Nat) (v : Value) (h : cs[j]? = some v) : w1.cell? ⟨w.heap.size, j, none⟩ = some v := by
  rw [b.cell (p := ⟨w.heap.size, j, none⟩) (by simp), cell_of_row (w.alloc (.cells cs t)) w.heap.size j cs t (0, 0) (heap_alloc_new w _)]
  exact h
set_option maxRecDepth 100000 in
theorem word_same (a : Int) : (wordE a == wordE a) = true := by simp
set_option maxRecDepth 100000 in
theorem info64 : (Tryd.prog.info? 40).map (fun i => (i.zero, i.size, i.bytes)) = some (some (.int .u64 0), 1, 8) := by kernel_rfl
set_option maxRecDepth 100000 in
theorem cells64 : Tryd.prog.cellsOf 40 = 1 := by kernel_rfl
set_option maxRecDepth 100000 in
theorem agg64 (w : World) : (isAgg 40).run Tryd.prog w = .ok false w := by kernel_rfl
set_option maxRecDepth 100000 in
theorem part64 (cs : Array Value) (k : Nat) (v : Value) (w : World) (h : cs[k]? = some v) : (part 40 cs k).run Tryd.prog w = .ok v w := by
  unfold part
  rw [Sem.run_bind, agg64, Result.andThen_ok]
  simp [h]
set_option maxRecDepth 100000 in
theorem eq6 (a0 a1 a2 a3 a4 a5 : Int) (w : World) : (Op.equalIn 9999 41 (.agg #[.int .u64 a0, .int .u64 a1, .int .u64 a2, .int .u64 a3, .int .u64 a4, .int .u64 a5]) (.agg #[.int .u64 a0, .int .u64 a1, .int .u64 a2, .int .u64 a3, .int .u64 a4, .int .u64 a5])).run Tryd.prog w = .ok true w := by
  obtain ⟨i0, hi, _, _, _⟩ := info_parts info64
  rw [show (9999 : Nat) = 9998 + 1 from rfl, run_equalIn_array w 9998 _ _ Tryd.underlying41 hi, cells64]
  simp only [List.range_succ, List.range_zero, List.nil_append, List.cons_append, Op.eqItems]
  have p0 := part64 #[.int .u64 a0, .int .u64 a1, .int .u64 a2, .int .u64 a3, .int .u64 a4, .int .u64 a5] 0 (.int .u64 a0) w rfl
  have p1 := part64 #[.int .u64 a0, .int .u64 a1, .int .u64 a2, .int .u64 a3, .int .u64 a4, .int .u64 a5] 1 (.int .u64 a1) w rfl
  have p2 := part64 #[.int .u64 a0, .int .u64 a1, .int .u64 a2, .int .u64 a3, .int .u64 a4, .int .u64 a5] 2 (.int .u64 a2) w rfl
  have p3 := part64 #[.int .u64 a0, .int .u64 a1, .int .u64 a2, .int .u64 a3, .int .u64 a4, .int .u64 a5] 3 (.int .u64 a3) w rfl
  have p4 := part64 #[.int .u64 a0, .int .u64 a1, .int .u64 a2, .int .u64 a3, .int .u64 a4, .int .u64 a5] 4 (.int .u64 a4) w rfl
  have p5 := part64 #[.int .u64 a0, .int .u64 a1, .int .u64 a2, .int .u64 a3, .int .u64 a4, .int .u64 a5] 5 (.int .u64 a5) w rfl
  have q := fun (a : Int) => run_equalIn_int w 9997 40 .u64 .u64 a a Tryd.underlying40
  simp [Sem.run_bind, p0, p1, p2, p3, p4, p5, q, Result.andThen]
set_option maxRecDepth 100000 in
theorem data_open {H : Type} {enc : TypeId × Value → H} {W : World} {r : Reach} {b0 : Nat} {v : Value} {x : DataW H} {p : List MemPlace} (hv : Value.okWide Tryd.prog W r b0 43 v)
    (h : DataW.Trod enc Tryd.prog W 0 (fun _ => true) true 43 v x p) : ∃ d : Dat, d.Ok ∧ v = datV d := by
  obtain ⟨cs, rfl, hsz⟩ := okWide_struct Tryd.underlying43 hv
  have hsz' : cs.size = 9 := hsz.trans (by kernel_rfl)
  obtain ⟨l⟩ := cs
  obtain ⟨fuel, hf⟩ := h
  obtain ⟨ys, n, rfl, hy, hlen, hyl, hel⟩ := DataW.trod_struct Tryd.underlying43 hf
  have c32 : Tryd.prog.cellsOf 33 = 1 := by kernel_rfl
  have c64 : Tryd.prog.cellsOf 40 = 1 := by kernel_rfl
  have c6 : Tryd.prog.cellsOf 41 = 6 := by kernel_rfl
  match l, hsz', ys, hyl with
  | [v0, v1, v2, v3, v4, v5, v6, v7, v8], _, [y0, y1, y2, y3], _ =>
    have f0 : DataW.trod enc Tryd.prog W 0 (fun _ => true) true n 33 [v0] = some y0 := by have := hel 0 _ rfl; exact this
    have f1 : DataW.trod enc Tryd.prog W 0 (fun _ => true) true n 33 [v1] = some y1 := by have := hel 1 _ rfl; exact this
    have f2 : DataW.trod enc Tryd.prog W 0 (fun _ => true) true n 40 [v2] = some y2 := by have := hel 2 _ rfl; exact this
    have f3 : DataW.trod enc Tryd.prog W 0 (fun _ => true) true n 41 [v3, v4, v5, v6, v7, v8] = some y3 := by have := hel 3 _ rfl; exact this
    obtain ⟨zs, m, rfl, _, _, hzl, hz⟩ := DataW.trod_array Tryd.underlying41 f3
    rw [c64] at hz
    match zs, hzl with
    | [u0, u1, u2, u3, u4, u5], _ =>
      obtain ⟨z0, e0, _, w0⟩ := DataW.trod_int Tryd.underlying33 f0
      obtain ⟨z1, e1, _, w1⟩ := DataW.trod_int Tryd.underlying33 f1
      obtain ⟨z2, e2, _, w2⟩ := DataW.trod_int Tryd.underlying40 f2
      obtain ⟨z3, e3, _, w3⟩ := DataW.trod_int Tryd.underlying40 (show DataW.trod enc Tryd.prog W 0 (fun _ => true) true m 40 [v3] = some u0 from hz 0 (by omega))
      obtain ⟨z4, e4, _, w4⟩ := DataW.trod_int Tryd.underlying40 (show DataW.trod enc Tryd.prog W 0 (fun _ => true) true m 40 [v4] = some u1 from hz 1 (by omega))
      obtain ⟨z5, e5, _, w5⟩ := DataW.trod_int Tryd.underlying40 (show DataW.trod enc Tryd.prog W 0 (fun _ => true) true m 40 [v5] = some u2 from hz 2 (by omega))
      obtain ⟨z6, e6, _, w6⟩ := DataW.trod_int Tryd.underlying40 (show DataW.trod enc Tryd.prog W 0 (fun _ => true) true m 40 [v6] = some u3 from hz 3 (by omega))
      obtain ⟨z7, e7, _, w7⟩ := DataW.trod_int Tryd.underlying40 (show DataW.trod enc Tryd.prog W 0 (fun _ => true) true m 40 [v7] = some u4 from hz 4 (by omega))
      obtain ⟨z8, e8, _, w8⟩ := DataW.trod_int Tryd.underlying40 (show DataW.trod enc Tryd.prog W 0 (fun _ => true) true m 40 [v8] = some u5 from hz 5 (by omega))
      simp at e0 e1 e2 e3 e4 e5 e6 e7 e8
      subst e0 e1 e2 e3 e4 e5 e6 e7 e8
      have b0 := bounds_u32 w0
      have b1 := bounds_u32 w1
      have b2 := bounds_u64 w2
      have b3 := bounds_u64 w3
      have b4 := bounds_u64 w4
      have b5 := bounds_u64 w5
      have b6 := bounds_u64 w6
      have b7 := bounds_u64 w7
      have b8 := bounds_u64 w8
      exact ⟨⟨z0, z1, z2, z3, z4, z5, z6, z7, z8⟩, ⟨by show 0 ≤ z0; omega, by show z0 < _; omega, by show 0 ≤ z1; omega, by show z1 < _; omega, by show 0 ≤ z2; omega, by show z2 < _; omega, by show 0 ≤ z3; omega, by show z3 < _; omega, by show 0 ≤ z4; omega, by show z4 < _; omega, by show 0 ≤ z5; omega, by show z5 < _; omega, by show 0 ≤ z6; omega, by show z6 < _; omega, by show 0 ≤ z7; omega, by show z7 < _; omega, by show 0 ≤ z8; omega, by show z8 < _; omega⟩, rfl⟩
end Go.Proofs.YtohfampfnhfnlaaDoor
namespace Go.Proofs.YtohfampfnhfnlaaDoor
open Go.RowKit
set_option linter.unusedVariables false
attribute [local go_sem ↓] Go.wp_at_zero Go.wp_at_succ

/-- The words as cells; as a value they are the same ones. -/
def tblC (d : Dat) : Array Value := ((tblL d).map (Value.int .u32)).toArray
set_option maxRecDepth 100000 in
set_option maxHeartbeats 8000000 in
theorem halves8 (x0 l0 h0 x1 l1 h1 x2 l2 h2 x3 l3 h3 x4 l4 h4 x5 l5 h5 x6 l6 h6 x7 l7 h7 : Int) (g : Nat) (w : World)
    (c0 : w.cell? ⟨g, 0, none⟩ = some (.int .u64 x0)) (c1 : w.cell? ⟨g, 1, none⟩ = some (.int .u64 x1)) (c2 : w.cell? ⟨g, 2, none⟩ = some (.int .u64 x2)) (c3 : w.cell? ⟨g, 3, none⟩ = some (.int .u64 x3)) (c4 : w.cell? ⟨g, 4, none⟩ = some (.int .u64 x4)) (c5 : w.cell? ⟨g, 5, none⟩ = some (.int .u64 x5)) (c6 : w.cell? ⟨g, 6, none⟩ = some (.int .u64 x6)) (c7 : w.cell? ⟨g, 7, none⟩ = some (.int .u64 x7))
    (H0 : Hid (∀ W : World, Calls Tryd.prog 94 #[.int .u64 x0] W fun e w1 => e = .returned (.tuple #[.int .u32 l0, .int .u32 h0]) ∧ W = w1)) (H1 : Hid (∀ W : World, Calls Tryd.prog 94 #[.int .u64 x1] W fun e w1 => e = .returned (.tuple #[.int .u32 l1, .int .u32 h1]) ∧ W = w1)) (H2 : Hid (∀ W : World, Calls Tryd.prog 94 #[.int .u64 x2] W fun e w1 => e = .returned (.tuple #[.int .u32 l2, .int .u32 h2]) ∧ W = w1)) (H3 : Hid (∀ W : World, Calls Tryd.prog 94 #[.int .u64 x3] W fun e w1 => e = .returned (.tuple #[.int .u32 l3, .int .u32 h3]) ∧ W = w1)) (H4 : Hid (∀ W : World, Calls Tryd.prog 94 #[.int .u64 x4] W fun e w1 => e = .returned (.tuple #[.int .u32 l4, .int .u32 h4]) ∧ W = w1)) (H5 : Hid (∀ W : World, Calls Tryd.prog 94 #[.int .u64 x5] W fun e w1 => e = .returned (.tuple #[.int .u32 l5, .int .u32 h5]) ∧ W = w1)) (H6 : Hid (∀ W : World, Calls Tryd.prog 94 #[.int .u64 x6] W fun e w1 => e = .returned (.tuple #[.int .u32 l6, .int .u32 h6]) ∧ W = w1)) (H7 : Hid (∀ W : World, Calls Tryd.prog 94 #[.int .u64 x7] W fun e w1 => e = .returned (.tuple #[.int .u32 l7, .int .u32 h7]) ∧ W = w1)) :
    Calls Tryd.prog 91 #[.slice (some ⟨g, 0, none⟩) 8 8] w fun e w' => e = .returned (.agg #[.int .u32 l0, .int .u32 h0, .int .u32 l1, .int .u32 h1, .int .u32 l2, .int .u32 h2, .int .u32 l3, .int .u32 h3, .int .u32 l4, .int .u32 h4, .int .u32 l5, .int .u32 h5, .int .u32 l6, .int .u32 h6, .int .u32 l7, .int .u32 h7]) ∧ Below w.heap.size w w' := by
  have hg : g < w.heap.size := World.block_lt_of_cell? w _ c0
  go_enter Tryd.func91, Tryd.ntmps91
  go_wp2_with fail
  refine wp_loop_rounds 9 ?_
  rw [rounds_succ]
  go_wp2_with (go_at_call 94; ((with_reducible refine (H0.out _).mono ?_); rintro e w1 ⟨rfl, rfl⟩))
  rw [rounds_succ]
  go_wp2_with (go_at_call 94; ((with_reducible refine (H1.out _).mono ?_); rintro e w1 ⟨rfl, rfl⟩))
  rw [rounds_succ]
  go_wp2_with (go_at_call 94; ((with_reducible refine (H2.out _).mono ?_); rintro e w1 ⟨rfl, rfl⟩))
  rw [rounds_succ]
  go_wp2_with (go_at_call 94; ((with_reducible refine (H3.out _).mono ?_); rintro e w1 ⟨rfl, rfl⟩))
  rw [rounds_succ]
  go_wp2_with (go_at_call 94; ((with_reducible refine (H4.out _).mono ?_); rintro e w1 ⟨rfl, rfl⟩))
  rw [rounds_succ]
  go_wp2_with (go_at_call 94; ((with_reducible refine (H5.out _).mono ?_); rintro e w1 ⟨rfl, rfl⟩))
  rw [rounds_succ]
  go_wp2_with (go_at_call 94; ((with_reducible refine (H6.out _).mono ?_); rintro e w1 ⟨rfl, rfl⟩))
  rw [rounds_succ]
  go_wp2_with (go_at_call 94; ((with_reducible refine (H7.out _).mono ?_); rintro e w1 ⟨rfl, rfl⟩))
  rw [rounds_succ]
  go_wp2
  refine bodyPost_ret (v := .agg #[.int .u32 l0, .int .u32 h0, .int .u32 l1, .int .u32 h1, .int .u32 l2, .int .u32 h2, .int .u32 l3, .int .u32 h3, .int .u32 l4, .int .u32 h4, .int .u32 l5, .int .u32 h5, .int .u32 l6, .int .u32 h6, .int .u32 l7, .int .u32 h7]) (by simp [results, Tryd.results91, go_sem]) rfl ⟨rfl, ?_⟩
  exact ((Below.refl _ _).alloc (Nat.le_refl _) _).alloc (by simp) _
end Go.Proofs.YtohfampfnhfnlaaDoor
namespace Go.Proofs.YtohfampfnhfnlaaDoor
open Go.RowKit
set_option linter.unusedVariables false
attribute [local go_sem ↓] Go.wp_at_zero Go.wp_at_succ

theorem thereOn {v w' : World} {m o n : Nat} (hb : Below v.heap.size v w') (h : v.there m o n) : w'.there m o n := fun j hj => by
  obtain ⟨h1, h2⟩ := h j hj
  obtain ⟨u, hu⟩ := Option.isSome_iff_exists.1 h1
  have hl := World.block_lt_of_cell? v _ hu
  exact ⟨by rw [hb.cell hl]; exact h1, by rw [hb.frozen hl]; exact h2⟩
theorem below_setCells {w0 : World} {b : Nat} (hb : w0.heap.size ≤ b) : ∀ (vs : List Value) (o : Nat) (w : World), Below w0.heap.size w0 w → Below w0.heap.size w0 (w.setCells b o vs)
  | [], o, w, h => h
  | v :: vs, o, w, h => below_setCells hb vs (o + 1) (w.setCell ⟨b, o, none⟩ v) (h.setCell hb v)
theorem keepT {w0 v w' : World} {p0 p1 p2 p3 p4 p5 p6 p7 p8 : Addr} {u0 u1 u2 u3 u4 u5 u6 u7 u8 : Value} {m n : Nat} (hb : Below v.heap.size v w') (h : v.cell? p0 = some u0 ∧ v.cell? p1 = some u1 ∧ v.cell? p2 = some u2 ∧ v.cell? p3 = some u3 ∧ v.cell? p4 = some u4 ∧ v.cell? p5 = some u5 ∧ v.cell? p6 = some u6 ∧ v.cell? p7 = some u7 ∧ v.cell? p8 = some u8 ∧ v.there m 0 n ∧ Below w0.heap.size w0 v) : w'.cell? p0 = some u0 ∧ w'.cell? p1 = some u1 ∧ w'.cell? p2 = some u2 ∧ w'.cell? p3 = some u3 ∧ w'.cell? p4 = some u4 ∧ w'.cell? p5 = some u5 ∧ w'.cell? p6 = some u6 ∧ w'.cell? p7 = some u7 ∧ w'.cell? p8 = some u8 ∧ w'.there m 0 n ∧ Below w0.heap.size w0 w' :=
  ⟨(hb.cell (World.block_lt_of_cell? v p0 h.1)).trans h.1, (hb.cell (World.block_lt_of_cell? v p1 h.2.1)).trans h.2.1, (hb.cell (World.block_lt_of_cell? v p2 h.2.2.1)).trans h.2.2.1, (hb.cell (World.block_lt_of_cell? v p3 h.2.2.2.1)).trans h.2.2.2.1, (hb.cell (World.block_lt_of_cell? v p4 h.2.2.2.2.1)).trans h.2.2.2.2.1, (hb.cell (World.block_lt_of_cell? v p5 h.2.2.2.2.2.1)).trans h.2.2.2.2.2.1, (hb.cell (World.block_lt_of_cell? v p6 h.2.2.2.2.2.2.1)).trans h.2.2.2.2.2.2.1, (hb.cell (World.block_lt_of_cell? v p7 h.2.2.2.2.2.2.2.1)).trans h.2.2.2.2.2.2.2.1, (hb.cell (World.block_lt_of_cell? v p8 h.2.2.2.2.2.2.2.2.1)).trans h.2.2.2.2.2.2.2.2.1, thereOn hb h.2.2.2.2.2.2.2.2.2.1, thn h.2.2.2.2.2.2.2.2.2.2 hb⟩
theorem alT {w0 v : World} {o : Obj} {p0 p1 p2 p3 p4 p5 p6 p7 p8 : Addr} {u0 u1 u2 u3 u4 u5 u6 u7 u8 : Value} {m n : Nat} (h : v.cell? p0 = some u0 ∧ v.cell? p1 = some u1 ∧ v.cell? p2 = some u2 ∧ v.cell? p3 = some u3 ∧ v.cell? p4 = some u4 ∧ v.cell? p5 = some u5 ∧ v.cell? p6 = some u6 ∧ v.cell? p7 = some u7 ∧ v.cell? p8 = some u8 ∧ v.there m 0 n ∧ Below w0.heap.size w0 v) : (v.alloc o).cell? p0 = some u0 ∧ (v.alloc o).cell? p1 = some u1 ∧ (v.alloc o).cell? p2 = some u2 ∧ (v.alloc o).cell? p3 = some u3 ∧ (v.alloc o).cell? p4 = some u4 ∧ (v.alloc o).cell? p5 = some u5 ∧ (v.alloc o).cell? p6 = some u6 ∧ (v.alloc o).cell? p7 = some u7 ∧ (v.alloc o).cell? p8 = some u8 ∧ (v.alloc o).there m 0 n ∧ Below w0.heap.size w0 (v.alloc o) := keepT ((Below.refl _ _).alloc (Nat.le_refl _) o) h
theorem alTd {w0 v : World} {o : Obj} {p0 p1 p2 p3 p4 p5 p6 p7 p8 : Addr} {u0 u1 u2 u3 u4 u5 u6 u7 u8 : Value} {m n : Nat} (h : v.drew.cell? p0 = some u0 ∧ v.drew.cell? p1 = some u1 ∧ v.drew.cell? p2 = some u2 ∧ v.drew.cell? p3 = some u3 ∧ v.drew.cell? p4 = some u4 ∧ v.drew.cell? p5 = some u5 ∧ v.drew.cell? p6 = some u6 ∧ v.drew.cell? p7 = some u7 ∧ v.drew.cell? p8 = some u8 ∧ v.drew.there m 0 n ∧ Below w0.heap.size w0 v.drew) : (v.alloc o).drew.cell? p0 = some u0 ∧ (v.alloc o).drew.cell? p1 = some u1 ∧ (v.alloc o).drew.cell? p2 = some u2 ∧ (v.alloc o).drew.cell? p3 = some u3 ∧ (v.alloc o).drew.cell? p4 = some u4 ∧ (v.alloc o).drew.cell? p5 = some u5 ∧ (v.alloc o).drew.cell? p6 = some u6 ∧ (v.alloc o).drew.cell? p7 = some u7 ∧ (v.alloc o).drew.cell? p8 = some u8 ∧ (v.alloc o).drew.there m 0 n ∧ Below w0.heap.size w0 (v.alloc o).drew := keepT (v := v.drew) (let b := (Below.refl v.heap.size v).alloc (Nat.le_refl _) o; ⟨b.os, b.tape, b.output, b.size, b.block⟩) h
theorem dwT {w0 v : World} {p0 p1 p2 p3 p4 p5 p6 p7 p8 : Addr} {u0 u1 u2 u3 u4 u5 u6 u7 u8 : Value} {m n : Nat} (h : v.cell? p0 = some u0 ∧ v.cell? p1 = some u1 ∧ v.cell? p2 = some u2 ∧ v.cell? p3 = some u3 ∧ v.cell? p4 = some u4 ∧ v.cell? p5 = some u5 ∧ v.cell? p6 = some u6 ∧ v.cell? p7 = some u7 ∧ v.cell? p8 = some u8 ∧ v.there m 0 n ∧ Below w0.heap.size w0 v) : v.drew.cell? p0 = some u0 ∧ v.drew.cell? p1 = some u1 ∧ v.drew.cell? p2 = some u2 ∧ v.drew.cell? p3 = some u3 ∧ v.drew.cell? p4 = some u4 ∧ v.drew.cell? p5 = some u5 ∧ v.drew.cell? p6 = some u6 ∧ v.drew.cell? p7 = some u7 ∧ v.drew.cell? p8 = some u8 ∧ v.drew.there m 0 n ∧ Below w0.heap.size w0 v.drew := ⟨h.1, h.2.1, h.2.2.1, h.2.2.2.1, h.2.2.2.2.1, h.2.2.2.2.2.1, h.2.2.2.2.2.2.1, h.2.2.2.2.2.2.2.1, h.2.2.2.2.2.2.2.2.1, h.2.2.2.2.2.2.2.2.2.1, (h.2.2.2.2.2.2.2.2.2.2).drew⟩
theorem stT {w0 v : World} {b0 o0 b1 o1 b2 o2 b3 o3 b4 o4 b5 o5 b6 o6 b7 o7 b8 o8 : Nat} {u0 u1 u2 u3 u4 u5 u6 u7 u8 : Value} {m n : Nat} (cs : List Value) (hm : w0.heap.size ≤ m) (n0 : b0 ≠ m) (n1 : b1 ≠ m) (n2 : b2 ≠ m) (n3 : b3 ≠ m) (n4 : b4 ≠ m) (n5 : b5 ≠ m) (n6 : b6 ≠ m) (n7 : b7 ≠ m) (n8 : b8 ≠ m) (h : v.cell? ⟨b0, o0, none⟩ = some u0 ∧ v.cell? ⟨b1, o1, none⟩ = some u1 ∧ v.cell? ⟨b2, o2, none⟩ = some u2 ∧ v.cell? ⟨b3, o3, none⟩ = some u3 ∧ v.cell? ⟨b4, o4, none⟩ = some u4 ∧ v.cell? ⟨b5, o5, none⟩ = some u5 ∧ v.cell? ⟨b6, o6, none⟩ = some u6 ∧ v.cell? ⟨b7, o7, none⟩ = some u7 ∧ v.cell? ⟨b8, o8, none⟩ = some u8 ∧ v.there m 0 n ∧ Below w0.heap.size w0 v) :
    (v.setCells m 0 cs).cell? ⟨b0, o0, none⟩ = some u0 ∧ (v.setCells m 0 cs).cell? ⟨b1, o1, none⟩ = some u1 ∧ (v.setCells m 0 cs).cell? ⟨b2, o2, none⟩ = some u2 ∧ (v.setCells m 0 cs).cell? ⟨b3, o3, none⟩ = some u3 ∧ (v.setCells m 0 cs).cell? ⟨b4, o4, none⟩ = some u4 ∧ (v.setCells m 0 cs).cell? ⟨b5, o5, none⟩ = some u5 ∧ (v.setCells m 0 cs).cell? ⟨b6, o6, none⟩ = some u6 ∧ (v.setCells m 0 cs).cell? ⟨b7, o7, none⟩ = some u7 ∧ (v.setCells m 0 cs).cell? ⟨b8, o8, none⟩ = some u8 ∧ (v.setCells m 0 cs).there m 0 n ∧ Below w0.heap.size w0 (v.setCells m 0 cs) :=
  ⟨(World.cell?_setCells_out m cs 0 v _ (fun e => absurd e n0)).trans h.1, (World.cell?_setCells_out m cs 0 v _ (fun e => absurd e n1)).trans h.2.1, (World.cell?_setCells_out m cs 0 v _ (fun e => absurd e n2)).trans h.2.2.1, (World.cell?_setCells_out m cs 0 v _ (fun e => absurd e n3)).trans h.2.2.2.1, (World.cell?_setCells_out m cs 0 v _ (fun e => absurd e n4)).trans h.2.2.2.2.1, (World.cell?_setCells_out m cs 0 v _ (fun e => absurd e n5)).trans h.2.2.2.2.2.1, (World.cell?_setCells_out m cs 0 v _ (fun e => absurd e n6)).trans h.2.2.2.2.2.2.1, (World.cell?_setCells_out m cs 0 v _ (fun e => absurd e n7)).trans h.2.2.2.2.2.2.2.1, (World.cell?_setCells_out m cs 0 v _ (fun e => absurd e n8)).trans h.2.2.2.2.2.2.2.2.1, World.there_setCells h.2.2.2.2.2.2.2.2.2.1 m 0 cs, below_setCells hm cs 0 v h.2.2.2.2.2.2.2.2.2.2⟩
theorem halves_arch (nr arch : Int) (n0 : 0 ≤ nr) (n1 : nr < 4294967296) (r0 : 0 ≤ arch) (r1 : arch < 4294967296) (W : World) : Calls Tryd.prog 94 #[.int .u64 (nr + arch * 4294967296)] W fun e w1 => e = .returned (.tuple #[.int .u32 nr, .int .u32 arch]) ∧ W = w1 := by
  have h := halves_any (nr + arch * 4294967296) W
  rw [show (nr + arch * 4294967296) % 4294967296 = nr by omega, show (nr + arch * 4294967296) / 4294967296 % 4294967296 = arch by omega] at h
  exact h
theorem halves_wide (x : Int) (h0 : 0 ≤ x) (h1 : x < 18446744073709551616) (W : World) : Calls Tryd.prog 94 #[.int .u64 x] W fun e w1 => e = .returned (.tuple #[.int .u32 (x % 4294967296), .int .u32 (x / 4294967296)]) ∧ W = w1 := by
  have h := halves_any x W
  rw [show x / 4294967296 % 4294967296 = x / 4294967296 by omega] at h
  exact h
theorem halvesB (x0 l0 h0 x1 l1 h1 x2 l2 h2 x3 l3 h3 x4 l4 h4 x5 l5 h5 x6 l6 h6 x7 l7 h7 : Int) (W : World)
    (H0 : Hid (∀ W : World, Calls Tryd.prog 94 #[.int .u64 x0] W fun e w1 => e = .returned (.tuple #[.int .u32 l0, .int .u32 h0]) ∧ W = w1)) (H1 : Hid (∀ W : World, Calls Tryd.prog 94 #[.int .u64 x1] W fun e w1 => e = .returned (.tuple #[.int .u32 l1, .int .u32 h1]) ∧ W = w1)) (H2 : Hid (∀ W : World, Calls Tryd.prog 94 #[.int .u64 x2] W fun e w1 => e = .returned (.tuple #[.int .u32 l2, .int .u32 h2]) ∧ W = w1)) (H3 : Hid (∀ W : World, Calls Tryd.prog 94 #[.int .u64 x3] W fun e w1 => e = .returned (.tuple #[.int .u32 l3, .int .u32 h3]) ∧ W = w1)) (H4 : Hid (∀ W : World, Calls Tryd.prog 94 #[.int .u64 x4] W fun e w1 => e = .returned (.tuple #[.int .u32 l4, .int .u32 h4]) ∧ W = w1)) (H5 : Hid (∀ W : World, Calls Tryd.prog 94 #[.int .u64 x5] W fun e w1 => e = .returned (.tuple #[.int .u32 l5, .int .u32 h5]) ∧ W = w1)) (H6 : Hid (∀ W : World, Calls Tryd.prog 94 #[.int .u64 x6] W fun e w1 => e = .returned (.tuple #[.int .u32 l6, .int .u32 h6]) ∧ W = w1)) (H7 : Hid (∀ W : World, Calls Tryd.prog 94 #[.int .u64 x7] W fun e w1 => e = .returned (.tuple #[.int .u32 l7, .int .u32 h7]) ∧ W = w1)) :
    Calls Tryd.prog 91 #[.slice (some ⟨W.heap.size, 0, none⟩) 8 8] (W.alloc (.cells #[.int .u64 x0, .int .u64 x1, .int .u64 x2, .int .u64 x3, .int .u64 x4, .int .u64 x5, .int .u64 x6, .int .u64 x7] 40)).drew fun e w' => e = .returned (.agg #[.int .u32 l0, .int .u32 h0, .int .u32 l1, .int .u32 h1, .int .u32 l2, .int .u32 h2, .int .u32 l3, .int .u32 h3, .int .u32 l4, .int .u32 h4, .int .u32 l5, .int .u32 h5, .int .u32 l6, .int .u32 h6, .int .u32 l7, .int .u32 h7]) ∧ Below (W.alloc (.cells #[.int .u64 x0, .int .u64 x1, .int .u64 x2, .int .u64 x3, .int .u64 x4, .int .u64 x5, .int .u64 x6, .int .u64 x7] 40)).drew.heap.size (W.alloc (.cells #[.int .u64 x0, .int .u64 x1, .int .u64 x2, .int .u64 x3, .int .u64 x4, .int .u64 x5, .int .u64 x6, .int .u64 x7] 40)).drew w' := by
  have e := heap_alloc_new W (.cells #[.int .u64 x0, .int .u64 x1, .int .u64 x2, .int .u64 x3, .int .u64 x4, .int .u64 x5, .int .u64 x6, .int .u64 x7] 40)
  have e' : (W.alloc (.cells #[.int .u64 x0, .int .u64 x1, .int .u64 x2, .int .u64 x3, .int .u64 x4, .int .u64 x5, .int .u64 x6, .int .u64 x7] 40)).drew.heap[W.heap.size]? = some (.cells #[.int .u64 x0, .int .u64 x1, .int .u64 x2, .int .u64 x3, .int .u64 x4, .int .u64 x5, .int .u64 x6, .int .u64 x7] 40 (0, 0)) := e
  exact halves8 x0 l0 h0 x1 l1 h1 x2 l2 h2 x3 l3 h3 x4 l4 h4 x5 l5 h5 x6 l6 h6 x7 l7 h7 _ _ ((cell_of_row _ _ 0 _ _ (0, 0) e').trans rfl) ((cell_of_row _ _ 1 _ _ (0, 0) e').trans rfl) ((cell_of_row _ _ 2 _ _ (0, 0) e').trans rfl) ((cell_of_row _ _ 3 _ _ (0, 0) e').trans rfl) ((cell_of_row _ _ 4 _ _ (0, 0) e').trans rfl) ((cell_of_row _ _ 5 _ _ (0, 0) e').trans rfl) ((cell_of_row _ _ 6 _ _ (0, 0) e').trans rfl) ((cell_of_row _ _ 7 _ _ (0, 0) e').trans rfl) H0 H1 H2 H3 H4 H5 H6 H7
set_option maxRecDepth 100000 in
set_option maxHeartbeats 8000000 in
theorem tableOf_any (d : Dat) (w : World) (h : d.Ok) : Calls Tryd.prog 89 #[datV d] w fun e w' => e = .returned (.agg (tblC d)) ∧ Below w.heap.size w w' := by
  obtain ⟨nr, arch, ip, a0, a1, a2, a3, a4, a5⟩ := d
  obtain ⟨q0, q1, q2, q3, q4, q5, q6, q7, q8, q9, q10, q11, q12, q13, q14, q15, q16, q17⟩ := h
  simp only at q0 q1 q2 q3 q4 q5 q6 q7 q8 q9 q10 q11 q12 q13 q14 q15 q16 q17
  have HW := Lib.hid (fun W => whole_any nr arch q0 q1 q2 q3 W)
  have H0 := Lib.hid (fun W => halves_arch nr arch q0 q1 q2 q3 W)
  have H1 := Lib.hid (fun W => halves_wide ip q4 q5 W)
  have H2 := Lib.hid (fun W => halves_wide a0 q6 q7 W)
  have H3 := Lib.hid (fun W => halves_wide a1 q8 q9 W)
  have H4 := Lib.hid (fun W => halves_wide a2 q10 q11 W)
  have H5 := Lib.hid (fun W => halves_wide a3 q12 q13 W)
  have H6 := Lib.hid (fun W => halves_wide a4 q14 q15 W)
  have H7 := Lib.hid (fun W => halves_wide a5 q16 q17 W)
  clear q0 q1 q2 q3 q4 q5 q6 q7 q8 q9 q10 q11 q12 q13 q14 q15 q16 q17
  show Calls Tryd.prog 89 #[.agg #[.int .u32 nr, .int .u32 arch, .int .u64 ip, .int .u64 a0, .int .u64 a1, .int .u64 a2, .int .u64 a3, .int .u64 a4, .int .u64 a5]] w fun e w' => e = .returned (.agg #[.int .u32 (nr), .int .u32 (arch), .int .u32 (ip % 4294967296), .int .u32 (ip / 4294967296), .int .u32 (a0 % 4294967296), .int .u32 (a0 / 4294967296), .int .u32 (a1 % 4294967296), .int .u32 (a1 / 4294967296), .int .u32 (a2 % 4294967296), .int .u32 (a2 / 4294967296), .int .u32 (a3 % 4294967296), .int .u32 (a3 / 4294967296), .int .u32 (a4 % 4294967296), .int .u32 (a4 / 4294967296), .int .u32 (a5 % 4294967296), .int .u32 (a5 / 4294967296)]) ∧ Below w.heap.size w w'
  obtain ⟨x0, hx0⟩ : ∃ x, x = nr + arch * 4294967296 := ⟨_, rfl⟩
  rw [← hx0] at H0 HW
  obtain ⟨l1, hl1⟩ : ∃ x, x = ip % 4294967296 := ⟨_, rfl⟩
  obtain ⟨h1, hh1⟩ : ∃ x, x = ip / 4294967296 := ⟨_, rfl⟩
  rw [← hl1, ← hh1] at H1 ⊢
  obtain ⟨l2, hl2⟩ : ∃ x, x = a0 % 4294967296 := ⟨_, rfl⟩
  obtain ⟨h2, hh2⟩ : ∃ x, x = a0 / 4294967296 := ⟨_, rfl⟩
  rw [← hl2, ← hh2] at H2 ⊢
  obtain ⟨l3, hl3⟩ : ∃ x, x = a1 % 4294967296 := ⟨_, rfl⟩
  obtain ⟨h3, hh3⟩ : ∃ x, x = a1 / 4294967296 := ⟨_, rfl⟩
  rw [← hl3, ← hh3] at H3 ⊢
  obtain ⟨l4, hl4⟩ : ∃ x, x = a2 % 4294967296 := ⟨_, rfl⟩
  obtain ⟨h4, hh4⟩ : ∃ x, x = a2 / 4294967296 := ⟨_, rfl⟩
  rw [← hl4, ← hh4] at H4 ⊢
  obtain ⟨l5, hl5⟩ : ∃ x, x = a3 % 4294967296 := ⟨_, rfl⟩
  obtain ⟨h5, hh5⟩ : ∃ x, x = a3 / 4294967296 := ⟨_, rfl⟩
  rw [← hl5, ← hh5] at H5 ⊢
  obtain ⟨l6, hl6⟩ : ∃ x, x = a4 % 4294967296 := ⟨_, rfl⟩
  obtain ⟨h6, hh6⟩ : ∃ x, x = a4 / 4294967296 := ⟨_, rfl⟩
  rw [← hl6, ← hh6] at H6 ⊢
  obtain ⟨l7, hl7⟩ : ∃ x, x = a5 % 4294967296 := ⟨_, rfl⟩
  obtain ⟨h7, hh7⟩ : ∃ x, x = a5 / 4294967296 := ⟨_, rfl⟩
  rw [← hl7, ← hh7] at H7 ⊢
  clear hx0 hl1 hh1 hl2 hh2 hl3 hh3 hl4 hh4 hl5 hh5 hl6 hh6 hl7 hh7
  obtain ⟨W, hW⟩ : ∃ W, W = ((w.alloc (.cells #[.int .u32 nr, .int .u32 arch, .int .u64 ip, .int .u64 a0, .int .u64 a1, .int .u64 a2, .int .u64 a3, .int .u64 a4, .int .u64 a5] 43)).alloc (.cells #[.int .u32 0, .int .u32 0, .int .u32 0, .int .u32 0, .int .u32 0, .int .u32 0, .int .u32 0, .int .u32 0, .int .u32 0, .int .u32 0, .int .u32 0, .int .u32 0, .int .u32 0, .int .u32 0, .int .u32 0, .int .u32 0] 121)).alloc (.cells #[.int .u64 a0, .int .u64 a1, .int .u64 a2, .int .u64 a3, .int .u64 a4, .int .u64 a5] 41) := ⟨_, rfl⟩
  have hS : W.cell? ⟨w.heap.size, 0, none⟩ = some (.int .u32 nr) ∧ W.cell? ⟨w.heap.size, 1, none⟩ = some (.int .u32 arch) ∧ W.cell? ⟨w.heap.size, 2, none⟩ = some (.int .u64 ip) ∧ W.cell? ⟨w.heap.size + 2, 0, none⟩ = some (.int .u64 a0) ∧ W.cell? ⟨w.heap.size + 2, 1, none⟩ = some (.int .u64 a1) ∧ W.cell? ⟨w.heap.size + 2, 2, none⟩ = some (.int .u64 a2) ∧ W.cell? ⟨w.heap.size + 2, 3, none⟩ = some (.int .u64 a3) ∧ W.cell? ⟨w.heap.size + 2, 4, none⟩ = some (.int .u64 a4) ∧ W.cell? ⟨w.heap.size + 2, 5, none⟩ = some (.int .u64 a5) ∧ W.there (w.heap.size + 1) 0 [Value.int .u32 nr, Value.int .u32 arch, Value.int .u32 l1, Value.int .u32 h1, Value.int .u32 l2, Value.int .u32 h2, Value.int .u32 l3, Value.int .u32 h3, Value.int .u32 l4, Value.int .u32 h4, Value.int .u32 l5, Value.int .u32 h5, Value.int .u32 l6, Value.int .u32 h6, Value.int .u32 l7, Value.int .u32 h7].length ∧ Below w.heap.size w W := by
    rw [hW]
    have e1 := heap_alloc_new w (.cells #[.int .u32 nr, .int .u32 arch, .int .u64 ip, .int .u64 a0, .int .u64 a1, .int .u64 a2, .int .u64 a3, .int .u64 a4, .int .u64 a5] 43)
    have e2 := heap_alloc_new (w.alloc (.cells #[.int .u32 nr, .int .u32 arch, .int .u64 ip, .int .u64 a0, .int .u64 a1, .int .u64 a2, .int .u64 a3, .int .u64 a4, .int .u64 a5] 43)) (.cells #[.int .u32 0, .int .u32 0, .int .u32 0, .int .u32 0, .int .u32 0, .int .u32 0, .int .u32 0, .int .u32 0, .int .u32 0, .int .u32 0, .int .u32 0, .int .u32 0, .int .u32 0, .int .u32 0, .int .u32 0, .int .u32 0] 121)
    have e3 := heap_alloc_new ((w.alloc (.cells #[.int .u32 nr, .int .u32 arch, .int .u64 ip, .int .u64 a0, .int .u64 a1, .int .u64 a2, .int .u64 a3, .int .u64 a4, .int .u64 a5] 43)).alloc (.cells #[.int .u32 0, .int .u32 0, .int .u32 0, .int .u32 0, .int .u32 0, .int .u32 0, .int .u32 0, .int .u32 0, .int .u32 0, .int .u32 0, .int .u32 0, .int .u32 0, .int .u32 0, .int .u32 0, .int .u32 0, .int .u32 0] 121)) (.cells #[.int .u64 a0, .int .u64 a1, .int .u64 a2, .int .u64 a3, .int .u64 a4, .int .u64 a5] 41)
    rw [World.size_alloc] at e2
    rw [World.size_alloc, World.size_alloc] at e3
    have f1 := (Below.heap_alloc (w.alloc (.cells #[.int .u32 nr, .int .u32 arch, .int .u64 ip, .int .u64 a0, .int .u64 a1, .int .u64 a2, .int .u64 a3, .int .u64 a4, .int .u64 a5] 43)) (.cells #[.int .u32 0, .int .u32 0, .int .u32 0, .int .u32 0, .int .u32 0, .int .u32 0, .int .u32 0, .int .u32 0, .int .u32 0, .int .u32 0, .int .u32 0, .int .u32 0, .int .u32 0, .int .u32 0, .int .u32 0, .int .u32 0] 121) w.heap.size (by simp)).trans e1
    have f1' := (Below.heap_alloc ((w.alloc (.cells #[.int .u32 nr, .int .u32 arch, .int .u64 ip, .int .u64 a0, .int .u64 a1, .int .u64 a2, .int .u64 a3, .int .u64 a4, .int .u64 a5] 43)).alloc (.cells #[.int .u32 0, .int .u32 0, .int .u32 0, .int .u32 0, .int .u32 0, .int .u32 0, .int .u32 0, .int .u32 0, .int .u32 0, .int .u32 0, .int .u32 0, .int .u32 0, .int .u32 0, .int .u32 0, .int .u32 0, .int .u32 0] 121)) (.cells #[.int .u64 a0, .int .u64 a1, .int .u64 a2, .int .u64 a3, .int .u64 a4, .int .u64 a5] 41) w.heap.size (by simp; omega)).trans f1
    have f2 := (Below.heap_alloc ((w.alloc (.cells #[.int .u32 nr, .int .u32 arch, .int .u64 ip, .int .u64 a0, .int .u64 a1, .int .u64 a2, .int .u64 a3, .int .u64 a4, .int .u64 a5] 43)).alloc (.cells #[.int .u32 0, .int .u32 0, .int .u32 0, .int .u32 0, .int .u32 0, .int .u32 0, .int .u32 0, .int .u32 0, .int .u32 0, .int .u32 0, .int .u32 0, .int .u32 0, .int .u32 0, .int .u32 0, .int .u32 0, .int .u32 0] 121)) (.cells #[.int .u64 a0, .int .u64 a1, .int .u64 a2, .int .u64 a3, .int .u64 a4, .int .u64 a5] 41) (w.heap.size + 1) (by simp)).trans e2
    exact ⟨(cell_of_row _ _ 0 _ _ (0, 0) f1').trans rfl, (cell_of_row _ _ 1 _ _ (0, 0) f1').trans rfl, (cell_of_row _ _ 2 _ _ (0, 0) f1').trans rfl, (cell_of_row _ _ 0 _ _ (0, 0) e3).trans rfl, (cell_of_row _ _ 1 _ _ (0, 0) e3).trans rfl, (cell_of_row _ _ 2 _ _ (0, 0) e3).trans rfl, (cell_of_row _ _ 3 _ _ (0, 0) e3).trans rfl, (cell_of_row _ _ 4 _ _ (0, 0) e3).trans rfl, (cell_of_row _ _ 5 _ _ (0, 0) e3).trans rfl, (fun j hj => ⟨by rw [cell_of_row _ _ (0 + j) _ _ (0, 0) f2]; match j, hj with
      | 0, _ => rfl
      | 1, _ => rfl
      | 2, _ => rfl
      | 3, _ => rfl
      | 4, _ => rfl
      | 5, _ => rfl
      | 6, _ => rfl
      | 7, _ => rfl
      | 8, _ => rfl
      | 9, _ => rfl
      | 10, _ => rfl
      | 11, _ => rfl
      | 12, _ => rfl
      | 13, _ => rfl
      | 14, _ => rfl
      | 15, _ => rfl
      | j + 16, hj => exact absurd hj (by simp), frozen_of_row _ _ _ _ _ f2⟩), (((Below.refl _ _).alloc (Nat.le_refl _) _).alloc (by simp) _).alloc (by simp; omega) _⟩
  have hone : ∀ v ∈ [Value.int .u32 nr, Value.int .u32 arch, Value.int .u32 l1, Value.int .u32 h1, Value.int .u32 l2, Value.int .u32 h2, Value.int .u32 l3, Value.int .u32 h3, Value.int .u32 l4, Value.int .u32 h4, Value.int .u32 l5, Value.int .u32 h5, Value.int .u32 l6, Value.int .u32 h6, Value.int .u32 l7, Value.int .u32 h7], v.oneCell' = true := by intro v hv; simp at hv; rcases hv with rfl | rfl | rfl | rfl | rfl | rfl | rfl | rfl | rfl | rfl | rfl | rfl | rfl | rfl | rfl | rfl <;> rfl
  have hinf : (Tryd.prog.info? 121).map (·.size) = some [Value.int .u32 nr, Value.int .u32 arch, Value.int .u32 l1, Value.int .u32 h1, Value.int .u32 l2, Value.int .u32 h2, Value.int .u32 l3, Value.int .u32 h3, Value.int .u32 l4, Value.int .u32 h4, Value.int .u32 l5, Value.int .u32 h5, Value.int .u32 l6, Value.int .u32 h6, Value.int .u32 l7, Value.int .u32 h7].length := by kernel_rfl
  go_enter Tryd.func89, Tryd.ntmps89
  go_wp2_with fail
  rw [← hW]
  have HS := Lib.hid hS
  clear hW hS
  go_region_held3 (fun w' => w'.cell? ⟨w.heap.size, 0, none⟩ = some (.int .u32 nr) ∧ w'.cell? ⟨w.heap.size, 1, none⟩ = some (.int .u32 arch) ∧ w'.cell? ⟨w.heap.size, 2, none⟩ = some (.int .u64 ip) ∧ w'.cell? ⟨w.heap.size + 2, 0, none⟩ = some (.int .u64 a0) ∧ w'.cell? ⟨w.heap.size + 2, 1, none⟩ = some (.int .u64 a1) ∧ w'.cell? ⟨w.heap.size + 2, 2, none⟩ = some (.int .u64 a2) ∧ w'.cell? ⟨w.heap.size + 2, 3, none⟩ = some (.int .u64 a3) ∧ w'.cell? ⟨w.heap.size + 2, 4, none⟩ = some (.int .u64 a4) ∧ w'.cell? ⟨w.heap.size + 2, 5, none⟩ = some (.int .u64 a5) ∧ w'.there (w.heap.size + 1) 0 [Value.int .u32 nr, Value.int .u32 arch, Value.int .u32 l1, Value.int .u32 h1, Value.int .u32 l2, Value.int .u32 h2, Value.int .u32 l3, Value.int .u32 h3, Value.int .u32 l4, Value.int .u32 h4, Value.int .u32 l5, Value.int .u32 h5, Value.int .u32 l6, Value.int .u32 h6, Value.int .u32 l7, Value.int .u32 h7].length ∧ Below w.heap.size w w')
    (first | with_reducible assumption | (with_reducible exact dwT HS.out) | ((with_reducible refine alTd ?_); assumption) | (with_reducible refine stT _ ?_ ?_ ?_ ?_ ?_ ?_ ?_ ?_ ?_ ?_ ?_ <;> first | omega | assumption) | ((with_reducible refine keepT b2 ?_); assumption)) (first
    | (go_at_call 92; ((with_reducible refine (HW.out _).mono ?_); rintro e w1 ⟨rfl, rfl⟩))
    | (go_at_call 91; ((with_reducible refine (halvesB x0 nr arch ip l1 h1 a0 l2 h2 a1 l3 h3 a2 l4 h4 a3 l5 h5 a4 l6 h6 a5 l7 h7 W H0 H1 H2 H3 H4 H5 H6 H7).mono ?_); rintro e w2 ⟨rfl, b2⟩)))
  have hth : w2.there (w.heap.size + 1) 0 [Value.int .u32 nr, Value.int .u32 arch, Value.int .u32 l1, Value.int .u32 h1, Value.int .u32 l2, Value.int .u32 h2, Value.int .u32 l3, Value.int .u32 h3, Value.int .u32 l4, Value.int .u32 h4, Value.int .u32 l5, Value.int .u32 h5, Value.int .u32 l6, Value.int .u32 h6, Value.int .u32 l7, Value.int .u32 h7].length := thereOn b2 ((World.there_drew _ _ _ _).2 (World.there_alloc (HS.out.2.2.2.2.2.2.2.2.2.1) _))
  have hrg := World.rangeAt_setCells_same w2 (w.heap.size + 1) 0 [Value.int .u32 nr, Value.int .u32 arch, Value.int .u32 l1, Value.int .u32 h1, Value.int .u32 l2, Value.int .u32 h2, Value.int .u32 l3, Value.int .u32 h3, Value.int .u32 l4, Value.int .u32 h4, Value.int .u32 l5, Value.int .u32 h5, Value.int .u32 l6, Value.int .u32 h6, Value.int .u32 l7, Value.int .u32 h7] hth
  have hBl : Below w.heap.size w (w2.setCells (w.heap.size + 1) 0 [Value.int .u32 nr, Value.int .u32 arch, Value.int .u32 l1, Value.int .u32 h1, Value.int .u32 l2, Value.int .u32 h2, Value.int .u32 l3, Value.int .u32 h3, Value.int .u32 l4, Value.int .u32 h4, Value.int .u32 l5, Value.int .u32 h5, Value.int .u32 l6, Value.int .u32 h6, Value.int .u32 l7, Value.int .u32 h7]) := below_setCells (by omega) _ _ _ (thn (HS.out.2.2.2.2.2.2.2.2.2.2) (let b := (Below.refl W.heap.size W).alloc (Nat.le_refl _) (.cells #[.int .u64 x0, .int .u64 ip, .int .u64 a0, .int .u64 a1, .int .u64 a2, .int .u64 a3, .int .u64 a4, .int .u64 a5] 40); thn (w := (W.alloc _).drew) ⟨b.os, b.tape, b.output, b.size, b.block⟩ b2))
  obtain ⟨V, hV⟩ : ∃ V, V = w2.setCells (w.heap.size + 1) 0 [Value.int .u32 nr, Value.int .u32 arch, Value.int .u32 l1, Value.int .u32 h1, Value.int .u32 l2, Value.int .u32 h2, Value.int .u32 l3, Value.int .u32 h3, Value.int .u32 l4, Value.int .u32 h4, Value.int .u32 l5, Value.int .u32 h5, Value.int .u32 l6, Value.int .u32 h6, Value.int .u32 l7, Value.int .u32 h7] := ⟨_, rfl⟩
  rw [← hV] at hrg hBl ⊢
  have c0 : V.cell? ⟨w.heap.size + 1, 0, none⟩ = some (Value.int .u32 nr) := hrg 0 _ rfl
  have c1 : V.cell? ⟨w.heap.size + 1, 1, none⟩ = some (Value.int .u32 arch) := hrg 1 _ rfl
  have c2 : V.cell? ⟨w.heap.size + 1, 2, none⟩ = some (Value.int .u32 l1) := hrg 2 _ rfl
  have c3 : V.cell? ⟨w.heap.size + 1, 3, none⟩ = some (Value.int .u32 h1) := hrg 3 _ rfl
  have c4 : V.cell? ⟨w.heap.size + 1, 4, none⟩ = some (Value.int .u32 l2) := hrg 4 _ rfl
  have c5 : V.cell? ⟨w.heap.size + 1, 5, none⟩ = some (Value.int .u32 h2) := hrg 5 _ rfl
  have c6 : V.cell? ⟨w.heap.size + 1, 6, none⟩ = some (Value.int .u32 l3) := hrg 6 _ rfl
  have c7 : V.cell? ⟨w.heap.size + 1, 7, none⟩ = some (Value.int .u32 h3) := hrg 7 _ rfl
  have c8 : V.cell? ⟨w.heap.size + 1, 8, none⟩ = some (Value.int .u32 l4) := hrg 8 _ rfl
  have c9 : V.cell? ⟨w.heap.size + 1, 9, none⟩ = some (Value.int .u32 h4) := hrg 9 _ rfl
  have c10 : V.cell? ⟨w.heap.size + 1, 10, none⟩ = some (Value.int .u32 l5) := hrg 10 _ rfl
  have c11 : V.cell? ⟨w.heap.size + 1, 11, none⟩ = some (Value.int .u32 h5) := hrg 11 _ rfl
  have c12 : V.cell? ⟨w.heap.size + 1, 12, none⟩ = some (Value.int .u32 l6) := hrg 12 _ rfl
  have c13 : V.cell? ⟨w.heap.size + 1, 13, none⟩ = some (Value.int .u32 h6) := hrg 13 _ rfl
  have c14 : V.cell? ⟨w.heap.size + 1, 14, none⟩ = some (Value.int .u32 l7) := hrg 14 _ rfl
  have c15 : V.cell? ⟨w.heap.size + 1, 15, none⟩ = some (Value.int .u32 h7) := hrg 15 _ rfl
  clear H0 H1 H2 H3 H4 H5 H6 H7 HW HS hth hrg b2 hone hinf hV
  go_wp2
  refine bodyPost_ret (v := .agg #[Value.int .u32 nr, Value.int .u32 arch, Value.int .u32 l1, Value.int .u32 h1, Value.int .u32 l2, Value.int .u32 h2, Value.int .u32 l3, Value.int .u32 h3, Value.int .u32 l4, Value.int .u32 h4, Value.int .u32 l5, Value.int .u32 h5, Value.int .u32 l6, Value.int .u32 h6, Value.int .u32 l7, Value.int .u32 h7]) (by simp [results, Tryd.results89, go_sem, c0, c1, c2, c3, c4, c5, c6, c7, c8, c9, c10, c11, c12, c13, c14, c15]) rfl ⟨rfl, hBl⟩
end Go.Proofs.YtohfampfnhfnlaaDoor
namespace Go.Proofs.YtohfampfnhfnlaaDoor
open Go.RowKit
set_option linter.unusedVariables false
attribute [local go_sem ↓] Go.wp_at_zero Go.wp_at_succ

theorem tblC_eq (d : Dat) : tblC d = #[.int .u32 ((tblL d).getD 0 0), .int .u32 ((tblL d).getD 1 0), .int .u32 ((tblL d).getD 2 0), .int .u32 ((tblL d).getD 3 0), .int .u32 ((tblL d).getD 4 0), .int .u32 ((tblL d).getD 5 0), .int .u32 ((tblL d).getD 6 0), .int .u32 ((tblL d).getD 7 0), .int .u32 ((tblL d).getD 8 0), .int .u32 ((tblL d).getD 9 0), .int .u32 ((tblL d).getD 10 0), .int .u32 ((tblL d).getD 11 0), .int .u32 ((tblL d).getD 12 0), .int .u32 ((tblL d).getD 13 0), .int .u32 ((tblL d).getD 14 0), .int .u32 ((tblL d).getD 15 0)] := rfl
theorem tblC_get (d : Dat) {k : Nat} (hk : k < 16) : (tblC d)[k]? = some (.int .u32 ((tblL d).getD k 0)) := by
  match k, hk with
  | 0, _ => rfl
  | 1, _ => rfl
  | 2, _ => rfl
  | 3, _ => rfl
  | 4, _ => rfl
  | 5, _ => rfl
  | 6, _ => rfl
  | 7, _ => rfl
  | 8, _ => rfl
  | 9, _ => rfl
  | 10, _ => rfl
  | 11, _ => rfl
  | 12, _ => rfl
  | 13, _ => rfl
  | 14, _ => rfl
  | 15, _ => rfl
  | k + 16, hk => omega
theorem tbl_there (W : World) : (W.alloc (.cells #[.int .u32 0, .int .u32 0, .int .u32 0, .int .u32 0, .int .u32 0, .int .u32 0, .int .u32 0, .int .u32 0, .int .u32 0, .int .u32 0, .int .u32 0, .int .u32 0, .int .u32 0, .int .u32 0, .int .u32 0, .int .u32 0] 121)).there W.heap.size 0 16 := fun j hj => by
  refine ⟨?_, frozen_of_row _ _ _ _ _ (heap_alloc_new W _)⟩
  rw [cell_of_row _ _ (0 + j) _ _ (0, 0) (heap_alloc_new W _)]
  match j, hj with
  | 0, _ => rfl
  | 1, _ => rfl
  | 2, _ => rfl
  | 3, _ => rfl
  | 4, _ => rfl
  | 5, _ => rfl
  | 6, _ => rfl
  | 7, _ => rfl
  | 8, _ => rfl
  | 9, _ => rfl
  | 10, _ => rfl
  | 11, _ => rfl
  | 12, _ => rfl
  | 13, _ => rfl
  | 14, _ => rfl
  | 15, _ => rfl
  | j + 16, hj => omega
set_option maxRecDepth 100000 in
set_option maxHeartbeats 4000000 in
theorem word_in (a0 : Dat) (k : Nat) (a : Int) (w : World) (h : a0.Ok) (hk : k < 16) (ha : a = 4 * (k : Int)) : Calls Tryd.prog 87 #[datV a0, .int .u32 a] w fun e w' =>
    e = .returned (.tuple #[.int .u32 ((tblL a0).getD k 0), .int .i64 0]) ∧ Below w.heap.size w w' := by
  have HT := Lib.hid (fun W => tableOf_any a0 W h)
  have hg := tblC_get a0 hk
  have hsz : (tblC a0).size = 16 := rfl
  have hth : ∀ W : World, (W.alloc (.cells #[.int .u32 0, .int .u32 0, .int .u32 0, .int .u32 0, .int .u32 0, .int .u32 0, .int .u32 0, .int .u32 0, .int .u32 0, .int .u32 0, .int .u32 0, .int .u32 0, .int .u32 0, .int .u32 0, .int .u32 0, .int .u32 0] 121)).there W.heap.size 0 (tblC a0).size := fun W => tbl_there W
  have HG : Hid (∀ W : World, ((W.alloc (.cells #[.int .u32 0, .int .u32 0, .int .u32 0, .int .u32 0, .int .u32 0, .int .u32 0, .int .u32 0, .int .u32 0, .int .u32 0, .int .u32 0, .int .u32 0, .int .u32 0, .int .u32 0, .int .u32 0, .int .u32 0, .int .u32 0] 121)).setCells W.heap.size 0 (tblC a0).toList).cell? ⟨W.heap.size, k, none⟩ = some (.int .u32 ((tblL a0).getD k 0))) := Lib.hid (fun W => by
    have := World.rangeAt_setCells_same (W.alloc (.cells #[.int .u32 0, .int .u32 0, .int .u32 0, .int .u32 0, .int .u32 0, .int .u32 0, .int .u32 0, .int .u32 0, .int .u32 0, .int .u32 0, .int .u32 0, .int .u32 0, .int .u32 0, .int .u32 0, .int .u32 0, .int .u32 0] 121)) W.heap.size 0 (tblC a0).toList (hth W) k _ (by simpa using hg)
    rwa [Nat.zero_add] at this)
  have hone : (tblC a0).all (·.oneCell') = true := all_oneCell_toArray (fun v hv => by obtain ⟨x, _, rfl⟩ := List.mem_map.1 hv; rfl)
  have hinf : (Tryd.prog.info? 121).map (·.size) = some (tblC a0).size := by rw [hsz]; kernel_rfl
  have HTH := Lib.hid hth
  have HON := Lib.hid hone
  have HIN := Lib.hid hinf
  obtain ⟨x, hx⟩ : ∃ x, x = (tblL a0).getD k 0 := ⟨_, rfl⟩
  rw [← hx] at HG ⊢
  have t1 : (a % 4 != 0) = false := by simp; omega
  have t2 : ¬ (63 : Int) < a := by omega
  have t3 : a / 4 = k := by omega
  have k0 : (0 : Int) ≤ k := by omega
  have k1 : (k : Int) < 16 := by omega
  have k2 : 0 ≤ a := by omega
  have k3 : a < 64 := by omega
  clear ha hk hx hg h hsz hth hone hinf
  unfold datV datC at *
  go_enter Tryd.func87, Tryd.ntmps87
  go_wp2_with (first
    | (go_at_call 89; ((with_reducible refine (HT.out _).mono ?_); rintro e w1 ⟨rfl, b1⟩); have hc := HG.out w1)
    | ((with_reducible show wpList _ _ _ (⟨none, .store 121 (.tmp 6) (.tmp 15), _, _, _, _⟩ :: _) _ _)
       refine wpList_store_mid rfl 121 (.tmp 6) (.tmp 15) rfl w1.heap.size 0 (tblC a0) rfl rfl (HTH.out w1) HIN.out HON.out ?_))
  go_ret2
  exact ⟨rfl, below_setCells (by have := b1.size; simp at this; omega) _ _ _ ((((Below.refl _ _).alloc (Nat.le_refl _) _).trans (b1.mono (by simp))).alloc (by have := b1.size; simp at this; omega) _)⟩
theorem wordC : DWordC := by
  intro d a w h h0 h1
  by_cases hm : a % 4 = 0
  · by_cases h2 : a < 64
    · obtain ⟨e1, e2⟩ := wordV_tbl h h0 hm h2
      obtain ⟨k, rfl⟩ : ∃ k : Nat, a = 4 * (k : Int) := ⟨(a / 4).toNat, by omega⟩
      rw [e1, e2, show (4 * (k : Int) / 4).toNat = k by omega]
      exact word_in d k _ w h (by omega) rfl
    · obtain ⟨e1, e2⟩ := word_no (d := d) (a := a) (by omega)
      rw [e1, e2]
      have t1 : (a % 4 != 0) = false := by simp; omega
      have t2 : (63 : Int) < a := by omega
      clear e1 e2 h
      unfold datV datC
      go_enter Tryd.func87, Tryd.ntmps87
      go_wp2
      go_ret2
      exact ⟨rfl, (Below.refl _ _).alloc (Nat.le_refl _) _⟩
  · obtain ⟨e1, e2⟩ := word_no (d := d) (a := a) (by omega)
    rw [e1, e2]
    have t1 : (a % 4 != 0) = true := by simp; omega
    clear e1 e2 h
    unfold datV datC
    go_enter Tryd.func87, Tryd.ntmps87
    go_wp2
    go_ret2
    exact ⟨rfl, (Below.refl _ _).alloc (Nat.le_refl _) _⟩
end Go.Proofs.YtohfampfnhfnlaaDoor
