/- What the calls of the package data have to return, one by one, as the chapter says it: the statements of layer 3 are walked over these. And how an argument that is data is opened. Condition: a slice is as long as its capacity allows. -/
import Derived.Test.YthhfpehngdohhaaDoorDb
import Derived.Test.YthhfpehngdohhaaDoorFr
import Derived.ChangeSame
import Derived.Lib.SmallJoins
import Derived.ChangeKeysEq
namespace Go.Proofs.YthhfpehngdohhaaDoor
open Go.ChangeShapes Go.WideShapes Go.ChangeAt Go.RowKit
set_option linter.unusedVariables false

/-- Is it an argument's index? -/
def argB (a : Int) : Bool := decide (0 ≤ a ∧ a < 6)
def lowV (a : Int) : Int := if argB a then 16 + 8 * a else 0
def highV (a : Int) : Int := if argB a then 20 + 8 * a else 0
def DWordC : Prop := ∀ (d : Dat) (a : Int) (w : World), d.Ok → 0 ≤ a → a < 4294967296 → Calls Tryd.prog 72 #[datV d, .int .u32 a] w fun e w' => e = .returned (.tuple #[.int .u32 (wordV d a), .int .i64 (wordE a)]) ∧ Below w.heap.size w w'
set_option maxRecDepth 100000 in
theorem own_rd {w : World} {B n d : Nat} {e : TypeId} {p : Option Addr} {xs : List Int} (h : w.ownsRow B e 1 (.slice p n d) n (bv xs)) : Rd w w.heap.size p xs ∧ (p = none → d = 0) ∧ n ≤ d ∧ d ≤ maxLen := by
  have hl : xs.length = n := by have := h.1; rw [bv_length] at this; omega
  rcases h.2 with ⟨hv, rfl⟩ | ⟨g, cap, cur, hv, hg, hh, hc, hm, r⟩
  · injection hv with h1 h2 h3
    subst h1 h3
    obtain rfl : xs = [] := List.eq_nil_of_length_eq_zero hl
    exact ⟨Rd.nil _ _ _, fun _ => rfl, Nat.le_refl _, Nat.zero_le _⟩
  · injection hv with h1 h2 h3
    subst h1 h3
    exact ⟨Rd.of_own h, (fun h => by cases h), hc, hm⟩
set_option maxRecDepth 100000 in
theorem own_some {w : World} {B n size : Nat} {e : TypeId} {v : Value} {xs : List Value} (h : w.ownsRow B e size v n xs) (hn : 0 < n) : ∃ g c, v = .slice (some ⟨g, 0, none⟩) n c := by
  rcases h.2 with ⟨_, h0⟩ | ⟨g, cap, cur, rfl, _⟩
  · omega
  · exact ⟨g, cap, rfl⟩
set_option maxRecDepth 100000 in
theorem box_cells {w w1 : World} {cs : Array Value} {t : TypeId} (b : Below (w.alloc (.cells cs t)).heap.size (w.alloc (.cells cs t)) w1) (j : Nat) (v : Value) (h : cs[j]? = some v) : w1.cell? ⟨w.heap.size, j, none⟩ = some v := by
  rw [b.cell (p := ⟨w.heap.size, j, none⟩) (by simp), cell_of_row (w.alloc (.cells cs t)) w.heap.size j cs t (0, 0) (heap_alloc_new w _)]
  exact h
set_option maxRecDepth 100000 in
theorem word_same (a : Int) : (wordE a == wordE a) = true := by simp
set_option maxRecDepth 100000 in
theorem info64 : (Tryd.prog.info? 40).map (fun i => (i.zero, i.size, i.bytes)) = some (some (.int .u64 0), 1, 8) := by kernel_rfl
set_option maxRecDepth 100000 in
theorem cells64 : Tryd.prog.cellsOf 40 = 1 := by kernel_rfl
set_option maxRecDepth 100000 in
theorem agg64 (w : World) : (isAgg 40).run Tryd.prog w = .ok false w := by kernel_rfl
set_option maxRecDepth 100000 in
theorem part64 (cs : Array Value) (k : Nat) (v : Value) (w : World) (h : cs[k]? = some v) : (part 40 cs k).run Tryd.prog w = .ok v w := by
  unfold part
  rw [Sem.run_bind, agg64, Result.andThen_ok]
  simp [h]
set_option maxRecDepth 100000 in
theorem eq6 (a0 a1 a2 a3 a4 a5 : Int) (w : World) : (Op.equalIn 9999 41 (.agg #[.int .u64 a0, .int .u64 a1, .int .u64 a2, .int .u64 a3, .int .u64 a4, .int .u64 a5]) (.agg #[.int .u64 a0, .int .u64 a1, .int .u64 a2, .int .u64 a3, .int .u64 a4, .int .u64 a5])).run Tryd.prog w = .ok true w := by
  obtain ⟨i0, hi, _, _, _⟩ := info_parts info64
  rw [show (9999 : Nat) = 9998 + 1 from rfl, run_equalIn_array w 9998 _ _ Tryd.underlying41 hi, cells64]
  simp only [List.range_succ, List.range_zero, List.nil_append, List.cons_append, Op.eqItems]
  have p0 := part64 #[.int .u64 a0, .int .u64 a1, .int .u64 a2, .int .u64 a3, .int .u64 a4, .int .u64 a5] 0 (.int .u64 a0) w rfl
  have p1 := part64 #[.int .u64 a0, .int .u64 a1, .int .u64 a2, .int .u64 a3, .int .u64 a4, .int .u64 a5] 1 (.int .u64 a1) w rfl
  have p2 := part64 #[.int .u64 a0, .int .u64 a1, .int .u64 a2, .int .u64 a3, .int .u64 a4, .int .u64 a5] 2 (.int .u64 a2) w rfl
  have p3 := part64 #[.int .u64 a0, .int .u64 a1, .int .u64 a2, .int .u64 a3, .int .u64 a4, .int .u64 a5] 3 (.int .u64 a3) w rfl
  have p4 := part64 #[.int .u64 a0, .int .u64 a1, .int .u64 a2, .int .u64 a3, .int .u64 a4, .int .u64 a5] 4 (.int .u64 a4) w rfl
  have p5 := part64 #[.int .u64 a0, .int .u64 a1, .int .u64 a2, .int .u64 a3, .int .u64 a4, .int .u64 a5] 5 (.int .u64 a5) w rfl
  have q := fun (a : Int) => run_equalIn_int w 9997 40 .u64 .u64 a a Tryd.underlying40
  simp [Sem.run_bind, p0, p1, p2, p3, p4, p5, q, Result.andThen]
set_option maxRecDepth 100000 in
theorem data_open {H : Type} {enc : TypeId × Value → H} {W : World} {r : Reach} {b0 : Nat} {v : Value} {x : DataW H} {p : List MemPlace} (hv : Value.okWide Tryd.prog W r b0 43 v)
    (h : DataW.Trod enc Tryd.prog W 0 (fun _ => true) true 43 v x p) : ∃ d : Dat, d.Ok ∧ v = datV d := by
  obtain ⟨cs, rfl, hsz⟩ := okWide_struct Tryd.underlying43 hv
  have hsz' : cs.size = 9 := hsz.trans (by kernel_rfl)
  obtain ⟨l⟩ := cs
  obtain ⟨fuel, hf⟩ := h
  obtain ⟨ys, n, rfl, hy, hlen, hyl, hel⟩ := DataW.trod_struct Tryd.underlying43 hf
  have c32 : Tryd.prog.cellsOf 36 = 1 := by kernel_rfl
  have c64 : Tryd.prog.cellsOf 40 = 1 := by kernel_rfl
  have c6 : Tryd.prog.cellsOf 41 = 6 := by kernel_rfl
  match l, hsz', ys, hyl with
  | [v0, v1, v2, v3, v4, v5, v6, v7, v8], _, [y0, y1, y2, y3], _ =>
    have f0 : DataW.trod enc Tryd.prog W 0 (fun _ => true) true n 36 [v0] = some y0 := by have := hel 0 _ rfl; exact this
    have f1 : DataW.trod enc Tryd.prog W 0 (fun _ => true) true n 36 [v1] = some y1 := by have := hel 1 _ rfl; exact this
    have f2 : DataW.trod enc Tryd.prog W 0 (fun _ => true) true n 40 [v2] = some y2 := by have := hel 2 _ rfl; exact this
    have f3 : DataW.trod enc Tryd.prog W 0 (fun _ => true) true n 41 [v3, v4, v5, v6, v7, v8] = some y3 := by have := hel 3 _ rfl; exact this
    obtain ⟨zs, m, rfl, _, _, hzl, hz⟩ := DataW.trod_array Tryd.underlying41 f3
    rw [c64] at hz
    match zs, hzl with
    | [u0, u1, u2, u3, u4, u5], _ =>
      obtain ⟨z0, e0, _, w0⟩ := DataW.trod_int Tryd.underlying36 f0
      obtain ⟨z1, e1, _, w1⟩ := DataW.trod_int Tryd.underlying36 f1
      obtain ⟨z2, e2, _, w2⟩ := DataW.trod_int Tryd.underlying40 f2
      obtain ⟨z3, e3, _, w3⟩ := DataW.trod_int Tryd.underlying40 (show DataW.trod enc Tryd.prog W 0 (fun _ => true) true m 40 [v3] = some u0 from hz 0 (by omega))
      obtain ⟨z4, e4, _, w4⟩ := DataW.trod_int Tryd.underlying40 (show DataW.trod enc Tryd.prog W 0 (fun _ => true) true m 40 [v4] = some u1 from hz 1 (by omega))
      obtain ⟨z5, e5, _, w5⟩ := DataW.trod_int Tryd.underlying40 (show DataW.trod enc Tryd.prog W 0 (fun _ => true) true m 40 [v5] = some u2 from hz 2 (by omega))
      obtain ⟨z6, e6, _, w6⟩ := DataW.trod_int Tryd.underlying40 (show DataW.trod enc Tryd.prog W 0 (fun _ => true) true m 40 [v6] = some u3 from hz 3 (by omega))
      obtain ⟨z7, e7, _, w7⟩ := DataW.trod_int Tryd.underlying40 (show DataW.trod enc Tryd.prog W 0 (fun _ => true) true m 40 [v7] = some u4 from hz 4 (by omega))
      obtain ⟨z8, e8, _, w8⟩ := DataW.trod_int Tryd.underlying40 (show DataW.trod enc Tryd.prog W 0 (fun _ => true) true m 40 [v8] = some u5 from hz 5 (by omega))
      simp at e0 e1 e2 e3 e4 e5 e6 e7 e8
      subst e0 e1 e2 e3 e4 e5 e6 e7 e8
      have b0 := bounds_u32 w0
      have b1 := bounds_u32 w1
      have b2 := bounds_u64 w2
      have b3 := bounds_u64 w3
      have b4 := bounds_u64 w4
      have b5 := bounds_u64 w5
      have b6 := bounds_u64 w6
      have b7 := bounds_u64 w7
      have b8 := bounds_u64 w8
      exact ⟨⟨z0, z1, z2, z3, z4, z5, z6, z7, z8⟩, ⟨by show 0 ≤ z0; omega, by show z0 < _; omega, by show 0 ≤ z1; omega, by show z1 < _; omega, by show 0 ≤ z2; omega, by show z2 < _; omega, by show 0 ≤ z3; omega, by show z3 < _; omega, by show 0 ≤ z4; omega, by show z4 < _; omega, by show 0 ≤ z5; omega, by show z5 < _; omega, by show 0 ≤ z6; omega, by show z6 < _; omega, by show 0 ≤ z7; omega, by show z7 < _; omega, by show 0 ≤ z8; omega, by show z8 < _; omega⟩, rfl⟩
end Go.Proofs.YthhfpehngdohhaaDoor
