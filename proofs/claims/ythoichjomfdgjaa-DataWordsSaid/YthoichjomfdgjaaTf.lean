/- What the calls of the landed package data return: Parse. Condition: a slice is as long as its capacity allows. -/
import Derived.Test.YthoichjomfdgjaaTe
namespace Go.Proofs.Ythoichjomfdgjaa
open Go.RowKit
set_option linter.unusedVariables false
attribute [local go_sem ↓] Go.wp_at_zero Go.wp_at_succ

theorem rangeOn {v w' : World} {b o : Nat} {cs : List Value} (hb : Below v.heap.size v w') (h : v.rangeAt b o cs) : w'.rangeAt b o cs := fun j u hu => by
  have := h j u hu
  exact (hb.cell (World.block_lt_of_cell? v _ this)).trans this
theorem keepU {w0 v w' : World} {T b : Nat} {x0 x1 : Int} {cs : List Value} {o1 o2 : Obj} (hb : Below v.heap.size v w') (h : v.cell? ⟨T, 0, none⟩ = some (.int .u32 x0) ∧ v.cell? ⟨T, 1, none⟩ = some (.int .u32 x1) ∧ v.rangeAt T 0 cs ∧ v.heap[T]? = some o1 ∧ v.heap[b]? = some o2 ∧ Below w0.heap.size w0 v) : w'.cell? ⟨T, 0, none⟩ = some (.int .u32 x0) ∧ w'.cell? ⟨T, 1, none⟩ = some (.int .u32 x1) ∧ w'.rangeAt T 0 cs ∧ w'.heap[T]? = some o1 ∧ w'.heap[b]? = some o2 ∧ Below w0.heap.size w0 w' :=
  ⟨(hb.cell (World.block_lt_of_cell? v _ h.1)).trans h.1, (hb.cell (World.block_lt_of_cell? v _ h.2.1)).trans h.2.1, rangeOn hb h.2.2.1, (hb.block _ (lt_of_block h.2.2.2.1)).trans h.2.2.2.1, (hb.block _ (lt_of_block h.2.2.2.2.1)).trans h.2.2.2.2.1, thn h.2.2.2.2.2 hb⟩
theorem alU {w0 v : World} {o : Obj} {T b : Nat} {x0 x1 : Int} {cs : List Value} {o1 o2 : Obj} (h : v.cell? ⟨T, 0, none⟩ = some (.int .u32 x0) ∧ v.cell? ⟨T, 1, none⟩ = some (.int .u32 x1) ∧ v.rangeAt T 0 cs ∧ v.heap[T]? = some o1 ∧ v.heap[b]? = some o2 ∧ Below w0.heap.size w0 v) : (v.alloc o).cell? ⟨T, 0, none⟩ = some (.int .u32 x0) ∧ (v.alloc o).cell? ⟨T, 1, none⟩ = some (.int .u32 x1) ∧ (v.alloc o).rangeAt T 0 cs ∧ (v.alloc o).heap[T]? = some o1 ∧ (v.alloc o).heap[b]? = some o2 ∧ Below w0.heap.size w0 (v.alloc o) := keepU ((Below.refl _ _).alloc (Nat.le_refl _) o) h
theorem alUd {w0 v : World} {o : Obj} {T b : Nat} {x0 x1 : Int} {cs : List Value} {o1 o2 : Obj} (h : v.drew.cell? ⟨T, 0, none⟩ = some (.int .u32 x0) ∧ v.drew.cell? ⟨T, 1, none⟩ = some (.int .u32 x1) ∧ v.drew.rangeAt T 0 cs ∧ v.drew.heap[T]? = some o1 ∧ v.drew.heap[b]? = some o2 ∧ Below w0.heap.size w0 v.drew) : (v.alloc o).drew.cell? ⟨T, 0, none⟩ = some (.int .u32 x0) ∧ (v.alloc o).drew.cell? ⟨T, 1, none⟩ = some (.int .u32 x1) ∧ (v.alloc o).drew.rangeAt T 0 cs ∧ (v.alloc o).drew.heap[T]? = some o1 ∧ (v.alloc o).drew.heap[b]? = some o2 ∧ Below w0.heap.size w0 (v.alloc o).drew := keepU (v := v.drew) (let b := (Below.refl v.heap.size v).alloc (Nat.le_refl _) o; ⟨b.os, b.tape, b.output, b.size, b.block⟩) h
theorem dwU {w0 v : World} {T b : Nat} {x0 x1 : Int} {cs : List Value} {o1 o2 : Obj} (h : v.cell? ⟨T, 0, none⟩ = some (.int .u32 x0) ∧ v.cell? ⟨T, 1, none⟩ = some (.int .u32 x1) ∧ v.rangeAt T 0 cs ∧ v.heap[T]? = some o1 ∧ v.heap[b]? = some o2 ∧ Below w0.heap.size w0 v) : v.drew.cell? ⟨T, 0, none⟩ = some (.int .u32 x0) ∧ v.drew.cell? ⟨T, 1, none⟩ = some (.int .u32 x1) ∧ v.drew.rangeAt T 0 cs ∧ v.drew.heap[T]? = some o1 ∧ v.drew.heap[b]? = some o2 ∧ Below w0.heap.size w0 v.drew := ⟨h.1, h.2.1, h.2.2.1, h.2.2.2.1, h.2.2.2.2.1, h.2.2.2.2.2.drew⟩
theorem setU {w0 v : World} {T b D j : Nat} {u : Value} {x0 x1 : Int} {cs : List Value} {o1 o2 : Obj} (hT : T ≠ D) (hb : b ≠ D) (hw : w0.heap.size ≤ D) (h : v.cell? ⟨T, 0, none⟩ = some (.int .u32 x0) ∧ v.cell? ⟨T, 1, none⟩ = some (.int .u32 x1) ∧ v.rangeAt T 0 cs ∧ v.heap[T]? = some o1 ∧ v.heap[b]? = some o2 ∧ Below w0.heap.size w0 v) : (v.setCell ⟨D, j, none⟩ u).cell? ⟨T, 0, none⟩ = some (.int .u32 x0) ∧ (v.setCell ⟨D, j, none⟩ u).cell? ⟨T, 1, none⟩ = some (.int .u32 x1) ∧ (v.setCell ⟨D, j, none⟩ u).rangeAt T 0 cs ∧ (v.setCell ⟨D, j, none⟩ u).heap[T]? = some o1 ∧ (v.setCell ⟨D, j, none⟩ u).heap[b]? = some o2 ∧ Below w0.heap.size w0 (v.setCell ⟨D, j, none⟩ u) := by
  have e : ∀ i, (v.setCell ⟨D, j, none⟩ u).cell? ⟨T, i, none⟩ = v.cell? ⟨T, i, none⟩ := fun i => World.cell?_setCell_other v _ _ u (fun e => hT (by injection e with e; first | exact e | exact e.symm))
  exact ⟨(e 0).trans h.1, (e 1).trans h.2.1, fun i x hx => (e _).trans (h.2.2.1 i x hx), (heap_setCell_other v _ T u hT).trans h.2.2.2.1, (heap_setCell_other v _ b u hb).trans h.2.2.2.2.1, h.2.2.2.2.2.setCell hw _⟩
theorem unU {w0 v : World} {o : Obj} {T b : Nat} {x0 x1 : Int} {cs : List Value} {o1 o2 : Obj} (hT : T < v.heap.size) (hb : b < v.heap.size) (hw : w0.heap.size ≤ v.heap.size) (h : (v.alloc o).cell? ⟨T, 0, none⟩ = some (.int .u32 x0) ∧ (v.alloc o).cell? ⟨T, 1, none⟩ = some (.int .u32 x1) ∧ (v.alloc o).rangeAt T 0 cs ∧ (v.alloc o).heap[T]? = some o1 ∧ (v.alloc o).heap[b]? = some o2 ∧ Below w0.heap.size w0 (v.alloc o)) : v.cell? ⟨T, 0, none⟩ = some (.int .u32 x0) ∧ v.cell? ⟨T, 1, none⟩ = some (.int .u32 x1) ∧ v.rangeAt T 0 cs ∧ v.heap[T]? = some o1 ∧ v.heap[b]? = some o2 ∧ Below w0.heap.size w0 v := by
  have e : ∀ i, (v.alloc o).cell? ⟨T, i, none⟩ = v.cell? ⟨T, i, none⟩ := fun i => World.cell?_alloc_lt v o ⟨T, i, none⟩ hT
  refine ⟨(e 0).symm.trans h.1, (e 1).symm.trans h.2.1, fun i x hx => (e _).symm.trans (h.2.2.1 i x hx), (Below.heap_alloc v o T hT).symm.trans h.2.2.2.1, (Below.heap_alloc v o b hb).symm.trans h.2.2.2.2.1, ?_⟩
  have hB := h.2.2.2.2.2
  exact ⟨hB.os, hB.tape, hB.output, hw, fun k hk => (Below.heap_alloc v o k (by omega)).symm.trans (hB.block k hk)⟩
/-- The table at T, the box at b, data in the making at D. -/
def PV (w0 v : World) (T b D : Nat) (x0 x1 : Int) (cs : List Value) (o1 o2 : Obj) (ds : List Value) (e : TypeId) : Prop :=
  (v.cell? ⟨T, 0, none⟩ = some (.int .u32 x0) ∧ v.cell? ⟨T, 1, none⟩ = some (.int .u32 x1) ∧ v.rangeAt T 0 cs ∧ v.heap[T]? = some o1 ∧ v.heap[b]? = some o2 ∧ Below w0.heap.size w0 v) ∧ v.heap[D]? = some (.cells ds.toArray e (0, 0)) ∧ T ≠ D ∧ b ≠ D ∧ w0.heap.size ≤ D
theorem PV.on {w0 v v' : World} {T b D : Nat} {x0 x1 : Int} {cs : List Value} {o1 o2 : Obj} {ds : List Value} {e : TypeId} (h : PV w0 v T b D x0 x1 cs o1 o2 ds e) (hb : Below v.heap.size v v') : PV w0 v' T b D x0 x1 cs o1 o2 ds e :=
  ⟨keepU hb h.1, (hb.block _ (lt_of_block h.2.1)).trans h.2.1, h.2.2⟩
theorem PV.set_ {w0 v : World} {T b D : Nat} {x0 x1 : Int} {cs : List Value} {o1 o2 : Obj} {ds : List Value} {e : TypeId} (h : PV w0 v T b D x0 x1 cs o1 o2 ds e) (k : Nat) (u : Value) : PV w0 (v.setCell ⟨D, k, none⟩ u) T b D x0 x1 cs o1 o2 (ds.set k u) e := by
  refine ⟨setU h.2.2.1 h.2.2.2.1 h.2.2.2.2 h.1, ?_, h.2.2⟩
  have := heap_setCell_same v D k ds.toArray e u h.2.1
  simpa using this
theorem PV.cell {w0 v : World} {T b D : Nat} {x0 x1 : Int} {cs : List Value} {o1 o2 : Obj} {ds : List Value} {e : TypeId} (h : PV w0 v T b D x0 x1 cs o1 o2 ds e) (k : Nat) (u : Value) (hk : ds[k]? = some u) : v.cell? ⟨D, k, none⟩ = some u := by
  rw [cell_of_row v D k _ _ (0, 0) h.2.1, List.getElem?_toArray]; exact hk
theorem PV.free {w0 v : World} {T b D : Nat} {x0 x1 : Int} {cs : List Value} {o1 o2 : Obj} {ds : List Value} {e : TypeId} (h : PV w0 v T b D x0 x1 cs o1 o2 ds e) (k : Nat) : v.frozen? ⟨D, k, none⟩ = false := frozen_of_row v D k _ _ h.2.1
theorem PV.new {w0 v : World} {T b : Nat} {x0 x1 : Int} {cs : List Value} {o1 o2 : Obj} {ds : List Value} {e : TypeId} (hT : T < v.heap.size) (hb : b < v.heap.size) (hw : w0.heap.size ≤ v.heap.size) (h : (v.alloc (.cells ds.toArray e)).cell? ⟨T, 0, none⟩ = some (.int .u32 x0) ∧ (v.alloc (.cells ds.toArray e)).cell? ⟨T, 1, none⟩ = some (.int .u32 x1) ∧ (v.alloc (.cells ds.toArray e)).rangeAt T 0 cs ∧ (v.alloc (.cells ds.toArray e)).heap[T]? = some o1 ∧ (v.alloc (.cells ds.toArray e)).heap[b]? = some o2 ∧ Below w0.heap.size w0 (v.alloc (.cells ds.toArray e))) : PV w0 (v.alloc (.cells ds.toArray e)) T b v.heap.size x0 x1 cs o1 o2 ds e :=
  ⟨h, heap_alloc_new v _, by omega, by omega, hw⟩
theorem set9 {v : World} {D : Nat} {e : TypeId} {u0 u1 u2 u3 u4 u5 u6 u7 u8 : Value} (v0 v1 v2 v3 v4 v5 v6 v7 v8 : Value) (h : v.heap[D]? = some (.cells #[u0, u1, u2, u3, u4, u5, u6, u7, u8] e (0, 0))) :
    ((((((((((v.setCell ⟨D, 0, none⟩ v0).setCell ⟨D, 1, none⟩ v1).setCell ⟨D, 2, none⟩ v2).setCell ⟨D, 3, none⟩ v3).setCell ⟨D, 4, none⟩ v4).setCell ⟨D, 5, none⟩ v5).setCell ⟨D, 6, none⟩ v6).setCell ⟨D, 7, none⟩ v7).setCell ⟨D, 8, none⟩ v8)).heap[D]? = some (.cells #[v0, v1, v2, v3, v4, v5, v6, v7, v8] e (0, 0)) := by
  have h1 : (v.setCell ⟨D, 0, none⟩ v0).heap[D]? = some (.cells #[v0, u1, u2, u3, u4, u5, u6, u7, u8] e (0, 0)) := by have := heap_setCell_same v D 0 #[u0, u1, u2, u3, u4, u5, u6, u7, u8] e v0 h; simpa using this
  have h2 : ((v.setCell ⟨D, 0, none⟩ v0).setCell ⟨D, 1, none⟩ v1).heap[D]? = some (.cells #[v0, v1, u2, u3, u4, u5, u6, u7, u8] e (0, 0)) := by have := heap_setCell_same (v.setCell ⟨D, 0, none⟩ v0) D 1 #[v0, u1, u2, u3, u4, u5, u6, u7, u8] e v1 h1; simpa using this
  have h3 : (((v.setCell ⟨D, 0, none⟩ v0).setCell ⟨D, 1, none⟩ v1).setCell ⟨D, 2, none⟩ v2).heap[D]? = some (.cells #[v0, v1, v2, u3, u4, u5, u6, u7, u8] e (0, 0)) := by have := heap_setCell_same ((v.setCell ⟨D, 0, none⟩ v0).setCell ⟨D, 1, none⟩ v1) D 2 #[v0, v1, u2, u3, u4, u5, u6, u7, u8] e v2 h2; simpa using this
  have h4 : ((((v.setCell ⟨D, 0, none⟩ v0).setCell ⟨D, 1, none⟩ v1).setCell ⟨D, 2, none⟩ v2).setCell ⟨D, 3, none⟩ v3).heap[D]? = some (.cells #[v0, v1, v2, v3, u4, u5, u6, u7, u8] e (0, 0)) := by have := heap_setCell_same (((v.setCell ⟨D, 0, none⟩ v0).setCell ⟨D, 1, none⟩ v1).setCell ⟨D, 2, none⟩ v2) D 3 #[v0, v1, v2, u3, u4, u5, u6, u7, u8] e v3 h3; simpa using this
  have h5 : (((((v.setCell ⟨D, 0, none⟩ v0).setCell ⟨D, 1, none⟩ v1).setCell ⟨D, 2, none⟩ v2).setCell ⟨D, 3, none⟩ v3).setCell ⟨D, 4, none⟩ v4).heap[D]? = some (.cells #[v0, v1, v2, v3, v4, u5, u6, u7, u8] e (0, 0)) := by have := heap_setCell_same ((((v.setCell ⟨D, 0, none⟩ v0).setCell ⟨D, 1, none⟩ v1).setCell ⟨D, 2, none⟩ v2).setCell ⟨D, 3, none⟩ v3) D 4 #[v0, v1, v2, v3, u4, u5, u6, u7, u8] e v4 h4; simpa using this
  have h6 : ((((((v.setCell ⟨D, 0, none⟩ v0).setCell ⟨D, 1, none⟩ v1).setCell ⟨D, 2, none⟩ v2).setCell ⟨D, 3, none⟩ v3).setCell ⟨D, 4, none⟩ v4).setCell ⟨D, 5, none⟩ v5).heap[D]? = some (.cells #[v0, v1, v2, v3, v4, v5, u6, u7, u8] e (0, 0)) := by have := heap_setCell_same (((((v.setCell ⟨D, 0, none⟩ v0).setCell ⟨D, 1, none⟩ v1).setCell ⟨D, 2, none⟩ v2).setCell ⟨D, 3, none⟩ v3).setCell ⟨D, 4, none⟩ v4) D 5 #[v0, v1, v2, v3, v4, u5, u6, u7, u8] e v5 h5; simpa using this
  have h7 : (((((((v.setCell ⟨D, 0, none⟩ v0).setCell ⟨D, 1, none⟩ v1).setCell ⟨D, 2, none⟩ v2).setCell ⟨D, 3, none⟩ v3).setCell ⟨D, 4, none⟩ v4).setCell ⟨D, 5, none⟩ v5).setCell ⟨D, 6, none⟩ v6).heap[D]? = some (.cells #[v0, v1, v2, v3, v4, v5, v6, u7, u8] e (0, 0)) := by have := heap_setCell_same ((((((v.setCell ⟨D, 0, none⟩ v0).setCell ⟨D, 1, none⟩ v1).setCell ⟨D, 2, none⟩ v2).setCell ⟨D, 3, none⟩ v3).setCell ⟨D, 4, none⟩ v4).setCell ⟨D, 5, none⟩ v5) D 6 #[v0, v1, v2, v3, v4, v5, u6, u7, u8] e v6 h6; simpa using this
  have h8 : ((((((((v.setCell ⟨D, 0, none⟩ v0).setCell ⟨D, 1, none⟩ v1).setCell ⟨D, 2, none⟩ v2).setCell ⟨D, 3, none⟩ v3).setCell ⟨D, 4, none⟩ v4).setCell ⟨D, 5, none⟩ v5).setCell ⟨D, 6, none⟩ v6).setCell ⟨D, 7, none⟩ v7).heap[D]? = some (.cells #[v0, v1, v2, v3, v4, v5, v6, v7, u8] e (0, 0)) := by have := heap_setCell_same (((((((v.setCell ⟨D, 0, none⟩ v0).setCell ⟨D, 1, none⟩ v1).setCell ⟨D, 2, none⟩ v2).setCell ⟨D, 3, none⟩ v3).setCell ⟨D, 4, none⟩ v4).setCell ⟨D, 5, none⟩ v5).setCell ⟨D, 6, none⟩ v6) D 7 #[v0, v1, v2, v3, v4, v5, v6, u7, u8] e v7 h7; simpa using this
  have h9 : (((((((((v.setCell ⟨D, 0, none⟩ v0).setCell ⟨D, 1, none⟩ v1).setCell ⟨D, 2, none⟩ v2).setCell ⟨D, 3, none⟩ v3).setCell ⟨D, 4, none⟩ v4).setCell ⟨D, 5, none⟩ v5).setCell ⟨D, 6, none⟩ v6).setCell ⟨D, 7, none⟩ v7).setCell ⟨D, 8, none⟩ v8).heap[D]? = some (.cells #[v0, v1, v2, v3, v4, v5, v6, v7, v8] e (0, 0)) := by have := heap_setCell_same ((((((((v.setCell ⟨D, 0, none⟩ v0).setCell ⟨D, 1, none⟩ v1).setCell ⟨D, 2, none⟩ v2).setCell ⟨D, 3, none⟩ v3).setCell ⟨D, 4, none⟩ v4).setCell ⟨D, 5, none⟩ v5).setCell ⟨D, 6, none⟩ v6).setCell ⟨D, 7, none⟩ v7) D 8 #[v0, v1, v2, v3, v4, v5, v6, v7, u8] e v8 h8; simpa using this
  exact h9
set_option maxRecDepth 100000 in
set_option maxHeartbeats 16000000 in
theorem parse_core (t0 t1 t2 t3 t4 t5 t6 t7 t8 t9 t10 t11 t12 t13 t14 t15 ip a0 a1 a2 a3 a4 a5 : Int) (p : Option Addr) (c : Nat) (xs : List Int) (w : World) (hr : Rd w w.heap.size p xs)
    (G0 : Hid (∀ W : World, Rd W w.heap.size p xs → Calls Try.prog 17 #[.slice p 64 c, .int .i64 0] W fun e w' => e = .returned (.tuple #[.int .u32 t0, .bool true]) ∧ W = w')) (G1 : Hid (∀ W : World, Rd W w.heap.size p xs → Calls Try.prog 17 #[.slice p 64 c, .int .i64 4] W fun e w' => e = .returned (.tuple #[.int .u32 t1, .bool true]) ∧ W = w')) (G2 : Hid (∀ W : World, Rd W w.heap.size p xs → Calls Try.prog 17 #[.slice p 64 c, .int .i64 8] W fun e w' => e = .returned (.tuple #[.int .u32 t2, .bool true]) ∧ W = w')) (G3 : Hid (∀ W : World, Rd W w.heap.size p xs → Calls Try.prog 17 #[.slice p 64 c, .int .i64 12] W fun e w' => e = .returned (.tuple #[.int .u32 t3, .bool true]) ∧ W = w')) (G4 : Hid (∀ W : World, Rd W w.heap.size p xs → Calls Try.prog 17 #[.slice p 64 c, .int .i64 16] W fun e w' => e = .returned (.tuple #[.int .u32 t4, .bool true]) ∧ W = w')) (G5 : Hid (∀ W : World, Rd W w.heap.size p xs → Calls Try.prog 17 #[.slice p 64 c, .int .i64 20] W fun e w' => e = .returned (.tuple #[.int .u32 t5, .bool true]) ∧ W = w')) (G6 : Hid (∀ W : World, Rd W w.heap.size p xs → Calls Try.prog 17 #[.slice p 64 c, .int .i64 24] W fun e w' => e = .returned (.tuple #[.int .u32 t6, .bool true]) ∧ W = w')) (G7 : Hid (∀ W : World, Rd W w.heap.size p xs → Calls Try.prog 17 #[.slice p 64 c, .int .i64 28] W fun e w' => e = .returned (.tuple #[.int .u32 t7, .bool true]) ∧ W = w')) (G8 : Hid (∀ W : World, Rd W w.heap.size p xs → Calls Try.prog 17 #[.slice p 64 c, .int .i64 32] W fun e w' => e = .returned (.tuple #[.int .u32 t8, .bool true]) ∧ W = w')) (G9 : Hid (∀ W : World, Rd W w.heap.size p xs → Calls Try.prog 17 #[.slice p 64 c, .int .i64 36] W fun e w' => e = .returned (.tuple #[.int .u32 t9, .bool true]) ∧ W = w')) (G10 : Hid (∀ W : World, Rd W w.heap.size p xs → Calls Try.prog 17 #[.slice p 64 c, .int .i64 40] W fun e w' => e = .returned (.tuple #[.int .u32 t10, .bool true]) ∧ W = w')) (G11 : Hid (∀ W : World, Rd W w.heap.size p xs → Calls Try.prog 17 #[.slice p 64 c, .int .i64 44] W fun e w' => e = .returned (.tuple #[.int .u32 t11, .bool true]) ∧ W = w')) (G12 : Hid (∀ W : World, Rd W w.heap.size p xs → Calls Try.prog 17 #[.slice p 64 c, .int .i64 48] W fun e w' => e = .returned (.tuple #[.int .u32 t12, .bool true]) ∧ W = w')) (G13 : Hid (∀ W : World, Rd W w.heap.size p xs → Calls Try.prog 17 #[.slice p 64 c, .int .i64 52] W fun e w' => e = .returned (.tuple #[.int .u32 t13, .bool true]) ∧ W = w')) (G14 : Hid (∀ W : World, Rd W w.heap.size p xs → Calls Try.prog 17 #[.slice p 64 c, .int .i64 56] W fun e w' => e = .returned (.tuple #[.int .u32 t14, .bool true]) ∧ W = w')) (G15 : Hid (∀ W : World, Rd W w.heap.size p xs → Calls Try.prog 17 #[.slice p 64 c, .int .i64 60] W fun e w' => e = .returned (.tuple #[.int .u32 t15, .bool true]) ∧ W = w'))
    (H2 : Hid (∀ W : World, Calls Try.prog 26 #[.agg #[.int .u32 t0, .int .u32 t1, .int .u32 t2, .int .u32 t3, .int .u32 t4, .int .u32 t5, .int .u32 t6, .int .u32 t7, .int .u32 t8, .int .u32 t9, .int .u32 t10, .int .u32 t11, .int .u32 t12, .int .u32 t13, .int .u32 t14, .int .u32 t15], .int .i64 2] W fun e w' => e = .returned (.int .u64 ip) ∧ Below W.heap.size W w')) (H4 : Hid (∀ W : World, Calls Try.prog 26 #[.agg #[.int .u32 t0, .int .u32 t1, .int .u32 t2, .int .u32 t3, .int .u32 t4, .int .u32 t5, .int .u32 t6, .int .u32 t7, .int .u32 t8, .int .u32 t9, .int .u32 t10, .int .u32 t11, .int .u32 t12, .int .u32 t13, .int .u32 t14, .int .u32 t15], .int .i64 4] W fun e w' => e = .returned (.int .u64 a0) ∧ Below W.heap.size W w')) (H6 : Hid (∀ W : World, Calls Try.prog 26 #[.agg #[.int .u32 t0, .int .u32 t1, .int .u32 t2, .int .u32 t3, .int .u32 t4, .int .u32 t5, .int .u32 t6, .int .u32 t7, .int .u32 t8, .int .u32 t9, .int .u32 t10, .int .u32 t11, .int .u32 t12, .int .u32 t13, .int .u32 t14, .int .u32 t15], .int .i64 6] W fun e w' => e = .returned (.int .u64 a1) ∧ Below W.heap.size W w')) (H8 : Hid (∀ W : World, Calls Try.prog 26 #[.agg #[.int .u32 t0, .int .u32 t1, .int .u32 t2, .int .u32 t3, .int .u32 t4, .int .u32 t5, .int .u32 t6, .int .u32 t7, .int .u32 t8, .int .u32 t9, .int .u32 t10, .int .u32 t11, .int .u32 t12, .int .u32 t13, .int .u32 t14, .int .u32 t15], .int .i64 8] W fun e w' => e = .returned (.int .u64 a2) ∧ Below W.heap.size W w')) (H10 : Hid (∀ W : World, Calls Try.prog 26 #[.agg #[.int .u32 t0, .int .u32 t1, .int .u32 t2, .int .u32 t3, .int .u32 t4, .int .u32 t5, .int .u32 t6, .int .u32 t7, .int .u32 t8, .int .u32 t9, .int .u32 t10, .int .u32 t11, .int .u32 t12, .int .u32 t13, .int .u32 t14, .int .u32 t15], .int .i64 10] W fun e w' => e = .returned (.int .u64 a3) ∧ Below W.heap.size W w')) (H12 : Hid (∀ W : World, Calls Try.prog 26 #[.agg #[.int .u32 t0, .int .u32 t1, .int .u32 t2, .int .u32 t3, .int .u32 t4, .int .u32 t5, .int .u32 t6, .int .u32 t7, .int .u32 t8, .int .u32 t9, .int .u32 t10, .int .u32 t11, .int .u32 t12, .int .u32 t13, .int .u32 t14, .int .u32 t15], .int .i64 12] W fun e w' => e = .returned (.int .u64 a4) ∧ Below W.heap.size W w')) (H14 : Hid (∀ W : World, Calls Try.prog 26 #[.agg #[.int .u32 t0, .int .u32 t1, .int .u32 t2, .int .u32 t3, .int .u32 t4, .int .u32 t5, .int .u32 t6, .int .u32 t7, .int .u32 t8, .int .u32 t9, .int .u32 t10, .int .u32 t11, .int .u32 t12, .int .u32 t13, .int .u32 t14, .int .u32 t15], .int .i64 14] W fun e w' => e = .returned (.int .u64 a5) ∧ Below W.heap.size W w')) :
    Calls Try.prog 13 #[.slice p 64 c] w fun e w' => e = .returned (.tuple #[.agg #[.int .u32 t0, .int .u32 t1, .int .u64 ip, .int .u64 a0, .int .u64 a1, .int .u64 a2, .int .u64 a3, .int .u64 a4, .int .u64 a5], .int .i64 0]) ∧ Below w.heap.size w w' := by
  have HR := Lib.hid (fun (W : World) (hb : Below w.heap.size w W) => hr.below hb (Nat.le_refl _))
  obtain ⟨W, hW⟩ : ∃ W, W = (w.alloc (.cells #[.int .u32 0, .int .u32 0, .int .u64 0, .int .u64 0, .int .u64 0, .int .u64 0, .int .u64 0, .int .u64 0, .int .u64 0] 26)).alloc (.cells #[.int .u32 t0, .int .u32 t1, .int .u32 t2, .int .u32 t3, .int .u32 t4, .int .u32 t5, .int .u32 t6, .int .u32 t7, .int .u32 t8, .int .u32 t9, .int .u32 t10, .int .u32 t11, .int .u32 t12, .int .u32 t13, .int .u32 t14, .int .u32 t15] 50) := ⟨_, rfl⟩
  have hS : W.cell? ⟨w.heap.size + 1, 0, none⟩ = some (.int .u32 t0) ∧ W.cell? ⟨w.heap.size + 1, 1, none⟩ = some (.int .u32 t1) ∧ W.rangeAt (w.heap.size + 1) 0 [Value.int .u32 t0, Value.int .u32 t1, Value.int .u32 t2, Value.int .u32 t3, Value.int .u32 t4, Value.int .u32 t5, Value.int .u32 t6, Value.int .u32 t7, Value.int .u32 t8, Value.int .u32 t9, Value.int .u32 t10, Value.int .u32 t11, Value.int .u32 t12, Value.int .u32 t13, Value.int .u32 t14, Value.int .u32 t15] ∧ W.heap[w.heap.size + 1]? = some (.cells #[.int .u32 t0, .int .u32 t1, .int .u32 t2, .int .u32 t3, .int .u32 t4, .int .u32 t5, .int .u32 t6, .int .u32 t7, .int .u32 t8, .int .u32 t9, .int .u32 t10, .int .u32 t11, .int .u32 t12, .int .u32 t13, .int .u32 t14, .int .u32 t15] 50 (0, 0)) ∧ W.heap[w.heap.size]? = some (.cells #[.int .u32 0, .int .u32 0, .int .u64 0, .int .u64 0, .int .u64 0, .int .u64 0, .int .u64 0, .int .u64 0, .int .u64 0] 26 (0, 0)) ∧ Below w.heap.size w W := by
    rw [hW]
    have e1 := heap_alloc_new w (.cells #[.int .u32 0, .int .u32 0, .int .u64 0, .int .u64 0, .int .u64 0, .int .u64 0, .int .u64 0, .int .u64 0, .int .u64 0] 26)
    have e2 := heap_alloc_new (w.alloc (.cells #[.int .u32 0, .int .u32 0, .int .u64 0, .int .u64 0, .int .u64 0, .int .u64 0, .int .u64 0, .int .u64 0, .int .u64 0] 26)) (.cells #[.int .u32 t0, .int .u32 t1, .int .u32 t2, .int .u32 t3, .int .u32 t4, .int .u32 t5, .int .u32 t6, .int .u32 t7, .int .u32 t8, .int .u32 t9, .int .u32 t10, .int .u32 t11, .int .u32 t12, .int .u32 t13, .int .u32 t14, .int .u32 t15] 50)
    rw [World.size_alloc] at e2
    have f1 := (Below.heap_alloc (w.alloc (.cells #[.int .u32 0, .int .u32 0, .int .u64 0, .int .u64 0, .int .u64 0, .int .u64 0, .int .u64 0, .int .u64 0, .int .u64 0] 26)) (.cells #[.int .u32 t0, .int .u32 t1, .int .u32 t2, .int .u32 t3, .int .u32 t4, .int .u32 t5, .int .u32 t6, .int .u32 t7, .int .u32 t8, .int .u32 t9, .int .u32 t10, .int .u32 t11, .int .u32 t12, .int .u32 t13, .int .u32 t14, .int .u32 t15] 50) w.heap.size (by simp)).trans e1
    exact ⟨(cell_of_row _ _ 0 _ _ (0, 0) e2).trans rfl, (cell_of_row _ _ 1 _ _ (0, 0) e2).trans rfl, World.rangeAt_of_block e2 0 16, e2, f1, ((Below.refl _ _).alloc (Nat.le_refl _) _).alloc (by simp) _⟩
  have HS := Lib.hid hS
  clear hr hS
  go_enter Try.func13, Try.ntmps13
  go_wp2_with fail
  refine wp_loop_rounds 17 ?_
  rw [rounds_succ]
  go_wp2_with (go_at_call 17; (with_reducible refine (G0.out _ ?_).mono ?_); exact HR.out _ (((Below.refl _ _).alloc (Nat.le_refl _) _).alloc (by simp) _); rintro e w' ⟨rfl, rfl⟩)
  rw [rounds_succ]
  go_wp2_with (go_at_call 17; (with_reducible refine (G1.out _ ?_).mono ?_); exact HR.out _ (((Below.refl _ _).alloc (Nat.le_refl _) _).alloc (by simp) _); rintro e w' ⟨rfl, rfl⟩)
  rw [rounds_succ]
  go_wp2_with (go_at_call 17; (with_reducible refine (G2.out _ ?_).mono ?_); exact HR.out _ (((Below.refl _ _).alloc (Nat.le_refl _) _).alloc (by simp) _); rintro e w' ⟨rfl, rfl⟩)
  rw [rounds_succ]
  go_wp2_with (go_at_call 17; (with_reducible refine (G3.out _ ?_).mono ?_); exact HR.out _ (((Below.refl _ _).alloc (Nat.le_refl _) _).alloc (by simp) _); rintro e w' ⟨rfl, rfl⟩)
  rw [rounds_succ]
  go_wp2_with (go_at_call 17; (with_reducible refine (G4.out _ ?_).mono ?_); exact HR.out _ (((Below.refl _ _).alloc (Nat.le_refl _) _).alloc (by simp) _); rintro e w' ⟨rfl, rfl⟩)
  rw [rounds_succ]
  go_wp2_with (go_at_call 17; (with_reducible refine (G5.out _ ?_).mono ?_); exact HR.out _ (((Below.refl _ _).alloc (Nat.le_refl _) _).alloc (by simp) _); rintro e w' ⟨rfl, rfl⟩)
  rw [rounds_succ]
  go_wp2_with (go_at_call 17; (with_reducible refine (G6.out _ ?_).mono ?_); exact HR.out _ (((Below.refl _ _).alloc (Nat.le_refl _) _).alloc (by simp) _); rintro e w' ⟨rfl, rfl⟩)
  rw [rounds_succ]
  go_wp2_with (go_at_call 17; (with_reducible refine (G7.out _ ?_).mono ?_); exact HR.out _ (((Below.refl _ _).alloc (Nat.le_refl _) _).alloc (by simp) _); rintro e w' ⟨rfl, rfl⟩)
  rw [rounds_succ]
  go_wp2_with (go_at_call 17; (with_reducible refine (G8.out _ ?_).mono ?_); exact HR.out _ (((Below.refl _ _).alloc (Nat.le_refl _) _).alloc (by simp) _); rintro e w' ⟨rfl, rfl⟩)
  rw [rounds_succ]
  go_wp2_with (go_at_call 17; (with_reducible refine (G9.out _ ?_).mono ?_); exact HR.out _ (((Below.refl _ _).alloc (Nat.le_refl _) _).alloc (by simp) _); rintro e w' ⟨rfl, rfl⟩)
  rw [rounds_succ]
  go_wp2_with (go_at_call 17; (with_reducible refine (G10.out _ ?_).mono ?_); exact HR.out _ (((Below.refl _ _).alloc (Nat.le_refl _) _).alloc (by simp) _); rintro e w' ⟨rfl, rfl⟩)
  rw [rounds_succ]
  go_wp2_with (go_at_call 17; (with_reducible refine (G11.out _ ?_).mono ?_); exact HR.out _ (((Below.refl _ _).alloc (Nat.le_refl _) _).alloc (by simp) _); rintro e w' ⟨rfl, rfl⟩)
  rw [rounds_succ]
  go_wp2_with (go_at_call 17; (with_reducible refine (G12.out _ ?_).mono ?_); exact HR.out _ (((Below.refl _ _).alloc (Nat.le_refl _) _).alloc (by simp) _); rintro e w' ⟨rfl, rfl⟩)
  rw [rounds_succ]
  go_wp2_with (go_at_call 17; (with_reducible refine (G13.out _ ?_).mono ?_); exact HR.out _ (((Below.refl _ _).alloc (Nat.le_refl _) _).alloc (by simp) _); rintro e w' ⟨rfl, rfl⟩)
  rw [rounds_succ]
  go_wp2_with (go_at_call 17; (with_reducible refine (G14.out _ ?_).mono ?_); exact HR.out _ (((Below.refl _ _).alloc (Nat.le_refl _) _).alloc (by simp) _); rintro e w' ⟨rfl, rfl⟩)
  rw [rounds_succ]
  go_wp2_with (go_at_call 17; (with_reducible refine (G15.out _ ?_).mono ?_); exact HR.out _ (((Below.refl _ _).alloc (Nat.le_refl _) _).alloc (by simp) _); rintro e w' ⟨rfl, rfl⟩)
  rw [rounds_succ]
  go_wp2_with fail
  rw [← hW]
  have hzW : w.heap.size + 1 < W.heap.size := lt_of_block HS.out.2.2.2.1
  have hu := Try.underlying50
  have hi : (Try.prog.info? 50).map (·.size) = some [Value.int .u32 t0, Value.int .u32 t1, Value.int .u32 t2, Value.int .u32 t3, Value.int .u32 t4, Value.int .u32 t5, Value.int .u32 t6, Value.int .u32 t7, Value.int .u32 t8, Value.int .u32 t9, Value.int .u32 t10, Value.int .u32 t11, Value.int .u32 t12, Value.int .u32 t13, Value.int .u32 t14, Value.int .u32 t15].length := by kernel_rfl
  clear hW G0 G1 G2 G3 G4 G5 G6 G7 G8 G9 G10 G11 G12 G13 G14 G15 HR
  go_region_held3 (fun w' => w'.cell? ⟨w.heap.size + 1, 0, none⟩ = some (.int .u32 t0) ∧ w'.cell? ⟨w.heap.size + 1, 1, none⟩ = some (.int .u32 t1) ∧ w'.rangeAt (w.heap.size + 1) 0 [Value.int .u32 t0, Value.int .u32 t1, Value.int .u32 t2, Value.int .u32 t3, Value.int .u32 t4, Value.int .u32 t5, Value.int .u32 t6, Value.int .u32 t7, Value.int .u32 t8, Value.int .u32 t9, Value.int .u32 t10, Value.int .u32 t11, Value.int .u32 t12, Value.int .u32 t13, Value.int .u32 t14, Value.int .u32 t15] ∧ w'.heap[w.heap.size + 1]? = some (.cells #[.int .u32 t0, .int .u32 t1, .int .u32 t2, .int .u32 t3, .int .u32 t4, .int .u32 t5, .int .u32 t6, .int .u32 t7, .int .u32 t8, .int .u32 t9, .int .u32 t10, .int .u32 t11, .int .u32 t12, .int .u32 t13, .int .u32 t14, .int .u32 t15] 50 (0, 0)) ∧ w'.heap[w.heap.size]? = some (.cells #[.int .u32 0, .int .u32 0, .int .u64 0, .int .u64 0, .int .u64 0, .int .u64 0, .int .u64 0, .int .u64 0, .int .u64 0] 26 (0, 0)) ∧ Below w.heap.size w w')
    (first | with_reducible assumption | (with_reducible exact dwU HS.out) | ((with_reducible refine alUd ?_); assumption) | ((with_reducible refine alU ?_); assumption) | ((with_reducible refine setU (by omega) (by omega) (by omega) ?_); (repeat (with_reducible refine setU (by omega) (by omega) (by omega) ?_)); assumption) | ((with_reducible refine keepU b3 ?_); assumption) | ((with_reducible apply alU); (with_reducible apply unU) <;> first | omega | assumption)) (first
    | (go_at_call 26; ((with_reducible refine (H2.out _).mono ?_); rintro e w3 ⟨rfl, b3⟩); have hz3 : w.heap.size + 1 < w3.heap.size := (by have := b3.size; first | omega | (simp only [World.size_alloc] at this; omega) | (simp at this; omega)); (first | (have hD := (b3.block W.heap.size (by simp)).trans (heap_alloc_new W _); have fD := (fun i => frozen_of_row w3 W.heap.size i _ _ hD); have y0 := (cell_of_row w3 W.heap.size 0 _ _ (0, 0) hD).trans rfl; have y1 := (cell_of_row w3 W.heap.size 1 _ _ (0, 0) hD).trans rfl; have y2 := (cell_of_row w3 W.heap.size 2 _ _ (0, 0) hD).trans rfl; have y3 := (cell_of_row w3 W.heap.size 3 _ _ (0, 0) hD).trans rfl; have y4 := (cell_of_row w3 W.heap.size 4 _ _ (0, 0) hD).trans rfl; have y5 := (cell_of_row w3 W.heap.size 5 _ _ (0, 0) hD).trans rfl; have y6 := (cell_of_row w3 W.heap.size 6 _ _ (0, 0) hD).trans rfl; have y7 := (cell_of_row w3 W.heap.size 7 _ _ (0, 0) hD).trans rfl; have y8 := (cell_of_row w3 W.heap.size 8 _ _ (0, 0) hD).trans rfl) | skip)))
  · have hn := PV.new (ds := [.int .u32 t0, .int .u32 t1, .int .u64 ip, .int .u64 0, .int .u64 0, .int .u64 0, .int .u64 0, .int .u64 0, .int .u64 0]) (by omega) (by omega) (by omega) (by assumption : (w3.alloc (.cells #[.int .u32 t0, .int .u32 t1, .int .u64 ip, .int .u64 0, .int .u64 0, .int .u64 0, .int .u64 0, .int .u64 0, .int .u64 0] 26)).cell? ⟨w.heap.size + 1, 0, none⟩ = some (.int .u32 t0) ∧ (w3.alloc (.cells #[.int .u32 t0, .int .u32 t1, .int .u64 ip, .int .u64 0, .int .u64 0, .int .u64 0, .int .u64 0, .int .u64 0, .int .u64 0] 26)).cell? ⟨w.heap.size + 1, 1, none⟩ = some (.int .u32 t1) ∧ (w3.alloc (.cells #[.int .u32 t0, .int .u32 t1, .int .u64 ip, .int .u64 0, .int .u64 0, .int .u64 0, .int .u64 0, .int .u64 0, .int .u64 0] 26)).rangeAt (w.heap.size + 1) 0 [Value.int .u32 t0, Value.int .u32 t1, Value.int .u32 t2, Value.int .u32 t3, Value.int .u32 t4, Value.int .u32 t5, Value.int .u32 t6, Value.int .u32 t7, Value.int .u32 t8, Value.int .u32 t9, Value.int .u32 t10, Value.int .u32 t11, Value.int .u32 t12, Value.int .u32 t13, Value.int .u32 t14, Value.int .u32 t15] ∧ (w3.alloc (.cells #[.int .u32 t0, .int .u32 t1, .int .u64 ip, .int .u64 0, .int .u64 0, .int .u64 0, .int .u64 0, .int .u64 0, .int .u64 0] 26)).heap[w.heap.size + 1]? = some (.cells #[.int .u32 t0, .int .u32 t1, .int .u32 t2, .int .u32 t3, .int .u32 t4, .int .u32 t5, .int .u32 t6, .int .u32 t7, .int .u32 t8, .int .u32 t9, .int .u32 t10, .int .u32 t11, .int .u32 t12, .int .u32 t13, .int .u32 t14, .int .u32 t15] 50 (0, 0)) ∧ (w3.alloc (.cells #[.int .u32 t0, .int .u32 t1, .int .u64 ip, .int .u64 0, .int .u64 0, .int .u64 0, .int .u64 0, .int .u64 0, .int .u64 0] 26)).heap[w.heap.size]? = some (.cells #[.int .u32 0, .int .u32 0, .int .u64 0, .int .u64 0, .int .u64 0, .int .u64 0, .int .u64 0, .int .u64 0, .int .u64 0] 26 (0, 0)) ∧ Below w.heap.size w (w3.alloc (.cells #[.int .u32 t0, .int .u32 t1, .int .u64 ip, .int .u64 0, .int .u64 0, .int .u64 0, .int .u64 0, .int .u64 0, .int .u64 0] 26)))
    obtain ⟨V0, hVe⟩ : ∃ V, V = w3.alloc (.cells #[.int .u32 t0, .int .u32 t1, .int .u64 ip, .int .u64 0, .int .u64 0, .int .u64 0, .int .u64 0, .int .u64 0, .int .u64 0] 26) := ⟨_, rfl⟩
    obtain ⟨D, hDe⟩ : ∃ D, D = w3.heap.size := ⟨_, rfl⟩
    have hn0 : PV w V0 (w.heap.size + 1) w.heap.size D t0 t1 [Value.int .u32 t0, Value.int .u32 t1, Value.int .u32 t2, Value.int .u32 t3, Value.int .u32 t4, Value.int .u32 t5, Value.int .u32 t6, Value.int .u32 t7, Value.int .u32 t8, Value.int .u32 t9, Value.int .u32 t10, Value.int .u32 t11, Value.int .u32 t12, Value.int .u32 t13, Value.int .u32 t14, Value.int .u32 t15] (.cells #[.int .u32 t0, .int .u32 t1, .int .u32 t2, .int .u32 t3, .int .u32 t4, .int .u32 t5, .int .u32 t6, .int .u32 t7, .int .u32 t8, .int .u32 t9, .int .u32 t10, .int .u32 t11, .int .u32 t12, .int .u32 t13, .int .u32 t14, .int .u32 t15] 50 (0, 0)) (.cells #[.int .u32 0, .int .u32 0, .int .u64 0, .int .u64 0, .int .u64 0, .int .u64 0, .int .u64 0, .int .u64 0, .int .u64 0] 26 (0, 0)) [.int .u32 t0, .int .u32 t1, .int .u64 ip, .int .u64 0, .int .u64 0, .int .u64 0, .int .u64 0, .int .u64 0, .int .u64 0] 26 := by rw [hVe, hDe]; exact hn
    rw [← hVe, ← hDe]
    clear hn hVe hDe HS b3 hz3 hzW H2
    have hrg0 := hn0.1.2.2.1
    have HU := Lib.hid hu
    have HI := Lib.hid hi
    clear hu hi
    go_wp2_with fail
    refine wp_loop_rounds 7 ?_
    rw [rounds_succ]
    go_wp2_with (first
      | ((with_reducible show wpList _ _ _ (⟨some 36, _, _, _, _, _⟩ :: _) _ _)
         refine wpList_load_mid rfl _ _ rfl (w.heap.size + 1) 0 rfl [Value.int .u32 t0, Value.int .u32 t1, Value.int .u32 t2, Value.int .u32 t3, Value.int .u32 t4, Value.int .u32 t5, Value.int .u32 t6, Value.int .u32 t7, Value.int .u32 t8, Value.int .u32 t9, Value.int .u32 t10, Value.int .u32 t11, Value.int .u32 t12, Value.int .u32 t13, Value.int .u32 t14, Value.int .u32 t15] _ hrg0 HU.out rfl HI.out ?_)
      | (go_at_call 26; ((with_reducible refine (H4.out _).mono ?_); rintro e v0 ⟨rfl, d0⟩); have pn0 := hn0.on d0; have y0 := pn0.cell 3 _ rfl; have f0 := pn0.free 3))
    have qn0 := pn0.set_ 3 (.int .u64 a0)
    obtain ⟨V1, hV1⟩ : ∃ V', V' = v0.setCell ⟨D, 3, none⟩ (.int .u64 a0) := ⟨_, rfl⟩
    have hn1 : PV w V1 (w.heap.size + 1) w.heap.size D t0 t1 [Value.int .u32 t0, Value.int .u32 t1, Value.int .u32 t2, Value.int .u32 t3, Value.int .u32 t4, Value.int .u32 t5, Value.int .u32 t6, Value.int .u32 t7, Value.int .u32 t8, Value.int .u32 t9, Value.int .u32 t10, Value.int .u32 t11, Value.int .u32 t12, Value.int .u32 t13, Value.int .u32 t14, Value.int .u32 t15] (.cells #[.int .u32 t0, .int .u32 t1, .int .u32 t2, .int .u32 t3, .int .u32 t4, .int .u32 t5, .int .u32 t6, .int .u32 t7, .int .u32 t8, .int .u32 t9, .int .u32 t10, .int .u32 t11, .int .u32 t12, .int .u32 t13, .int .u32 t14, .int .u32 t15] 50 (0, 0)) (.cells #[.int .u32 0, .int .u32 0, .int .u64 0, .int .u64 0, .int .u64 0, .int .u64 0, .int .u64 0, .int .u64 0, .int .u64 0] 26 (0, 0)) [.int .u32 t0, .int .u32 t1, .int .u64 ip, .int .u64 a0, .int .u64 0, .int .u64 0, .int .u64 0, .int .u64 0, .int .u64 0] 26 := by rw [hV1]; exact qn0
    rw [← hV1]
    have hrg1 := hn1.1.2.2.1
    clear qn0 pn0 y0 f0 d0 hV1 hn0 hrg0 H4
    rw [rounds_succ]
    go_wp2_with (first
      | ((with_reducible show wpList _ _ _ (⟨some 36, _, _, _, _, _⟩ :: _) _ _)
         refine wpList_load_mid rfl _ _ rfl (w.heap.size + 1) 0 rfl [Value.int .u32 t0, Value.int .u32 t1, Value.int .u32 t2, Value.int .u32 t3, Value.int .u32 t4, Value.int .u32 t5, Value.int .u32 t6, Value.int .u32 t7, Value.int .u32 t8, Value.int .u32 t9, Value.int .u32 t10, Value.int .u32 t11, Value.int .u32 t12, Value.int .u32 t13, Value.int .u32 t14, Value.int .u32 t15] _ hrg1 HU.out rfl HI.out ?_)
      | (go_at_call 26; ((with_reducible refine (H6.out _).mono ?_); rintro e v1 ⟨rfl, d1⟩); have pn1 := hn1.on d1; have y1 := pn1.cell 4 _ rfl; have f1 := pn1.free 4))
    have qn1 := pn1.set_ 4 (.int .u64 a1)
    obtain ⟨V2, hV2⟩ : ∃ V', V' = v1.setCell ⟨D, 4, none⟩ (.int .u64 a1) := ⟨_, rfl⟩
    have hn2 : PV w V2 (w.heap.size + 1) w.heap.size D t0 t1 [Value.int .u32 t0, Value.int .u32 t1, Value.int .u32 t2, Value.int .u32 t3, Value.int .u32 t4, Value.int .u32 t5, Value.int .u32 t6, Value.int .u32 t7, Value.int .u32 t8, Value.int .u32 t9, Value.int .u32 t10, Value.int .u32 t11, Value.int .u32 t12, Value.int .u32 t13, Value.int .u32 t14, Value.int .u32 t15] (.cells #[.int .u32 t0, .int .u32 t1, .int .u32 t2, .int .u32 t3, .int .u32 t4, .int .u32 t5, .int .u32 t6, .int .u32 t7, .int .u32 t8, .int .u32 t9, .int .u32 t10, .int .u32 t11, .int .u32 t12, .int .u32 t13, .int .u32 t14, .int .u32 t15] 50 (0, 0)) (.cells #[.int .u32 0, .int .u32 0, .int .u64 0, .int .u64 0, .int .u64 0, .int .u64 0, .int .u64 0, .int .u64 0, .int .u64 0] 26 (0, 0)) [.int .u32 t0, .int .u32 t1, .int .u64 ip, .int .u64 a0, .int .u64 a1, .int .u64 0, .int .u64 0, .int .u64 0, .int .u64 0] 26 := by rw [hV2]; exact qn1
    rw [← hV2]
    have hrg2 := hn2.1.2.2.1
    clear qn1 pn1 y1 f1 d1 hV2 hn1 hrg1 H6
    rw [rounds_succ]
    go_wp2_with (first
      | ((with_reducible show wpList _ _ _ (⟨some 36, _, _, _, _, _⟩ :: _) _ _)
         refine wpList_load_mid rfl _ _ rfl (w.heap.size + 1) 0 rfl [Value.int .u32 t0, Value.int .u32 t1, Value.int .u32 t2, Value.int .u32 t3, Value.int .u32 t4, Value.int .u32 t5, Value.int .u32 t6, Value.int .u32 t7, Value.int .u32 t8, Value.int .u32 t9, Value.int .u32 t10, Value.int .u32 t11, Value.int .u32 t12, Value.int .u32 t13, Value.int .u32 t14, Value.int .u32 t15] _ hrg2 HU.out rfl HI.out ?_)
      | (go_at_call 26; ((with_reducible refine (H8.out _).mono ?_); rintro e v2 ⟨rfl, d2⟩); have pn2 := hn2.on d2; have y2 := pn2.cell 5 _ rfl; have f2 := pn2.free 5))
    have qn2 := pn2.set_ 5 (.int .u64 a2)
    obtain ⟨V3, hV3⟩ : ∃ V', V' = v2.setCell ⟨D, 5, none⟩ (.int .u64 a2) := ⟨_, rfl⟩
    have hn3 : PV w V3 (w.heap.size + 1) w.heap.size D t0 t1 [Value.int .u32 t0, Value.int .u32 t1, Value.int .u32 t2, Value.int .u32 t3, Value.int .u32 t4, Value.int .u32 t5, Value.int .u32 t6, Value.int .u32 t7, Value.int .u32 t8, Value.int .u32 t9, Value.int .u32 t10, Value.int .u32 t11, Value.int .u32 t12, Value.int .u32 t13, Value.int .u32 t14, Value.int .u32 t15] (.cells #[.int .u32 t0, .int .u32 t1, .int .u32 t2, .int .u32 t3, .int .u32 t4, .int .u32 t5, .int .u32 t6, .int .u32 t7, .int .u32 t8, .int .u32 t9, .int .u32 t10, .int .u32 t11, .int .u32 t12, .int .u32 t13, .int .u32 t14, .int .u32 t15] 50 (0, 0)) (.cells #[.int .u32 0, .int .u32 0, .int .u64 0, .int .u64 0, .int .u64 0, .int .u64 0, .int .u64 0, .int .u64 0, .int .u64 0] 26 (0, 0)) [.int .u32 t0, .int .u32 t1, .int .u64 ip, .int .u64 a0, .int .u64 a1, .int .u64 a2, .int .u64 0, .int .u64 0, .int .u64 0] 26 := by rw [hV3]; exact qn2
    rw [← hV3]
    have hrg3 := hn3.1.2.2.1
    clear qn2 pn2 y2 f2 d2 hV3 hn2 hrg2 H8
    rw [rounds_succ]
    go_wp2_with (first
      | ((with_reducible show wpList _ _ _ (⟨some 36, _, _, _, _, _⟩ :: _) _ _)
         refine wpList_load_mid rfl _ _ rfl (w.heap.size + 1) 0 rfl [Value.int .u32 t0, Value.int .u32 t1, Value.int .u32 t2, Value.int .u32 t3, Value.int .u32 t4, Value.int .u32 t5, Value.int .u32 t6, Value.int .u32 t7, Value.int .u32 t8, Value.int .u32 t9, Value.int .u32 t10, Value.int .u32 t11, Value.int .u32 t12, Value.int .u32 t13, Value.int .u32 t14, Value.int .u32 t15] _ hrg3 HU.out rfl HI.out ?_)
      | (go_at_call 26; ((with_reducible refine (H10.out _).mono ?_); rintro e v3 ⟨rfl, d3⟩); have pn3 := hn3.on d3; have y3 := pn3.cell 6 _ rfl; have f3 := pn3.free 6))
    have qn3 := pn3.set_ 6 (.int .u64 a3)
    obtain ⟨V4, hV4⟩ : ∃ V', V' = v3.setCell ⟨D, 6, none⟩ (.int .u64 a3) := ⟨_, rfl⟩
    have hn4 : PV w V4 (w.heap.size + 1) w.heap.size D t0 t1 [Value.int .u32 t0, Value.int .u32 t1, Value.int .u32 t2, Value.int .u32 t3, Value.int .u32 t4, Value.int .u32 t5, Value.int .u32 t6, Value.int .u32 t7, Value.int .u32 t8, Value.int .u32 t9, Value.int .u32 t10, Value.int .u32 t11, Value.int .u32 t12, Value.int .u32 t13, Value.int .u32 t14, Value.int .u32 t15] (.cells #[.int .u32 t0, .int .u32 t1, .int .u32 t2, .int .u32 t3, .int .u32 t4, .int .u32 t5, .int .u32 t6, .int .u32 t7, .int .u32 t8, .int .u32 t9, .int .u32 t10, .int .u32 t11, .int .u32 t12, .int .u32 t13, .int .u32 t14, .int .u32 t15] 50 (0, 0)) (.cells #[.int .u32 0, .int .u32 0, .int .u64 0, .int .u64 0, .int .u64 0, .int .u64 0, .int .u64 0, .int .u64 0, .int .u64 0] 26 (0, 0)) [.int .u32 t0, .int .u32 t1, .int .u64 ip, .int .u64 a0, .int .u64 a1, .int .u64 a2, .int .u64 a3, .int .u64 0, .int .u64 0] 26 := by rw [hV4]; exact qn3
    rw [← hV4]
    have hrg4 := hn4.1.2.2.1
    clear qn3 pn3 y3 f3 d3 hV4 hn3 hrg3 H10
    rw [rounds_succ]
    go_wp2_with (first
      | ((with_reducible show wpList _ _ _ (⟨some 36, _, _, _, _, _⟩ :: _) _ _)
         refine wpList_load_mid rfl _ _ rfl (w.heap.size + 1) 0 rfl [Value.int .u32 t0, Value.int .u32 t1, Value.int .u32 t2, Value.int .u32 t3, Value.int .u32 t4, Value.int .u32 t5, Value.int .u32 t6, Value.int .u32 t7, Value.int .u32 t8, Value.int .u32 t9, Value.int .u32 t10, Value.int .u32 t11, Value.int .u32 t12, Value.int .u32 t13, Value.int .u32 t14, Value.int .u32 t15] _ hrg4 HU.out rfl HI.out ?_)
      | (go_at_call 26; ((with_reducible refine (H12.out _).mono ?_); rintro e v4 ⟨rfl, d4⟩); have pn4 := hn4.on d4; have y4 := pn4.cell 7 _ rfl; have f4 := pn4.free 7))
    have qn4 := pn4.set_ 7 (.int .u64 a4)
    obtain ⟨V5, hV5⟩ : ∃ V', V' = v4.setCell ⟨D, 7, none⟩ (.int .u64 a4) := ⟨_, rfl⟩
    have hn5 : PV w V5 (w.heap.size + 1) w.heap.size D t0 t1 [Value.int .u32 t0, Value.int .u32 t1, Value.int .u32 t2, Value.int .u32 t3, Value.int .u32 t4, Value.int .u32 t5, Value.int .u32 t6, Value.int .u32 t7, Value.int .u32 t8, Value.int .u32 t9, Value.int .u32 t10, Value.int .u32 t11, Value.int .u32 t12, Value.int .u32 t13, Value.int .u32 t14, Value.int .u32 t15] (.cells #[.int .u32 t0, .int .u32 t1, .int .u32 t2, .int .u32 t3, .int .u32 t4, .int .u32 t5, .int .u32 t6, .int .u32 t7, .int .u32 t8, .int .u32 t9, .int .u32 t10, .int .u32 t11, .int .u32 t12, .int .u32 t13, .int .u32 t14, .int .u32 t15] 50 (0, 0)) (.cells #[.int .u32 0, .int .u32 0, .int .u64 0, .int .u64 0, .int .u64 0, .int .u64 0, .int .u64 0, .int .u64 0, .int .u64 0] 26 (0, 0)) [.int .u32 t0, .int .u32 t1, .int .u64 ip, .int .u64 a0, .int .u64 a1, .int .u64 a2, .int .u64 a3, .int .u64 a4, .int .u64 0] 26 := by rw [hV5]; exact qn4
    rw [← hV5]
    have hrg5 := hn5.1.2.2.1
    clear qn4 pn4 y4 f4 d4 hV5 hn4 hrg4 H12
    rw [rounds_succ]
    go_wp2_with (first
      | ((with_reducible show wpList _ _ _ (⟨some 36, _, _, _, _, _⟩ :: _) _ _)
         refine wpList_load_mid rfl _ _ rfl (w.heap.size + 1) 0 rfl [Value.int .u32 t0, Value.int .u32 t1, Value.int .u32 t2, Value.int .u32 t3, Value.int .u32 t4, Value.int .u32 t5, Value.int .u32 t6, Value.int .u32 t7, Value.int .u32 t8, Value.int .u32 t9, Value.int .u32 t10, Value.int .u32 t11, Value.int .u32 t12, Value.int .u32 t13, Value.int .u32 t14, Value.int .u32 t15] _ hrg5 HU.out rfl HI.out ?_)
      | (go_at_call 26; ((with_reducible refine (H14.out _).mono ?_); rintro e v5 ⟨rfl, d5⟩); have pn5 := hn5.on d5; have y5 := pn5.cell 8 _ rfl; have f5 := pn5.free 8))
    have qn5 := pn5.set_ 8 (.int .u64 a5)
    obtain ⟨V6, hV6⟩ : ∃ V', V' = v5.setCell ⟨D, 8, none⟩ (.int .u64 a5) := ⟨_, rfl⟩
    have hn6 : PV w V6 (w.heap.size + 1) w.heap.size D t0 t1 [Value.int .u32 t0, Value.int .u32 t1, Value.int .u32 t2, Value.int .u32 t3, Value.int .u32 t4, Value.int .u32 t5, Value.int .u32 t6, Value.int .u32 t7, Value.int .u32 t8, Value.int .u32 t9, Value.int .u32 t10, Value.int .u32 t11, Value.int .u32 t12, Value.int .u32 t13, Value.int .u32 t14, Value.int .u32 t15] (.cells #[.int .u32 t0, .int .u32 t1, .int .u32 t2, .int .u32 t3, .int .u32 t4, .int .u32 t5, .int .u32 t6, .int .u32 t7, .int .u32 t8, .int .u32 t9, .int .u32 t10, .int .u32 t11, .int .u32 t12, .int .u32 t13, .int .u32 t14, .int .u32 t15] 50 (0, 0)) (.cells #[.int .u32 0, .int .u32 0, .int .u64 0, .int .u64 0, .int .u64 0, .int .u64 0, .int .u64 0, .int .u64 0, .int .u64 0] 26 (0, 0)) [.int .u32 t0, .int .u32 t1, .int .u64 ip, .int .u64 a0, .int .u64 a1, .int .u64 a2, .int .u64 a3, .int .u64 a4, .int .u64 a5] 26 := by rw [hV6]; exact qn5
    rw [← hV6]
    have hrg6 := hn6.1.2.2.1
    clear qn5 pn5 y5 f5 d5 hV6 hn5 hrg5 H14
    rw [rounds_succ]
    have z0 := hn6.cell 0 _ rfl
    have z1 := hn6.cell 1 _ rfl
    have z2 := hn6.cell 2 _ rfl
    have z3 := hn6.cell 3 _ rfl
    have z4 := hn6.cell 4 _ rfl
    have z5 := hn6.cell 5 _ rfl
    have z6 := hn6.cell 6 _ rfl
    have z7 := hn6.cell 7 _ rfl
    have z8 := hn6.cell 8 _ rfl
    have hb := hn6.1.2.2.2.2.1
    have o0 := (cell_of_row V6 w.heap.size 0 _ _ (0, 0) hb).trans rfl
    have o1 := (cell_of_row V6 w.heap.size 1 _ _ (0, 0) hb).trans rfl
    have o2 := (cell_of_row V6 w.heap.size 2 _ _ (0, 0) hb).trans rfl
    have o3 := (cell_of_row V6 w.heap.size 3 _ _ (0, 0) hb).trans rfl
    have o4 := (cell_of_row V6 w.heap.size 4 _ _ (0, 0) hb).trans rfl
    have o5 := (cell_of_row V6 w.heap.size 5 _ _ (0, 0) hb).trans rfl
    have o6 := (cell_of_row V6 w.heap.size 6 _ _ (0, 0) hb).trans rfl
    have o7 := (cell_of_row V6 w.heap.size 7 _ _ (0, 0) hb).trans rfl
    have o8 := (cell_of_row V6 w.heap.size 8 _ _ (0, 0) hb).trans rfl
    have fb := fun i => frozen_of_row V6 w.heap.size i _ _ hb
    have HB := Lib.hid hb
    have HL := Lib.hid hn6.1.2.2.2.2.2
    clear hb hn6 hrg6
    go_wp2
    have hend := set9 (.int .u32 t0) (.int .u32 t1) (.int .u64 ip) (.int .u64 a0) (.int .u64 a1) (.int .u64 a2) (.int .u64 a3) (.int .u64 a4) (.int .u64 a5) HB.out
    have hL := (((((((((HL.out.setCell (p := ⟨w.heap.size, 0, none⟩) (Nat.le_refl _) (.int .u32 t0)).setCell (p := ⟨w.heap.size, 1, none⟩) (Nat.le_refl _) (.int .u32 t1)).setCell (p := ⟨w.heap.size, 2, none⟩) (Nat.le_refl _) (.int .u64 ip)).setCell (p := ⟨w.heap.size, 3, none⟩) (Nat.le_refl _) (.int .u64 a0)).setCell (p := ⟨w.heap.size, 4, none⟩) (Nat.le_refl _) (.int .u64 a1)).setCell (p := ⟨w.heap.size, 5, none⟩) (Nat.le_refl _) (.int .u64 a2)).setCell (p := ⟨w.heap.size, 6, none⟩) (Nat.le_refl _) (.int .u64 a3)).setCell (p := ⟨w.heap.size, 7, none⟩) (Nat.le_refl _) (.int .u64 a4)).setCell (p := ⟨w.heap.size, 8, none⟩) (Nat.le_refl _) (.int .u64 a5))
    obtain ⟨V7, hV7⟩ : ∃ V', V' = (((((((((V6.setCell ⟨w.heap.size, 0, none⟩ (.int .u32 t0)).setCell ⟨w.heap.size, 1, none⟩ (.int .u32 t1)).setCell ⟨w.heap.size, 2, none⟩ (.int .u64 ip)).setCell ⟨w.heap.size, 3, none⟩ (.int .u64 a0)).setCell ⟨w.heap.size, 4, none⟩ (.int .u64 a1)).setCell ⟨w.heap.size, 5, none⟩ (.int .u64 a2)).setCell ⟨w.heap.size, 6, none⟩ (.int .u64 a3)).setCell ⟨w.heap.size, 7, none⟩ (.int .u64 a4)).setCell ⟨w.heap.size, 8, none⟩ (.int .u64 a5)) := ⟨_, rfl⟩
    rw [← hV7] at hend hL ⊢
    clear HB HL hV7
    have c0 := (cell_of_row V7 w.heap.size 0 _ _ (0, 0) hend).trans rfl
    have c1 := (cell_of_row V7 w.heap.size 1 _ _ (0, 0) hend).trans rfl
    have c2 := (cell_of_row V7 w.heap.size 2 _ _ (0, 0) hend).trans rfl
    have c3 := (cell_of_row V7 w.heap.size 3 _ _ (0, 0) hend).trans rfl
    have c4 := (cell_of_row V7 w.heap.size 4 _ _ (0, 0) hend).trans rfl
    have c5 := (cell_of_row V7 w.heap.size 5 _ _ (0, 0) hend).trans rfl
    have c6 := (cell_of_row V7 w.heap.size 6 _ _ (0, 0) hend).trans rfl
    have c7 := (cell_of_row V7 w.heap.size 7 _ _ (0, 0) hend).trans rfl
    have c8 := (cell_of_row V7 w.heap.size 8 _ _ (0, 0) hend).trans rfl
    refine bodyPost_ret (v := .tuple #[.agg #[.int .u32 t0, .int .u32 t1, .int .u64 ip, .int .u64 a0, .int .u64 a1, .int .u64 a2, .int .u64 a3, .int .u64 a4, .int .u64 a5], .int .i64 0]) (by simp [results, Try.results13, go_sem, c0, c1, c2, c3, c4, c5, c6, c7, c8]) rfl ⟨rfl, hL⟩

  · have hn : (((((((((w3.setCell ⟨W.heap.size, 0, none⟩ (.int .u32 t0)).setCell ⟨W.heap.size, 1, none⟩ (.int .u32 t1)).setCell ⟨W.heap.size, 2, none⟩ (.int .u64 ip)).setCell ⟨W.heap.size, 3, none⟩ (.int .u64 0)).setCell ⟨W.heap.size, 4, none⟩ (.int .u64 0)).setCell ⟨W.heap.size, 5, none⟩ (.int .u64 0)).setCell ⟨W.heap.size, 6, none⟩ (.int .u64 0)).setCell ⟨W.heap.size, 7, none⟩ (.int .u64 0)).setCell ⟨W.heap.size, 8, none⟩ (.int .u64 0)).cell? ⟨w.heap.size + 1, 0, none⟩ = some (.int .u32 t0) ∧ (((((((((w3.setCell ⟨W.heap.size, 0, none⟩ (.int .u32 t0)).setCell ⟨W.heap.size, 1, none⟩ (.int .u32 t1)).setCell ⟨W.heap.size, 2, none⟩ (.int .u64 ip)).setCell ⟨W.heap.size, 3, none⟩ (.int .u64 0)).setCell ⟨W.heap.size, 4, none⟩ (.int .u64 0)).setCell ⟨W.heap.size, 5, none⟩ (.int .u64 0)).setCell ⟨W.heap.size, 6, none⟩ (.int .u64 0)).setCell ⟨W.heap.size, 7, none⟩ (.int .u64 0)).setCell ⟨W.heap.size, 8, none⟩ (.int .u64 0)).cell? ⟨w.heap.size + 1, 1, none⟩ = some (.int .u32 t1) ∧ (((((((((w3.setCell ⟨W.heap.size, 0, none⟩ (.int .u32 t0)).setCell ⟨W.heap.size, 1, none⟩ (.int .u32 t1)).setCell ⟨W.heap.size, 2, none⟩ (.int .u64 ip)).setCell ⟨W.heap.size, 3, none⟩ (.int .u64 0)).setCell ⟨W.heap.size, 4, none⟩ (.int .u64 0)).setCell ⟨W.heap.size, 5, none⟩ (.int .u64 0)).setCell ⟨W.heap.size, 6, none⟩ (.int .u64 0)).setCell ⟨W.heap.size, 7, none⟩ (.int .u64 0)).setCell ⟨W.heap.size, 8, none⟩ (.int .u64 0)).rangeAt (w.heap.size + 1) 0 [Value.int .u32 t0, Value.int .u32 t1, Value.int .u32 t2, Value.int .u32 t3, Value.int .u32 t4, Value.int .u32 t5, Value.int .u32 t6, Value.int .u32 t7, Value.int .u32 t8, Value.int .u32 t9, Value.int .u32 t10, Value.int .u32 t11, Value.int .u32 t12, Value.int .u32 t13, Value.int .u32 t14, Value.int .u32 t15] ∧ (((((((((w3.setCell ⟨W.heap.size, 0, none⟩ (.int .u32 t0)).setCell ⟨W.heap.size, 1, none⟩ (.int .u32 t1)).setCell ⟨W.heap.size, 2, none⟩ (.int .u64 ip)).setCell ⟨W.heap.size, 3, none⟩ (.int .u64 0)).setCell ⟨W.heap.size, 4, none⟩ (.int .u64 0)).setCell ⟨W.heap.size, 5, none⟩ (.int .u64 0)).setCell ⟨W.heap.size, 6, none⟩ (.int .u64 0)).setCell ⟨W.heap.size, 7, none⟩ (.int .u64 0)).setCell ⟨W.heap.size, 8, none⟩ (.int .u64 0)).heap[w.heap.size + 1]? = some (.cells #[.int .u32 t0, .int .u32 t1, .int .u32 t2, .int .u32 t3, .int .u32 t4, .int .u32 t5, .int .u32 t6, .int .u32 t7, .int .u32 t8, .int .u32 t9, .int .u32 t10, .int .u32 t11, .int .u32 t12, .int .u32 t13, .int .u32 t14, .int .u32 t15] 50 (0, 0)) ∧ (((((((((w3.setCell ⟨W.heap.size, 0, none⟩ (.int .u32 t0)).setCell ⟨W.heap.size, 1, none⟩ (.int .u32 t1)).setCell ⟨W.heap.size, 2, none⟩ (.int .u64 ip)).setCell ⟨W.heap.size, 3, none⟩ (.int .u64 0)).setCell ⟨W.heap.size, 4, none⟩ (.int .u64 0)).setCell ⟨W.heap.size, 5, none⟩ (.int .u64 0)).setCell ⟨W.heap.size, 6, none⟩ (.int .u64 0)).setCell ⟨W.heap.size, 7, none⟩ (.int .u64 0)).setCell ⟨W.heap.size, 8, none⟩ (.int .u64 0)).heap[w.heap.size]? = some (.cells #[.int .u32 0, .int .u32 0, .int .u64 0, .int .u64 0, .int .u64 0, .int .u64 0, .int .u64 0, .int .u64 0, .int .u64 0] 26 (0, 0)) ∧ Below w.heap.size w (((((((((w3.setCell ⟨W.heap.size, 0, none⟩ (.int .u32 t0)).setCell ⟨W.heap.size, 1, none⟩ (.int .u32 t1)).setCell ⟨W.heap.size, 2, none⟩ (.int .u64 ip)).setCell ⟨W.heap.size, 3, none⟩ (.int .u64 0)).setCell ⟨W.heap.size, 4, none⟩ (.int .u64 0)).setCell ⟨W.heap.size, 5, none⟩ (.int .u64 0)).setCell ⟨W.heap.size, 6, none⟩ (.int .u64 0)).setCell ⟨W.heap.size, 7, none⟩ (.int .u64 0)).setCell ⟨W.heap.size, 8, none⟩ (.int .u64 0)) := by assumption
    have hd := set9 (.int .u32 t0) (.int .u32 t1) (.int .u64 ip) (.int .u64 0) (.int .u64 0) (.int .u64 0) (.int .u64 0) (.int .u64 0) (.int .u64 0) hD
    obtain ⟨V0, hVe⟩ : ∃ V, V = (((((((((w3.setCell ⟨W.heap.size, 0, none⟩ (.int .u32 t0)).setCell ⟨W.heap.size, 1, none⟩ (.int .u32 t1)).setCell ⟨W.heap.size, 2, none⟩ (.int .u64 ip)).setCell ⟨W.heap.size, 3, none⟩ (.int .u64 0)).setCell ⟨W.heap.size, 4, none⟩ (.int .u64 0)).setCell ⟨W.heap.size, 5, none⟩ (.int .u64 0)).setCell ⟨W.heap.size, 6, none⟩ (.int .u64 0)).setCell ⟨W.heap.size, 7, none⟩ (.int .u64 0)).setCell ⟨W.heap.size, 8, none⟩ (.int .u64 0)) := ⟨_, rfl⟩
    obtain ⟨D, hDe⟩ : ∃ D, D = W.heap.size := ⟨_, rfl⟩
    have hn0 : PV w V0 (w.heap.size + 1) w.heap.size D t0 t1 [Value.int .u32 t0, Value.int .u32 t1, Value.int .u32 t2, Value.int .u32 t3, Value.int .u32 t4, Value.int .u32 t5, Value.int .u32 t6, Value.int .u32 t7, Value.int .u32 t8, Value.int .u32 t9, Value.int .u32 t10, Value.int .u32 t11, Value.int .u32 t12, Value.int .u32 t13, Value.int .u32 t14, Value.int .u32 t15] (.cells #[.int .u32 t0, .int .u32 t1, .int .u32 t2, .int .u32 t3, .int .u32 t4, .int .u32 t5, .int .u32 t6, .int .u32 t7, .int .u32 t8, .int .u32 t9, .int .u32 t10, .int .u32 t11, .int .u32 t12, .int .u32 t13, .int .u32 t14, .int .u32 t15] 50 (0, 0)) (.cells #[.int .u32 0, .int .u32 0, .int .u64 0, .int .u64 0, .int .u64 0, .int .u64 0, .int .u64 0, .int .u64 0, .int .u64 0] 26 (0, 0)) [.int .u32 t0, .int .u32 t1, .int .u64 ip, .int .u64 0, .int .u64 0, .int .u64 0, .int .u64 0, .int .u64 0, .int .u64 0] 26 := by rw [hVe, hDe]; exact ⟨hn, hd, by omega, by omega, by omega⟩
    rw [← hVe, ← hDe]
    clear hd fD y0 y1 y2 y3 y4 y5 y6 y7 y8 hD
    clear hn hVe hDe HS b3 hz3 hzW H2
    have hrg0 := hn0.1.2.2.1
    have HU := Lib.hid hu
    have HI := Lib.hid hi
    clear hu hi
    go_wp2_with fail
    refine wp_loop_rounds 7 ?_
    rw [rounds_succ]
    go_wp2_with (first
      | ((with_reducible show wpList _ _ _ (⟨some 36, _, _, _, _, _⟩ :: _) _ _)
         refine wpList_load_mid rfl _ _ rfl (w.heap.size + 1) 0 rfl [Value.int .u32 t0, Value.int .u32 t1, Value.int .u32 t2, Value.int .u32 t3, Value.int .u32 t4, Value.int .u32 t5, Value.int .u32 t6, Value.int .u32 t7, Value.int .u32 t8, Value.int .u32 t9, Value.int .u32 t10, Value.int .u32 t11, Value.int .u32 t12, Value.int .u32 t13, Value.int .u32 t14, Value.int .u32 t15] _ hrg0 HU.out rfl HI.out ?_)
      | (go_at_call 26; ((with_reducible refine (H4.out _).mono ?_); rintro e v0 ⟨rfl, d0⟩); have pn0 := hn0.on d0; have y0 := pn0.cell 3 _ rfl; have f0 := pn0.free 3))
    have qn0 := pn0.set_ 3 (.int .u64 a0)
    obtain ⟨V1, hV1⟩ : ∃ V', V' = v0.setCell ⟨D, 3, none⟩ (.int .u64 a0) := ⟨_, rfl⟩
    have hn1 : PV w V1 (w.heap.size + 1) w.heap.size D t0 t1 [Value.int .u32 t0, Value.int .u32 t1, Value.int .u32 t2, Value.int .u32 t3, Value.int .u32 t4, Value.int .u32 t5, Value.int .u32 t6, Value.int .u32 t7, Value.int .u32 t8, Value.int .u32 t9, Value.int .u32 t10, Value.int .u32 t11, Value.int .u32 t12, Value.int .u32 t13, Value.int .u32 t14, Value.int .u32 t15] (.cells #[.int .u32 t0, .int .u32 t1, .int .u32 t2, .int .u32 t3, .int .u32 t4, .int .u32 t5, .int .u32 t6, .int .u32 t7, .int .u32 t8, .int .u32 t9, .int .u32 t10, .int .u32 t11, .int .u32 t12, .int .u32 t13, .int .u32 t14, .int .u32 t15] 50 (0, 0)) (.cells #[.int .u32 0, .int .u32 0, .int .u64 0, .int .u64 0, .int .u64 0, .int .u64 0, .int .u64 0, .int .u64 0, .int .u64 0] 26 (0, 0)) [.int .u32 t0, .int .u32 t1, .int .u64 ip, .int .u64 a0, .int .u64 0, .int .u64 0, .int .u64 0, .int .u64 0, .int .u64 0] 26 := by rw [hV1]; exact qn0
    rw [← hV1]
    have hrg1 := hn1.1.2.2.1
    clear qn0 pn0 y0 f0 d0 hV1 hn0 hrg0 H4
    rw [rounds_succ]
    go_wp2_with (first
      | ((with_reducible show wpList _ _ _ (⟨some 36, _, _, _, _, _⟩ :: _) _ _)
         refine wpList_load_mid rfl _ _ rfl (w.heap.size + 1) 0 rfl [Value.int .u32 t0, Value.int .u32 t1, Value.int .u32 t2, Value.int .u32 t3, Value.int .u32 t4, Value.int .u32 t5, Value.int .u32 t6, Value.int .u32 t7, Value.int .u32 t8, Value.int .u32 t9, Value.int .u32 t10, Value.int .u32 t11, Value.int .u32 t12, Value.int .u32 t13, Value.int .u32 t14, Value.int .u32 t15] _ hrg1 HU.out rfl HI.out ?_)
      | (go_at_call 26; ((with_reducible refine (H6.out _).mono ?_); rintro e v1 ⟨rfl, d1⟩); have pn1 := hn1.on d1; have y1 := pn1.cell 4 _ rfl; have f1 := pn1.free 4))
    have qn1 := pn1.set_ 4 (.int .u64 a1)
    obtain ⟨V2, hV2⟩ : ∃ V', V' = v1.setCell ⟨D, 4, none⟩ (.int .u64 a1) := ⟨_, rfl⟩
    have hn2 : PV w V2 (w.heap.size + 1) w.heap.size D t0 t1 [Value.int .u32 t0, Value.int .u32 t1, Value.int .u32 t2, Value.int .u32 t3, Value.int .u32 t4, Value.int .u32 t5, Value.int .u32 t6, Value.int .u32 t7, Value.int .u32 t8, Value.int .u32 t9, Value.int .u32 t10, Value.int .u32 t11, Value.int .u32 t12, Value.int .u32 t13, Value.int .u32 t14, Value.int .u32 t15] (.cells #[.int .u32 t0, .int .u32 t1, .int .u32 t2, .int .u32 t3, .int .u32 t4, .int .u32 t5, .int .u32 t6, .int .u32 t7, .int .u32 t8, .int .u32 t9, .int .u32 t10, .int .u32 t11, .int .u32 t12, .int .u32 t13, .int .u32 t14, .int .u32 t15] 50 (0, 0)) (.cells #[.int .u32 0, .int .u32 0, .int .u64 0, .int .u64 0, .int .u64 0, .int .u64 0, .int .u64 0, .int .u64 0, .int .u64 0] 26 (0, 0)) [.int .u32 t0, .int .u32 t1, .int .u64 ip, .int .u64 a0, .int .u64 a1, .int .u64 0, .int .u64 0, .int .u64 0, .int .u64 0] 26 := by rw [hV2]; exact qn1
    rw [← hV2]
    have hrg2 := hn2.1.2.2.1
    clear qn1 pn1 y1 f1 d1 hV2 hn1 hrg1 H6
    rw [rounds_succ]
    go_wp2_with (first
      | ((with_reducible show wpList _ _ _ (⟨some 36, _, _, _, _, _⟩ :: _) _ _)
         refine wpList_load_mid rfl _ _ rfl (w.heap.size + 1) 0 rfl [Value.int .u32 t0, Value.int .u32 t1, Value.int .u32 t2, Value.int .u32 t3, Value.int .u32 t4, Value.int .u32 t5, Value.int .u32 t6, Value.int .u32 t7, Value.int .u32 t8, Value.int .u32 t9, Value.int .u32 t10, Value.int .u32 t11, Value.int .u32 t12, Value.int .u32 t13, Value.int .u32 t14, Value.int .u32 t15] _ hrg2 HU.out rfl HI.out ?_)
      | (go_at_call 26; ((with_reducible refine (H8.out _).mono ?_); rintro e v2 ⟨rfl, d2⟩); have pn2 := hn2.on d2; have y2 := pn2.cell 5 _ rfl; have f2 := pn2.free 5))
    have qn2 := pn2.set_ 5 (.int .u64 a2)
    obtain ⟨V3, hV3⟩ : ∃ V', V' = v2.setCell ⟨D, 5, none⟩ (.int .u64 a2) := ⟨_, rfl⟩
    have hn3 : PV w V3 (w.heap.size + 1) w.heap.size D t0 t1 [Value.int .u32 t0, Value.int .u32 t1, Value.int .u32 t2, Value.int .u32 t3, Value.int .u32 t4, Value.int .u32 t5, Value.int .u32 t6, Value.int .u32 t7, Value.int .u32 t8, Value.int .u32 t9, Value.int .u32 t10, Value.int .u32 t11, Value.int .u32 t12, Value.int .u32 t13, Value.int .u32 t14, Value.int .u32 t15] (.cells #[.int .u32 t0, .int .u32 t1, .int .u32 t2, .int .u32 t3, .int .u32 t4, .int .u32 t5, .int .u32 t6, .int .u32 t7, .int .u32 t8, .int .u32 t9, .int .u32 t10, .int .u32 t11, .int .u32 t12, .int .u32 t13, .int .u32 t14, .int .u32 t15] 50 (0, 0)) (.cells #[.int .u32 0, .int .u32 0, .int .u64 0, .int .u64 0, .int .u64 0, .int .u64 0, .int .u64 0, .int .u64 0, .int .u64 0] 26 (0, 0)) [.int .u32 t0, .int .u32 t1, .int .u64 ip, .int .u64 a0, .int .u64 a1, .int .u64 a2, .int .u64 0, .int .u64 0, .int .u64 0] 26 := by rw [hV3]; exact qn2
    rw [← hV3]
    have hrg3 := hn3.1.2.2.1
    clear qn2 pn2 y2 f2 d2 hV3 hn2 hrg2 H8
    rw [rounds_succ]
    go_wp2_with (first
      | ((with_reducible show wpList _ _ _ (⟨some 36, _, _, _, _, _⟩ :: _) _ _)
         refine wpList_load_mid rfl _ _ rfl (w.heap.size + 1) 0 rfl [Value.int .u32 t0, Value.int .u32 t1, Value.int .u32 t2, Value.int .u32 t3, Value.int .u32 t4, Value.int .u32 t5, Value.int .u32 t6, Value.int .u32 t7, Value.int .u32 t8, Value.int .u32 t9, Value.int .u32 t10, Value.int .u32 t11, Value.int .u32 t12, Value.int .u32 t13, Value.int .u32 t14, Value.int .u32 t15] _ hrg3 HU.out rfl HI.out ?_)
      | (go_at_call 26; ((with_reducible refine (H10.out _).mono ?_); rintro e v3 ⟨rfl, d3⟩); have pn3 := hn3.on d3; have y3 := pn3.cell 6 _ rfl; have f3 := pn3.free 6))
    have qn3 := pn3.set_ 6 (.int .u64 a3)
    obtain ⟨V4, hV4⟩ : ∃ V', V' = v3.setCell ⟨D, 6, none⟩ (.int .u64 a3) := ⟨_, rfl⟩
    have hn4 : PV w V4 (w.heap.size + 1) w.heap.size D t0 t1 [Value.int .u32 t0, Value.int .u32 t1, Value.int .u32 t2, Value.int .u32 t3, Value.int .u32 t4, Value.int .u32 t5, Value.int .u32 t6, Value.int .u32 t7, Value.int .u32 t8, Value.int .u32 t9, Value.int .u32 t10, Value.int .u32 t11, Value.int .u32 t12, Value.int .u32 t13, Value.int .u32 t14, Value.int .u32 t15] (.cells #[.int .u32 t0, .int .u32 t1, .int .u32 t2, .int .u32 t3, .int .u32 t4, .int .u32 t5, .int .u32 t6, .int .u32 t7, .int .u32 t8, .int .u32 t9, .int .u32 t10, .int .u32 t11, .int .u32 t12, .int .u32 t13, .int .u32 t14, .int .u32 t15] 50 (0, 0)) (.cells #[.int .u32 0, .int .u32 0, .int .u64 0, .int .u64 0, .int .u64 0, .int .u64 0, .int .u64 0, .int .u64 0, .int .u64 0] 26 (0, 0)) [.int .u32 t0, .int .u32 t1, .int .u64 ip, .int .u64 a0, .int .u64 a1, .int .u64 a2, .int .u64 a3, .int .u64 0, .int .u64 0] 26 := by rw [hV4]; exact qn3
    rw [← hV4]
    have hrg4 := hn4.1.2.2.1
    clear qn3 pn3 y3 f3 d3 hV4 hn3 hrg3 H10
    rw [rounds_succ]
    go_wp2_with (first
      | ((with_reducible show wpList _ _ _ (⟨some 36, _, _, _, _, _⟩ :: _) _ _)
         refine wpList_load_mid rfl _ _ rfl (w.heap.size + 1) 0 rfl [Value.int .u32 t0, Value.int .u32 t1, Value.int .u32 t2, Value.int .u32 t3, Value.int .u32 t4, Value.int .u32 t5, Value.int .u32 t6, Value.int .u32 t7, Value.int .u32 t8, Value.int .u32 t9, Value.int .u32 t10, Value.int .u32 t11, Value.int .u32 t12, Value.int .u32 t13, Value.int .u32 t14, Value.int .u32 t15] _ hrg4 HU.out rfl HI.out ?_)
      | (go_at_call 26; ((with_reducible refine (H12.out _).mono ?_); rintro e v4 ⟨rfl, d4⟩); have pn4 := hn4.on d4; have y4 := pn4.cell 7 _ rfl; have f4 := pn4.free 7))
    have qn4 := pn4.set_ 7 (.int .u64 a4)
    obtain ⟨V5, hV5⟩ : ∃ V', V' = v4.setCell ⟨D, 7, none⟩ (.int .u64 a4) := ⟨_, rfl⟩
    have hn5 : PV w V5 (w.heap.size + 1) w.heap.size D t0 t1 [Value.int .u32 t0, Value.int .u32 t1, Value.int .u32 t2, Value.int .u32 t3, Value.int .u32 t4, Value.int .u32 t5, Value.int .u32 t6, Value.int .u32 t7, Value.int .u32 t8, Value.int .u32 t9, Value.int .u32 t10, Value.int .u32 t11, Value.int .u32 t12, Value.int .u32 t13, Value.int .u32 t14, Value.int .u32 t15] (.cells #[.int .u32 t0, .int .u32 t1, .int .u32 t2, .int .u32 t3, .int .u32 t4, .int .u32 t5, .int .u32 t6, .int .u32 t7, .int .u32 t8, .int .u32 t9, .int .u32 t10, .int .u32 t11, .int .u32 t12, .int .u32 t13, .int .u32 t14, .int .u32 t15] 50 (0, 0)) (.cells #[.int .u32 0, .int .u32 0, .int .u64 0, .int .u64 0, .int .u64 0, .int .u64 0, .int .u64 0, .int .u64 0, .int .u64 0] 26 (0, 0)) [.int .u32 t0, .int .u32 t1, .int .u64 ip, .int .u64 a0, .int .u64 a1, .int .u64 a2, .int .u64 a3, .int .u64 a4, .int .u64 0] 26 := by rw [hV5]; exact qn4
    rw [← hV5]
    have hrg5 := hn5.1.2.2.1
    clear qn4 pn4 y4 f4 d4 hV5 hn4 hrg4 H12
    rw [rounds_succ]
    go_wp2_with (first
      | ((with_reducible show wpList _ _ _ (⟨some 36, _, _, _, _, _⟩ :: _) _ _)
         refine wpList_load_mid rfl _ _ rfl (w.heap.size + 1) 0 rfl [Value.int .u32 t0, Value.int .u32 t1, Value.int .u32 t2, Value.int .u32 t3, Value.int .u32 t4, Value.int .u32 t5, Value.int .u32 t6, Value.int .u32 t7, Value.int .u32 t8, Value.int .u32 t9, Value.int .u32 t10, Value.int .u32 t11, Value.int .u32 t12, Value.int .u32 t13, Value.int .u32 t14, Value.int .u32 t15] _ hrg5 HU.out rfl HI.out ?_)
      | (go_at_call 26; ((with_reducible refine (H14.out _).mono ?_); rintro e v5 ⟨rfl, d5⟩); have pn5 := hn5.on d5; have y5 := pn5.cell 8 _ rfl; have f5 := pn5.free 8))
    have qn5 := pn5.set_ 8 (.int .u64 a5)
    obtain ⟨V6, hV6⟩ : ∃ V', V' = v5.setCell ⟨D, 8, none⟩ (.int .u64 a5) := ⟨_, rfl⟩
    have hn6 : PV w V6 (w.heap.size + 1) w.heap.size D t0 t1 [Value.int .u32 t0, Value.int .u32 t1, Value.int .u32 t2, Value.int .u32 t3, Value.int .u32 t4, Value.int .u32 t5, Value.int .u32 t6, Value.int .u32 t7, Value.int .u32 t8, Value.int .u32 t9, Value.int .u32 t10, Value.int .u32 t11, Value.int .u32 t12, Value.int .u32 t13, Value.int .u32 t14, Value.int .u32 t15] (.cells #[.int .u32 t0, .int .u32 t1, .int .u32 t2, .int .u32 t3, .int .u32 t4, .int .u32 t5, .int .u32 t6, .int .u32 t7, .int .u32 t8, .int .u32 t9, .int .u32 t10, .int .u32 t11, .int .u32 t12, .int .u32 t13, .int .u32 t14, .int .u32 t15] 50 (0, 0)) (.cells #[.int .u32 0, .int .u32 0, .int .u64 0, .int .u64 0, .int .u64 0, .int .u64 0, .int .u64 0, .int .u64 0, .int .u64 0] 26 (0, 0)) [.int .u32 t0, .int .u32 t1, .int .u64 ip, .int .u64 a0, .int .u64 a1, .int .u64 a2, .int .u64 a3, .int .u64 a4, .int .u64 a5] 26 := by rw [hV6]; exact qn5
    rw [← hV6]
    have hrg6 := hn6.1.2.2.1
    clear qn5 pn5 y5 f5 d5 hV6 hn5 hrg5 H14
    rw [rounds_succ]
    have z0 := hn6.cell 0 _ rfl
    have z1 := hn6.cell 1 _ rfl
    have z2 := hn6.cell 2 _ rfl
    have z3 := hn6.cell 3 _ rfl
    have z4 := hn6.cell 4 _ rfl
    have z5 := hn6.cell 5 _ rfl
    have z6 := hn6.cell 6 _ rfl
    have z7 := hn6.cell 7 _ rfl
    have z8 := hn6.cell 8 _ rfl
    have hb := hn6.1.2.2.2.2.1
    have o0 := (cell_of_row V6 w.heap.size 0 _ _ (0, 0) hb).trans rfl
    have o1 := (cell_of_row V6 w.heap.size 1 _ _ (0, 0) hb).trans rfl
    have o2 := (cell_of_row V6 w.heap.size 2 _ _ (0, 0) hb).trans rfl
    have o3 := (cell_of_row V6 w.heap.size 3 _ _ (0, 0) hb).trans rfl
    have o4 := (cell_of_row V6 w.heap.size 4 _ _ (0, 0) hb).trans rfl
    have o5 := (cell_of_row V6 w.heap.size 5 _ _ (0, 0) hb).trans rfl
    have o6 := (cell_of_row V6 w.heap.size 6 _ _ (0, 0) hb).trans rfl
    have o7 := (cell_of_row V6 w.heap.size 7 _ _ (0, 0) hb).trans rfl
    have o8 := (cell_of_row V6 w.heap.size 8 _ _ (0, 0) hb).trans rfl
    have fb := fun i => frozen_of_row V6 w.heap.size i _ _ hb
    have HB := Lib.hid hb
    have HL := Lib.hid hn6.1.2.2.2.2.2
    clear hb hn6 hrg6
    go_wp2
    have hend := set9 (.int .u32 t0) (.int .u32 t1) (.int .u64 ip) (.int .u64 a0) (.int .u64 a1) (.int .u64 a2) (.int .u64 a3) (.int .u64 a4) (.int .u64 a5) HB.out
    have hL := (((((((((HL.out.setCell (p := ⟨w.heap.size, 0, none⟩) (Nat.le_refl _) (.int .u32 t0)).setCell (p := ⟨w.heap.size, 1, none⟩) (Nat.le_refl _) (.int .u32 t1)).setCell (p := ⟨w.heap.size, 2, none⟩) (Nat.le_refl _) (.int .u64 ip)).setCell (p := ⟨w.heap.size, 3, none⟩) (Nat.le_refl _) (.int .u64 a0)).setCell (p := ⟨w.heap.size, 4, none⟩) (Nat.le_refl _) (.int .u64 a1)).setCell (p := ⟨w.heap.size, 5, none⟩) (Nat.le_refl _) (.int .u64 a2)).setCell (p := ⟨w.heap.size, 6, none⟩) (Nat.le_refl _) (.int .u64 a3)).setCell (p := ⟨w.heap.size, 7, none⟩) (Nat.le_refl _) (.int .u64 a4)).setCell (p := ⟨w.heap.size, 8, none⟩) (Nat.le_refl _) (.int .u64 a5))
    obtain ⟨V7, hV7⟩ : ∃ V', V' = (((((((((V6.setCell ⟨w.heap.size, 0, none⟩ (.int .u32 t0)).setCell ⟨w.heap.size, 1, none⟩ (.int .u32 t1)).setCell ⟨w.heap.size, 2, none⟩ (.int .u64 ip)).setCell ⟨w.heap.size, 3, none⟩ (.int .u64 a0)).setCell ⟨w.heap.size, 4, none⟩ (.int .u64 a1)).setCell ⟨w.heap.size, 5, none⟩ (.int .u64 a2)).setCell ⟨w.heap.size, 6, none⟩ (.int .u64 a3)).setCell ⟨w.heap.size, 7, none⟩ (.int .u64 a4)).setCell ⟨w.heap.size, 8, none⟩ (.int .u64 a5)) := ⟨_, rfl⟩
    rw [← hV7] at hend hL ⊢
    clear HB HL hV7
    have c0 := (cell_of_row V7 w.heap.size 0 _ _ (0, 0) hend).trans rfl
    have c1 := (cell_of_row V7 w.heap.size 1 _ _ (0, 0) hend).trans rfl
    have c2 := (cell_of_row V7 w.heap.size 2 _ _ (0, 0) hend).trans rfl
    have c3 := (cell_of_row V7 w.heap.size 3 _ _ (0, 0) hend).trans rfl
    have c4 := (cell_of_row V7 w.heap.size 4 _ _ (0, 0) hend).trans rfl
    have c5 := (cell_of_row V7 w.heap.size 5 _ _ (0, 0) hend).trans rfl
    have c6 := (cell_of_row V7 w.heap.size 6 _ _ (0, 0) hend).trans rfl
    have c7 := (cell_of_row V7 w.heap.size 7 _ _ (0, 0) hend).trans rfl
    have c8 := (cell_of_row V7 w.heap.size 8 _ _ (0, 0) hend).trans rfl
    refine bodyPost_ret (v := .tuple #[.agg #[.int .u32 t0, .int .u32 t1, .int .u64 ip, .int .u64 a0, .int .u64 a1, .int .u64 a2, .int .u64 a3, .int .u64 a4, .int .u64 a5], .int .i64 0]) (by simp [results, Try.results13, go_sem, c0, c1, c2, c3, c4, c5, c6, c7, c8]) rfl ⟨rfl, hL⟩

theorem parseC : DParseC := by
  intro p c xs w hx hB hc hm h
  have ok := datOf_ok hB
  have hG : ∀ k : Nat, k < 16 → ∀ W : World, Rd W w.heap.size p xs → Calls Try.prog 17 #[.slice p 64 c, .int .i64 (4 * k)] W fun e w' => e = .returned (.tuple #[.int .u32 ((tblL (datOf xs)).getD k 0), .bool true]) ∧ W = w' := fun k hk W hr => by
    have h1 := Get32_any p 64 c w.heap.size xs W hx hB (by omega) hr (4 * k) (by omega)
    rw [getB_true (by omega) (by omega), show (4 * (k : Int)) = ((4 * k : Nat) : Int) by omega, getV_true (k := 4) (xs := xs) (a := 4 * k) (by omega), tblL_cut hB hx hk] at h1
    rw [show (4 * (k : Int)) = ((4 * k : Nat) : Int) by omega]
    exact h1
  obtain ⟨d, hd⟩ : ∃ d, d = datOf xs := ⟨_, rfl⟩
  rw [← hd] at ok hG ⊢
  have hr := parse_core ((tblL d).getD 0 0) ((tblL d).getD 1 0) ((tblL d).getD 2 0) ((tblL d).getD 3 0) ((tblL d).getD 4 0) ((tblL d).getD 5 0) ((tblL d).getD 6 0) ((tblL d).getD 7 0) ((tblL d).getD 8 0) ((tblL d).getD 9 0) ((tblL d).getD 10 0) ((tblL d).getD 11 0) ((tblL d).getD 12 0) ((tblL d).getD 13 0) ((tblL d).getD 14 0) ((tblL d).getD 15 0) d.ip d.a0 d.a1 d.a2 d.a3 d.a4 d.a5 p c xs w h (Lib.hid (hG 0 (by decide))) (Lib.hid (hG 1 (by decide))) (Lib.hid (hG 2 (by decide))) (Lib.hid (hG 3 (by decide))) (Lib.hid (hG 4 (by decide))) (Lib.hid (hG 5 (by decide))) (Lib.hid (hG 6 (by decide))) (Lib.hid (hG 7 (by decide))) (Lib.hid (hG 8 (by decide))) (Lib.hid (hG 9 (by decide))) (Lib.hid (hG 10 (by decide))) (Lib.hid (hG 11 (by decide))) (Lib.hid (hG 12 (by decide))) (Lib.hid (hG 13 (by decide))) (Lib.hid (hG 14 (by decide))) (Lib.hid (hG 15 (by decide)))
    (Lib.hid (fun W => by have h1 := whole_2 ((tblL d).getD 0 0) ((tblL d).getD 1 0) ((tblL d).getD 2 0) ((tblL d).getD 3 0) ((tblL d).getD 4 0) ((tblL d).getD 5 0) ((tblL d).getD 6 0) ((tblL d).getD 7 0) ((tblL d).getD 8 0) ((tblL d).getD 9 0) ((tblL d).getD 10 0) ((tblL d).getD 11 0) ((tblL d).getD 12 0) ((tblL d).getD 13 0) ((tblL d).getD 14 0) ((tblL d).getD 15 0) W (tblL_ok ok (k := 2) (by decide)).1 (tblL_ok ok (k := 2) (by decide)).2 (tblL_ok ok (k := 3) (by decide)).1 (tblL_ok ok (k := 3) (by decide)).2; rw [show (tblL d).getD 2 0 + (tblL d).getD 3 0 * 4294967296 = d.ip from whole_halves d.ip] at h1; exact h1)) (Lib.hid (fun W => by have h1 := whole_4 ((tblL d).getD 0 0) ((tblL d).getD 1 0) ((tblL d).getD 2 0) ((tblL d).getD 3 0) ((tblL d).getD 4 0) ((tblL d).getD 5 0) ((tblL d).getD 6 0) ((tblL d).getD 7 0) ((tblL d).getD 8 0) ((tblL d).getD 9 0) ((tblL d).getD 10 0) ((tblL d).getD 11 0) ((tblL d).getD 12 0) ((tblL d).getD 13 0) ((tblL d).getD 14 0) ((tblL d).getD 15 0) W (tblL_ok ok (k := 4) (by decide)).1 (tblL_ok ok (k := 4) (by decide)).2 (tblL_ok ok (k := 5) (by decide)).1 (tblL_ok ok (k := 5) (by decide)).2; rw [show (tblL d).getD 4 0 + (tblL d).getD 5 0 * 4294967296 = d.a0 from whole_halves d.a0] at h1; exact h1)) (Lib.hid (fun W => by have h1 := whole_6 ((tblL d).getD 0 0) ((tblL d).getD 1 0) ((tblL d).getD 2 0) ((tblL d).getD 3 0) ((tblL d).getD 4 0) ((tblL d).getD 5 0) ((tblL d).getD 6 0) ((tblL d).getD 7 0) ((tblL d).getD 8 0) ((tblL d).getD 9 0) ((tblL d).getD 10 0) ((tblL d).getD 11 0) ((tblL d).getD 12 0) ((tblL d).getD 13 0) ((tblL d).getD 14 0) ((tblL d).getD 15 0) W (tblL_ok ok (k := 6) (by decide)).1 (tblL_ok ok (k := 6) (by decide)).2 (tblL_ok ok (k := 7) (by decide)).1 (tblL_ok ok (k := 7) (by decide)).2; rw [show (tblL d).getD 6 0 + (tblL d).getD 7 0 * 4294967296 = d.a1 from whole_halves d.a1] at h1; exact h1)) (Lib.hid (fun W => by have h1 := whole_8 ((tblL d).getD 0 0) ((tblL d).getD 1 0) ((tblL d).getD 2 0) ((tblL d).getD 3 0) ((tblL d).getD 4 0) ((tblL d).getD 5 0) ((tblL d).getD 6 0) ((tblL d).getD 7 0) ((tblL d).getD 8 0) ((tblL d).getD 9 0) ((tblL d).getD 10 0) ((tblL d).getD 11 0) ((tblL d).getD 12 0) ((tblL d).getD 13 0) ((tblL d).getD 14 0) ((tblL d).getD 15 0) W (tblL_ok ok (k := 8) (by decide)).1 (tblL_ok ok (k := 8) (by decide)).2 (tblL_ok ok (k := 9) (by decide)).1 (tblL_ok ok (k := 9) (by decide)).2; rw [show (tblL d).getD 8 0 + (tblL d).getD 9 0 * 4294967296 = d.a2 from whole_halves d.a2] at h1; exact h1)) (Lib.hid (fun W => by have h1 := whole_10 ((tblL d).getD 0 0) ((tblL d).getD 1 0) ((tblL d).getD 2 0) ((tblL d).getD 3 0) ((tblL d).getD 4 0) ((tblL d).getD 5 0) ((tblL d).getD 6 0) ((tblL d).getD 7 0) ((tblL d).getD 8 0) ((tblL d).getD 9 0) ((tblL d).getD 10 0) ((tblL d).getD 11 0) ((tblL d).getD 12 0) ((tblL d).getD 13 0) ((tblL d).getD 14 0) ((tblL d).getD 15 0) W (tblL_ok ok (k := 10) (by decide)).1 (tblL_ok ok (k := 10) (by decide)).2 (tblL_ok ok (k := 11) (by decide)).1 (tblL_ok ok (k := 11) (by decide)).2; rw [show (tblL d).getD 10 0 + (tblL d).getD 11 0 * 4294967296 = d.a3 from whole_halves d.a3] at h1; exact h1)) (Lib.hid (fun W => by have h1 := whole_12 ((tblL d).getD 0 0) ((tblL d).getD 1 0) ((tblL d).getD 2 0) ((tblL d).getD 3 0) ((tblL d).getD 4 0) ((tblL d).getD 5 0) ((tblL d).getD 6 0) ((tblL d).getD 7 0) ((tblL d).getD 8 0) ((tblL d).getD 9 0) ((tblL d).getD 10 0) ((tblL d).getD 11 0) ((tblL d).getD 12 0) ((tblL d).getD 13 0) ((tblL d).getD 14 0) ((tblL d).getD 15 0) W (tblL_ok ok (k := 12) (by decide)).1 (tblL_ok ok (k := 12) (by decide)).2 (tblL_ok ok (k := 13) (by decide)).1 (tblL_ok ok (k := 13) (by decide)).2; rw [show (tblL d).getD 12 0 + (tblL d).getD 13 0 * 4294967296 = d.a4 from whole_halves d.a4] at h1; exact h1)) (Lib.hid (fun W => by have h1 := whole_14 ((tblL d).getD 0 0) ((tblL d).getD 1 0) ((tblL d).getD 2 0) ((tblL d).getD 3 0) ((tblL d).getD 4 0) ((tblL d).getD 5 0) ((tblL d).getD 6 0) ((tblL d).getD 7 0) ((tblL d).getD 8 0) ((tblL d).getD 9 0) ((tblL d).getD 10 0) ((tblL d).getD 11 0) ((tblL d).getD 12 0) ((tblL d).getD 13 0) ((tblL d).getD 14 0) ((tblL d).getD 15 0) W (tblL_ok ok (k := 14) (by decide)).1 (tblL_ok ok (k := 14) (by decide)).2 (tblL_ok ok (k := 15) (by decide)).1 (tblL_ok ok (k := 15) (by decide)).2; rw [show (tblL d).getD 14 0 + (tblL d).getD 15 0 * 4294967296 = d.a5 from whole_halves d.a5] at h1; exact h1))
  exact hr
theorem parseBadC : DParseBadC := by
  intro p n c w h hm
  have h1 : ((n : Int) != 64) = true := by simp; omega
  have h2 : ¬ (n : Int) = 64 := by omega
  clear h
  go_enter Try.func13, Try.ntmps13
  go_wp2
  refine bodyPost_ret (v := .tuple #[.agg #[.int .u32 0, .int .u32 0, .int .u64 0, .int .u64 0, .int .u64 0, .int .u64 0, .int .u64 0, .int .u64 0, .int .u64 0], .int .i64 30]) (by simp [results, Try.results13, go_sem]) rfl ⟨rfl, ?_⟩
  exact (Below.refl _ _).alloc (Nat.le_refl _) _
theorem dataB : DataB := ⟨printC, parseC, parseBadC, wordC⟩
theorem dataC : DataC := { dataB with low := lowC, high := highC }
end Go.Proofs.Ythoichjomfdgjaa
