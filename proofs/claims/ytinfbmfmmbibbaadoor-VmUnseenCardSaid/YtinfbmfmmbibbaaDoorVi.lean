/- What the calls of the package vm have to return, as the chapter says it: the statements of layer 4 are walked over these; and the chapter's examples, with which they begin. Conditions: a program of at most a thousand instructions; what the calls lean on in memory (G) lies there. -/
import Derived.Test.YtinfbmfmmbibbaaDoorVh
import Derived.Test.YtinfbmfmmbibbaaDoorFi
namespace Go.Proofs.YtinfbmfmmbibbaaDoor
open Go.ChangeShapes Go.WideShapes Go.ChangeAt Go.RowKit
set_option linter.unusedVariables false
attribute [local go_sem ↓] Go.wp_at_zero Go.wp_at_succ

def RunV (r : Res) (w : World) (e : Ending) (w' : World) : Prop := e = .returned (.tuple #[.int .u32 r.ans, .int .i64 r.steps, .int .i64 r.err]) ∧ Below w.heap.size w w'
def TraceV (r : Res) (w : World) (e : Ending) (w' : World) : Prop := ∃ q c, e = .returned (.slice q r.pl.length c) ∧ w'.ownsRow w.heap.size 3 1 (.slice q r.pl.length c) r.pl.length (plV r.pl) ∧ Below w.heap.size w w'
structure VmC (G : World → Prop) : Prop where
  on : ∀ {w w' : World}, G w → Below w.heap.size w w' → G w'
  run : ∀ (a0 : Option Addr) (len cap : Nat) (p : List Ins) (d : Dat) (w : World), G w → p.length = len → len ≤ 1000 → OkL p → d.Ok → len ≤ cap → cap ≤ maxLen → (a0 = none → cap = 0) → RdI w w.heap.size a0 p → Calls Tryd.prog 9 #[.slice a0 len cap, datV d] w (RunV (runL p d) w)
  trace : ∀ (a0 : Option Addr) (len cap : Nat) (p : List Ins) (d : Dat) (w : World), G w → p.length = len → len ≤ 1000 → OkL p → d.Ok → len ≤ cap → cap ≤ maxLen → (a0 = none → cap = 0) → RdI w w.heap.size a0 p → Calls Tryd.prog 10 #[.slice a0 len cap, datV d] w (TraceV (runL p d) w)
theorem VmC.al {G : World → Prop} (H : VmC G) {w : World} (h : G w) (o : Obj) : G (w.alloc o) := H.on h ((Below.refl _ _).alloc (Nat.le_refl _) o)
/-- A program that stands in a block of its own. -/
theorem RdI.lit (w : World) (cs : Array Value) (e : TypeId) (l : List Ins) (h : cs.toList = progC l) : RdI (w.alloc (.cells cs e)) (w.alloc (.cells cs e)).heap.size (some ⟨w.heap.size, 0, none⟩) l := by
  refine RdI.of_cells (by simp) fun j u hu => ?_
  rw [Nat.zero_add, cell_of_row _ _ j _ _ (0, 0) (heap_alloc_new w _), ← Array.getElem?_toList, h]
  exact hu
theorem RdI.lit_at (w : World) (cs : Array Value) (e : TypeId) (l : List Ins) (h : cs.toList = progC l) (s : Nat) (hs : s = w.heap.size) : RdI (w.alloc (.cells cs e)) (w.alloc (.cells cs e)).heap.size (some ⟨s, 0, none⟩) l := by
  subst hs; exact RdI.lit w cs e l h
theorem told_yes {G : World → Prop} (HC : VmC G) (a0 : Option Addr) (len cap : Nat) (p : List Ins) (d : Dat) (x : Int) (n : Nat) (ni : Int) (hni : (n : Int) = ni) (f : Int) (w : World) (pl : List Nat) (hr : runL p d = ⟨x, n, pl, f⟩) (hG : G w) (hl : p.length = len) (hn : len ≤ 1000) (hp : OkL p) (hd : d.Ok) (hc : len ≤ cap) (hm : cap ≤ maxLen) (hz : a0 = none → cap = 0) (h : RdI w w.heap.size a0 p) :
    Calls Tryd.prog 20 #[.slice a0 len cap, datV d, .int .u32 x, .int .i64 ni, .int .i64 f] w fun e w' => e = .returned (.bool true) ∧ Below w.heap.size w w' := by
  have HR := Lib.hid (HC.run a0 len cap p d (w.alloc (.cells (datC d) 27)) (HC.al hG _) hl hn hp hd hc hm hz ((h.alloc (Nat.le_refl _) _).more (by simp)))
  rw [hr] at HR
  unfold RunV at HR
  simp only [hni] at HR
  clear HC hr hG hl hn hp hd hc hm hz h
  unfold datV at *
  unfold datC at *
  go_enter Tryd.func20, Tryd.ntmps20
  go_wp2_with (go_at_call 9; ((with_reducible refine (HR.out).mono ?_); rintro e w1 ⟨rfl, b1⟩))
  go_ret
  exact ⟨rfl, ((Below.refl _ _).alloc (Nat.le_refl _) _).trans (b1.mono (by simp))⟩
def exD1 : Dat := ⟨1, 0, 0, 0, 0, 0, 0, 0, 0⟩
def exD2 : Dat := ⟨2, 0, 0, 0, 0, 0, 0, 0, 0⟩
def exD0 : Dat := ⟨0, 0, 0, 0, 0, 0, 0, 0, 0⟩
theorem exD1_ok : exD1.Ok := by constructor <;> decide
theorem exD2_ok : exD2.Ok := by constructor <;> decide
theorem exD0_ok : exD0.Ok := by constructor <;> decide
theorem exP1 : runL [⟨32, 0, 0, 0⟩, ⟨21, 0, 1, 1⟩, ⟨6, 0, 0, 5⟩, ⟨6, 0, 0, 6⟩] exD1 = ⟨5, 3, [0, 1, 2], 0⟩ := by kernel_rfl
theorem exP2 : runL [⟨32, 0, 0, 0⟩, ⟨21, 0, 1, 1⟩, ⟨6, 0, 0, 5⟩, ⟨6, 0, 0, 6⟩] exD2 = ⟨6, 3, [0, 1, 3], 0⟩ := by kernel_rfl
theorem exQ0 : runL [⟨0, 0, 0, 7⟩, ⟨1, 0, 0, 0⟩, ⟨60, 0, 0, 0⟩, ⟨22, 0, 0, 0⟩] exD0 = ⟨0, 3, [0, 1, 2], 0⟩ := by kernel_rfl
theorem exQ1 : runL [⟨0, 0, 0, 7⟩, ⟨52, 0, 0, 0⟩] exD0 = ⟨0, 1, [0, 1], 44⟩ := by kernel_rfl
theorem exQ2 : runL ([] : List Ins) exD0 = ⟨0, 0, [], 46⟩ := by kernel_rfl
theorem exQ3 : runL [⟨0, 0, 0, 1⟩] exD0 = ⟨0, 1, [0], 46⟩ := by kernel_rfl
theorem exQ4 : runL [⟨5, 0, 0, 4⟩] exD0 = ⟨0, 1, [0], 42⟩ := by kernel_rfl
theorem exQ5 : runL [⟨32, 0, 0, 2⟩] exD0 = ⟨0, 0, [0], 41⟩ := by kernel_rfl
theorem exQ6 : runL [⟨96, 0, 0, 16⟩] exD0 = ⟨0, 0, [0], 43⟩ := by kernel_rfl
theorem exD0_cells {w : World} {b : Nat} (h : BoxD w b exD0) : w.cell? ⟨b, 0, none⟩ = some (.int .u32 0) ∧ w.cell? ⟨b, 1, none⟩ = some (.int .u32 0) ∧ w.cell? ⟨b, 2, none⟩ = some (.int .u64 0) ∧ w.cell? ⟨b, 3, none⟩ = some (.int .u64 0) ∧ w.cell? ⟨b, 4, none⟩ = some (.int .u64 0) ∧ w.cell? ⟨b, 5, none⟩ = some (.int .u64 0) ∧ w.cell? ⟨b, 6, none⟩ = some (.int .u64 0) ∧ w.cell? ⟨b, 7, none⟩ = some (.int .u64 0) ∧ w.cell? ⟨b, 8, none⟩ = some (.int .u64 0) := h.cells
theorem told_ex {G : World → Prop} (HC : VmC G) (s : Nat) (p : List Ins) (d : Dat) (x : Int) (n m : Nat) (ni : Int) (hni : (n : Int) = ni) (f : Int) (w : World) (pl : List Nat) (hr : runL p d = ⟨x, n, pl, f⟩) (hG : G w) (hl : p.length = m) (hn : m ≤ 1000) (hp : OkL p) (hd : d.Ok) (h : RdI w w.heap.size (some ⟨s, 0, none⟩) p) :
    Calls Tryd.prog 20 #[.slice (some ⟨s, 0, none⟩) m m, datV d, .int .u32 x, .int .i64 ni, .int .i64 f] w fun e w' => e = .returned (.bool true) ∧ Below w.heap.size w w' :=
  told_yes HC _ m m p d x n ni hni f w pl hr hG hl hn hp hd (Nat.le_refl _) (by unfold maxLen; omega) (fun h => by cases h) h
set_option maxRecDepth 100000 in
set_option maxHeartbeats 16000000 in
theorem awake4_any {G : World → Prop} (HC : VmC G) (w : World) (hG : G w) : Calls Tryd.prog 13 #[] w fun e w' => e = .returned (.bool true) ∧ Below w.heap.size w w' := by
  have T1 := Lib.hid (fun (W : World) (g : G W) (s : Nat) (h : RdI W W.heap.size (some ⟨s, 0, none⟩) [⟨32, 0, 0, 0⟩, ⟨21, 0, 1, 1⟩, ⟨6, 0, 0, 5⟩, ⟨6, 0, 0, 6⟩]) => told_ex HC s [⟨32, 0, 0, 0⟩, ⟨21, 0, 1, 1⟩, ⟨6, 0, 0, 5⟩, ⟨6, 0, 0, 6⟩] exD1 5 3 4 3 rfl 0 W _ exP1 g rfl (by omega) (OkL.cons (i := ⟨32, 0, 0, 0⟩) (by constructor <;> decide) (OkL.cons (i := ⟨21, 0, 1, 1⟩) (by constructor <;> decide) (OkL.cons (i := ⟨6, 0, 0, 5⟩) (by constructor <;> decide) (OkL.cons (i := ⟨6, 0, 0, 6⟩) (by constructor <;> decide) OkL.nil)))) exD1_ok h)
  have T2 := Lib.hid (fun (W : World) (g : G W) (s : Nat) (h : RdI W W.heap.size (some ⟨s, 0, none⟩) [⟨32, 0, 0, 0⟩, ⟨21, 0, 1, 1⟩, ⟨6, 0, 0, 5⟩, ⟨6, 0, 0, 6⟩]) => told_ex HC s [⟨32, 0, 0, 0⟩, ⟨21, 0, 1, 1⟩, ⟨6, 0, 0, 5⟩, ⟨6, 0, 0, 6⟩] exD2 6 3 4 3 rfl 0 W _ exP2 g rfl (by omega) (OkL.cons (i := ⟨32, 0, 0, 0⟩) (by constructor <;> decide) (OkL.cons (i := ⟨21, 0, 1, 1⟩) (by constructor <;> decide) (OkL.cons (i := ⟨6, 0, 0, 5⟩) (by constructor <;> decide) (OkL.cons (i := ⟨6, 0, 0, 6⟩) (by constructor <;> decide) OkL.nil)))) exD2_ok h)
  have T3 := Lib.hid (fun (W : World) (g : G W) (s : Nat) (h : RdI W W.heap.size (some ⟨s, 0, none⟩) [⟨32, 0, 0, 0⟩, ⟨21, 0, 1, 1⟩, ⟨6, 0, 0, 5⟩, ⟨6, 0, 0, 6⟩]) => HC.trace (some ⟨s, 0, none⟩) 4 4 [⟨32, 0, 0, 0⟩, ⟨21, 0, 1, 1⟩, ⟨6, 0, 0, 5⟩, ⟨6, 0, 0, 6⟩] exD2 W g rfl (by omega) (OkL.cons (i := ⟨32, 0, 0, 0⟩) (by constructor <;> decide) (OkL.cons (i := ⟨21, 0, 1, 1⟩) (by constructor <;> decide) (OkL.cons (i := ⟨6, 0, 0, 5⟩) (by constructor <;> decide) (OkL.cons (i := ⟨6, 0, 0, 6⟩) (by constructor <;> decide) OkL.nil)))) exD2_ok (Nat.le_refl _) (by unfold maxLen; omega) (fun h => by cases h) h)
  rw [exP2] at T3
  have Q0 := Lib.hid (fun (W : World) (g : G W) (s : Nat) (h : RdI W W.heap.size (some ⟨s, 0, none⟩) [⟨0, 0, 0, 7⟩, ⟨1, 0, 0, 0⟩, ⟨60, 0, 0, 0⟩, ⟨22, 0, 0, 0⟩]) => told_ex HC s [⟨0, 0, 0, 7⟩, ⟨1, 0, 0, 0⟩, ⟨60, 0, 0, 0⟩, ⟨22, 0, 0, 0⟩] exD0 0 3 4 3 rfl 0 W _ exQ0 g rfl (by omega) (OkL.cons (i := ⟨0, 0, 0, 7⟩) (by constructor <;> decide) (OkL.cons (i := ⟨1, 0, 0, 0⟩) (by constructor <;> decide) (OkL.cons (i := ⟨60, 0, 0, 0⟩) (by constructor <;> decide) (OkL.cons (i := ⟨22, 0, 0, 0⟩) (by constructor <;> decide) OkL.nil)))) exD0_ok h)
  have Q1 := Lib.hid (fun (W : World) (g : G W) (s : Nat) (h : RdI W W.heap.size (some ⟨s, 0, none⟩) [⟨0, 0, 0, 7⟩, ⟨52, 0, 0, 0⟩]) => told_ex HC s [⟨0, 0, 0, 7⟩, ⟨52, 0, 0, 0⟩] exD0 0 1 2 1 rfl 44 W _ exQ1 g rfl (by omega) (OkL.cons (i := ⟨0, 0, 0, 7⟩) (by constructor <;> decide) (OkL.cons (i := ⟨52, 0, 0, 0⟩) (by constructor <;> decide) OkL.nil)) exD0_ok h)
  have Q2 := Lib.hid (fun (W : World) (g : G W) => told_yes HC none 0 0 [] exD0 0 0 0 rfl 46 W _ exQ2 g rfl (by omega) OkL.nil exD0_ok (Nat.le_refl _) (Nat.zero_le _) (fun _ => rfl) (RdI.nil _ _ _))
  have Q3 := Lib.hid (fun (W : World) (g : G W) (s : Nat) (h : RdI W W.heap.size (some ⟨s, 0, none⟩) [⟨0, 0, 0, 1⟩]) => told_ex HC s [⟨0, 0, 0, 1⟩] exD0 0 1 1 1 rfl 46 W _ exQ3 g rfl (by omega) (OkL.cons (i := ⟨0, 0, 0, 1⟩) (by constructor <;> decide) OkL.nil) exD0_ok h)
  have Q4 := Lib.hid (fun (W : World) (g : G W) (s : Nat) (h : RdI W W.heap.size (some ⟨s, 0, none⟩) [⟨5, 0, 0, 4⟩]) => told_ex HC s [⟨5, 0, 0, 4⟩] exD0 0 1 1 1 rfl 42 W _ exQ4 g rfl (by omega) (OkL.cons (i := ⟨5, 0, 0, 4⟩) (by constructor <;> decide) OkL.nil) exD0_ok h)
  have Q5 := Lib.hid (fun (W : World) (g : G W) (s : Nat) (h : RdI W W.heap.size (some ⟨s, 0, none⟩) [⟨32, 0, 0, 2⟩]) => told_ex HC s [⟨32, 0, 0, 2⟩] exD0 0 0 1 0 rfl 41 W _ exQ5 g rfl (by omega) (OkL.cons (i := ⟨32, 0, 0, 2⟩) (by constructor <;> decide) OkL.nil) exD0_ok h)
  have Q6 := Lib.hid (fun (W : World) (g : G W) (s : Nat) (h : RdI W W.heap.size (some ⟨s, 0, none⟩) [⟨96, 0, 0, 16⟩]) => told_ex HC s [⟨96, 0, 0, 16⟩] exD0 0 0 1 0 rfl 43 W _ exQ6 g rfl (by omega) (OkL.cons (i := ⟨96, 0, 0, 16⟩) (by constructor <;> decide) OkL.nil) exD0_ok h)
  unfold TraceV at T3
  simp only at T3
  have HON := Lib.hid (fun (w w' : World) => HC.on (w := w) (w' := w'))
  have HAL := Lib.hid (fun (w : World) (h : G w) (o : Obj) => HC.al h o)
  have HG := Lib.hid hG
  have L9 := Lib.hid (fun W => RdI.lit W #[.int .u16 32, .int .u8 0, .int .u8 0, .int .u32 0, .int .u16 21, .int .u8 0, .int .u8 1, .int .u32 1, .int .u16 6, .int .u8 0, .int .u8 0, .int .u32 5, .int .u16 6, .int .u8 0, .int .u8 0, .int .u32 6] 40 [⟨32, 0, 0, 0⟩, ⟨21, 0, 1, 1⟩, ⟨6, 0, 0, 5⟩, ⟨6, 0, 0, 6⟩] rfl)
  have L0 := Lib.hid (fun (W : World) (s : Nat) (hs : s = W.heap.size) => RdI.lit_at W #[.int .u16 0, .int .u8 0, .int .u8 0, .int .u32 7, .int .u16 1, .int .u8 0, .int .u8 0, .int .u32 0, .int .u16 60, .int .u8 0, .int .u8 0, .int .u32 0, .int .u16 22, .int .u8 0, .int .u8 0, .int .u32 0] 40 [⟨0, 0, 0, 7⟩, ⟨1, 0, 0, 0⟩, ⟨60, 0, 0, 0⟩, ⟨22, 0, 0, 0⟩] rfl s hs)
  have L1 := Lib.hid (fun (W : World) (s : Nat) (hs : s = W.heap.size) => RdI.lit_at W #[.int .u16 0, .int .u8 0, .int .u8 0, .int .u32 7, .int .u16 52, .int .u8 0, .int .u8 0, .int .u32 0] 40 [⟨0, 0, 0, 7⟩, ⟨52, 0, 0, 0⟩] rfl s hs)
  have L3 := Lib.hid (fun (W : World) (s : Nat) (hs : s = W.heap.size) => RdI.lit_at W #[.int .u16 0, .int .u8 0, .int .u8 0, .int .u32 1] 40 [⟨0, 0, 0, 1⟩] rfl s hs)
  have L4 := Lib.hid (fun (W : World) (s : Nat) (hs : s = W.heap.size) => RdI.lit_at W #[.int .u16 5, .int .u8 0, .int .u8 0, .int .u32 4] 40 [⟨5, 0, 0, 4⟩] rfl s hs)
  have L5 := Lib.hid (fun (W : World) (s : Nat) (hs : s = W.heap.size) => RdI.lit_at W #[.int .u16 32, .int .u8 0, .int .u8 0, .int .u32 2] 40 [⟨32, 0, 0, 2⟩] rfl s hs)
  have L6 := Lib.hid (fun (W : World) (s : Nat) (hs : s = W.heap.size) => RdI.lit_at W #[.int .u16 96, .int .u8 0, .int .u8 0, .int .u32 16] 40 [⟨96, 0, 0, 16⟩] rfl s hs)
  simp only [show datV exD1 = .agg #[.int .u32 1, .int .u32 0, .int .u64 0, .int .u64 0, .int .u64 0, .int .u64 0, .int .u64 0, .int .u64 0, .int .u64 0] from rfl, show datV exD2 = .agg #[.int .u32 2, .int .u32 0, .int .u64 0, .int .u64 0, .int .u64 0, .int .u64 0, .int .u64 0, .int .u64 0, .int .u64 0] from rfl, show datV exD0 = .agg #[.int .u32 0, .int .u32 0, .int .u64 0, .int .u64 0, .int .u64 0, .int .u64 0, .int .u64 0, .int .u64 0, .int .u64 0] from rfl] at T1 T2 T3 Q0 Q1 Q2 Q3 Q4 Q5 Q6
  clear HC hG
  go_enter Tryd.func13, Tryd.ntmps13
  go_wp2_with (first
    | (go_at_call 20; ((with_reducible refine (T1.out _ (HAL.out _ HG.out _) _ (L9.out w)).mono ?_); rintro e w1 ⟨rfl, b1⟩); have G1 := HON.out _ _ (HAL.out _ HG.out _) b1; have R1 := (L9.out w).on b1; have B1 : Below w.heap.size w w1 := ((Below.refl _ _).alloc (Nat.le_refl _) _).trans (b1.mono (by simp)))
    | (go_at_call 20; ((with_reducible refine (T2.out _ G1 _ R1).mono ?_); rintro e w2 ⟨rfl, b2⟩); have G2 := HON.out _ _ G1 b2; have R2 := R1.on b2; have B2 := thn B1 b2)
    | (go_at_call 10; ((with_reducible refine (T3.out _ G2 _ R2).mono ?_); rintro e w3 ⟨q3, c3, rfl, o3, b3⟩); have G3 := HAL.out _ (HON.out _ _ G2 b3) (.cells #[.int .u32 0, .int .u32 0, .int .u64 0, .int .u64 0, .int .u64 0, .int .u64 0, .int .u64 0, .int .u64 0, .int .u64 0] 27); have B3 := (thn B2 b3).alloc (thn B2 b3).size (.cells #[.int .u32 0, .int .u32 0, .int .u64 0, .int .u64 0, .int .u64 0, .int .u64 0, .int .u64 0, .int .u64 0, .int .u64 0] 27); have X3 := BoxD.new w3 exD0; clear o3)
    | (go_at_call 20; ((with_reducible refine (Q0.out _ (HAL.out _ G3 _) _ (L0.out _ _ (by first | rfl | simp))).mono ?_); rintro e w4 ⟨rfl, b4⟩); have G4 := HON.out _ _ (HAL.out _ G3 _) b4; have B4 := thn (B3.alloc B3.size _) b4; have X4 := BoxD.on (X3.alloc _) b4; obtain ⟨z0, z1, z2, z3, z4, z5, z6, z7, z8⟩ := exD0_cells X4; have lt4 : w3.heap.size < w4.heap.size := BoxD.lt X4)
    | (go_at_call 20; ((with_reducible refine (Q1.out _ (HAL.out _ G4 _) _ (L1.out _ _ (by first | rfl | simp))).mono ?_); rintro e w5 ⟨rfl, b5⟩); have G5 := HON.out _ _ (HAL.out _ G4 _) b5; have B5 := thn (B4.alloc B4.size _) b5; have X5 := BoxD.on (X4.alloc _) b5; clear z0 z1 z2 z3 z4 z5 z6 z7 z8; obtain ⟨z0, z1, z2, z3, z4, z5, z6, z7, z8⟩ := exD0_cells X5; have lt5 : w3.heap.size < w5.heap.size := BoxD.lt X5)
    | (go_at_call 20; ((with_reducible refine (Q2.out _ G5).mono ?_); rintro e w6 ⟨rfl, b6⟩); have G6 := HON.out _ _ G5 b6; have B6 := thn B5 b6; have X6 := BoxD.on X5 b6; clear z0 z1 z2 z3 z4 z5 z6 z7 z8; obtain ⟨z0, z1, z2, z3, z4, z5, z6, z7, z8⟩ := exD0_cells X6; have lt6 : w3.heap.size < w6.heap.size := BoxD.lt X6)
    | (go_at_call 20; ((with_reducible refine (Q3.out _ (HAL.out _ G6 _) _ (L3.out _ _ (by first | rfl | simp))).mono ?_); rintro e w7 ⟨rfl, b7⟩); have G7 := HON.out _ _ (HAL.out _ G6 _) b7; have B7 := thn (B6.alloc B6.size _) b7; have X7 := BoxD.on (X6.alloc _) b7; clear z0 z1 z2 z3 z4 z5 z6 z7 z8; obtain ⟨z0, z1, z2, z3, z4, z5, z6, z7, z8⟩ := exD0_cells X7; have lt7 : w3.heap.size < w7.heap.size := BoxD.lt X7)
    | (go_at_call 20; ((with_reducible refine (Q4.out _ (HAL.out _ G7 _) _ (L4.out _ _ (by first | rfl | simp))).mono ?_); rintro e w8 ⟨rfl, b8⟩); have G8 := HON.out _ _ (HAL.out _ G7 _) b8; have B8 := thn (B7.alloc B7.size _) b8; have X8 := BoxD.on (X7.alloc _) b8; clear z0 z1 z2 z3 z4 z5 z6 z7 z8; obtain ⟨z0, z1, z2, z3, z4, z5, z6, z7, z8⟩ := exD0_cells X8; have lt8 : w3.heap.size < w8.heap.size := BoxD.lt X8)
    | (go_at_call 20; ((with_reducible refine (Q5.out _ (HAL.out _ G8 _) _ (L5.out _ _ (by first | rfl | simp))).mono ?_); rintro e w9 ⟨rfl, b9⟩); have G9 := HON.out _ _ (HAL.out _ G8 _) b9; have B9 := thn (B8.alloc B8.size _) b9; have X9 := BoxD.on (X8.alloc _) b9; clear z0 z1 z2 z3 z4 z5 z6 z7 z8; obtain ⟨z0, z1, z2, z3, z4, z5, z6, z7, z8⟩ := exD0_cells X9; have lt9 : w3.heap.size < w9.heap.size := BoxD.lt X9)
    | (go_at_call 20; ((with_reducible refine (Q6.out _ (HAL.out _ G9 _) _ (L6.out _ _ (by first | rfl | simp))).mono ?_); rintro e w10 ⟨rfl, b10⟩); have G10 := HON.out _ _ (HAL.out _ G9 _) b10; have B10 := thn (B9.alloc B9.size _) b10; have X10 := BoxD.on (X9.alloc _) b10; clear z0 z1 z2 z3 z4 z5 z6 z7 z8; obtain ⟨z0, z1, z2, z3, z4, z5, z6, z7, z8⟩ := exD0_cells X10; have lt10 : w3.heap.size < w10.heap.size := BoxD.lt X10))
  go_ret
  exact ⟨rfl, B10⟩
end Go.Proofs.YtinfbmfmmbibbaaDoor
