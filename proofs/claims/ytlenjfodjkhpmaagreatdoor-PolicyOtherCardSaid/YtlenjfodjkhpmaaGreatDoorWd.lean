/- What the functions Cat and Same of the package words return, and what the document's own Copy, Cat and Same return, of slices that read as lists of bytes. Condition: the lengths together are at most 2 to the 46th. What the document's own Cat and the function Cat of the package words return, of slices that read as lists of bytes. Condition: the lengths together are at most 2 to the 46th. What the function Cat of the package words returns, of slices that read as lists of bytes: all of them, one behind the other, in new memory. Condition: the lengths together are at most 2 to the 46th. The examples of the chapter on words, as the statements begin with them: they answer true. No condition. Calls of the package words one behind the other, each in the world that the one ahead of it left: the bytes of numbers, two lists as one. Condition: the lengths together are at most 2 to the 46th. How an argument of a statement is opened: bytes that came in, as a list of bytes. No condition. -/
import Derived.Laws.BitsAllLaws
import Derived.WalkKit
import Derived.Test.YtlenjfodjkhpmaaGreatDoorRows
import Derived.WalkSpells
import Derived.Lib.Strings
import Derived.Lib.Slices
import Derived.Lib.Small
import Derived.Lib.Walk
import Derived.Lib.BitFns
import Derived.Lib.Hide
import Derived.LoopTactic
import Derived.Deep.Draws
import Derived.Laws.ShiftsVarLaws
import Derived.Laws.CopyOwn
import Derived.Laws.BytesArg
import Derived.BigQuiet
import Derived.Deep.QuietTactic
import Derived.ProofKit
import Derived.OpenShut
import Derived.ShutString
import Derived.ChangeOld
import Derived.Below
namespace Go.Proofs.YtlenjfodjkhpmaaGreatDoor
set_option maxRecDepth 100000

def Byt (l : List Int) : Prop := ∀ x ∈ l, 0 ≤ x ∧ x < 256
theorem Byt.nil : Byt [] := fun _ h => by cases h
theorem Byt.cons {b : Int} {l : List Int} (h0 : 0 ≤ b) (h1 : b < 256) (h : Byt l) : Byt (b :: l) := fun x hx => by
 rcases List.mem_cons.1 hx with rfl | hx
 ·exact ⟨h0, h1⟩
 ·exact h x hx
theorem Byt.head {b : Int} {l : List Int} (h : Byt (b :: l)) : 0 ≤ b ∧ b < 256 := h b (List.mem_cons_self ..)
theorem Byt.take {l : List Int} (h : Byt l) (n : Nat) : Byt (l.take n) := fun x hx => h x (List.mem_of_mem_take hx)
theorem Byt.drop {l : List Int} (h : Byt l) (n : Nat) : Byt (l.drop n) := fun x hx => h x (List.mem_of_mem_drop hx)
theorem Byt.getD {l : List Int} (h : Byt l) (i : Nat) : 0 ≤ l.getD i 0 ∧ l.getD i 0 < 256 := by
 by_cases hi : i < l.length
 ·rw [List.getD_eq_getElem?_getD, List.getElem?_eq_getElem hi]; exact h _ (List.getElem_mem hi)
 ·rw [List.getD_eq_getElem?_getD, List.getElem?_eq_none (by omega)]; simp
set_option maxRecDepth 100000
open Go.RowKit

set_option maxRecDepth 100000
open Go.RowKit

def Rd (w : World) (B : Nat) (p : Option Addr) (xs : List Int) : Prop :=
 0 < xs.length → ∃ b o, p = some ⟨b, o, none⟩ ∧ b < B ∧ ∀ i, i < xs.length → w.cell? ⟨b, o + i, none⟩ = some (.int .u8 (xs.getD i 0))
theorem Rd.nil (w : World) (B : Nat) (p : Option Addr) : Rd w B p [] := fun h => absurd h (by simp)
theorem Rd.keep {w w' : World} {B : Nat} {p : Option Addr} {xs : List Int} (h : Rd w B p xs) (hk : ∀ q : Addr, q.block < B → w'.cell? q = w.cell? q) : Rd w' B p xs := fun hn => by
 obtain ⟨b, o, e, hb, hc⟩ := h hn
 exact ⟨b, o, e, hb, fun i hi => (hk _ hb).trans (hc i hi)⟩
theorem Rd.more {w : World} {B B' : Nat} {p : Option Addr} {xs : List Int} (h : Rd w B p xs) (hB : B ≤ B') : Rd w B' p xs := fun hn => by
 obtain ⟨b, o, e, hb, hc⟩ := h hn
 exact ⟨b, o, e, by omega, hc⟩
theorem Rd.below {w w' : World} {B B' : Nat} {p : Option Addr} {xs : List Int} (h : Rd w B p xs) (hb : Below B' w w') (hB : B ≤ B') : Rd w' B p xs := h.keep fun _ hq => hb.cell (by omega)
theorem Rd.drewN {w : World} {B : Nat} {p : Option Addr} {xs : List Int} (h : Rd w B p xs) (n : Nat) : Rd (w.drewN n) B p xs := h
theorem Rd.alloc {w : World} {B : Nat} {p : Option Addr} {xs : List Int} (h : Rd w B p xs) (hB : B ≤ w.heap.size) (o : Obj) : Rd (w.alloc o) B p xs := h.keep fun q hq => World.cell?_alloc_lt w o q (by omega)
theorem Rd.setCell {w : World} {B : Nat} {p : Option Addr} {xs : List Int} (h : Rd w B p xs) {q : Addr} (hB : B ≤ q.block) (u : Value) : Rd (w.setCell q u) B p xs :=
 h.keep fun r hr => World.cell?_setCell_other w q r u (fun e => by subst e; omega)
theorem Rd.grown {w w' : World} {B : Nat} {p : Option Addr} {xs : List Int} (h : Rd w B p xs) {row : Option Nat} (hg : w.grownBy w' row) (hB : B ≤ w.heap.size) (hr : ∀ g, row = some g → B ≤ g) : Rd w' B p xs :=
 h.keep fun q hq => World.cell?_of_block (hg.block q.block (by omega) (fun e => by have := hr _ e.symm; omega))
theorem Rd.cut {w : World} {B : Nat} {b o : Nat} {xs : List Int} (h : Rd w B (some ⟨b, o, none⟩) xs) (k m : Nat) : Rd w B (some ⟨b, o + k, none⟩) ((xs.drop k).take m) := fun hn => by
 have hl : ((xs.drop k).take m).length ≤ xs.length - k := by rw [List.length_take, List.length_drop]; omega
 obtain ⟨b', o', e, hb, hc⟩ := h (by omega)
 injection e with e; injection e with e1 e2 _
 subst e1 e2
 refine ⟨b, o + k, rfl, hb, fun i hi => ?_⟩
 rw [Nat.add_assoc, hc (k + i) (by omega)]
 have : i < m := by rw [List.length_take] at hi; omega
 simp only [List.getD_eq_getElem?_getD, List.getElem?_take, List.getElem?_drop, if_pos this]
theorem Rd.drop {w : World} {B : Nat} {b o : Nat} {xs : List Int} (h : Rd w B (some ⟨b, o, none⟩) xs) (k : Nat) : Rd w B (some ⟨b, o + k, none⟩) (xs.drop k) := by
 have := h.cut k (xs.length - k)
 rwa [List.take_of_length_le (by rw [List.length_drop]; exact Nat.le_refl _)] at this
theorem Rd.take {w : World} {B : Nat} {p : Option Addr} {xs : List Int} (h : Rd w B p xs) (m : Nat) : Rd w B p (xs.take m) := fun hn => by
 have hl : (xs.take m).length ≤ xs.length := by rw [List.length_take]; omega
 obtain ⟨b, o, e, hb, hc⟩ := h (by omega)
 refine ⟨b, o, e, hb, fun i hi => ?_⟩
 rw [hc i (by omega)]
 have : i < m := by rw [List.length_take] at hi; omega
 simp only [List.getD_eq_getElem?_getD, List.getElem?_take, if_pos this]
theorem Rd.of_own {w : World} {base g c n : Nat} {e : TypeId} {xs : List Int} (h : w.ownsRow base e 1 (.slice (some ⟨g, 0, none⟩) n c) n (xs.map (Value.int .u8))) : Rd w w.heap.size (some ⟨g, 0, none⟩) xs := fun _ => by
 have hn : xs.length = n := by have := h.1; simpa using this
 refine ⟨g, 0, rfl, (h.lt g rfl).2, fun i hi => ?_⟩
 rw [Nat.zero_add, h.cellAt i (by omega)]
 simp [List.getD_eq_getElem?_getD, hi]

set_option maxRecDepth 100000
open Go.RowKit
set_option linter.unusedVariables false

def bv (l : List Int) : List Value := l.map (Value.int .u8)
theorem bv_length (l : List Int) : (bv l).length = l.length := List.length_map ..
theorem bv_get {l : List Int} {i : Nat} (h : i < l.length) : (bv l)[i]? = some (.int .u8 (l.getD i 0)) := by
 simp [bv, List.getD_eq_getElem?_getD, h]
set_option maxRecDepth 100000
open Go.RowKit
set_option linter.unusedVariables false

theorem Rd.convert {w : World} {B : Nat} {p : Option Addr} {xs : List Int} (h : Rd w B p xs) (n c : Nat) (hx : xs.length = n) :
 (convert 159 9 (.slice p n c)).run Tryz.prog w = .ok (.string (strOfNums xs)) w := by
 subst hx
 by_cases h0 : xs.length = 0
 ·obtain rfl : xs = [] := List.eq_nil_of_length_eq_zero h0
  rw [run_convert_bytes_string w _ _ _ _ _ c Tryz.underlying159 Tryz.underlying5 Tryz.underlying9]
  cases p <;> simp [Conv.bytesToString, loadCells]
  all_goals rfl
 ·obtain ⟨b, o, rfl, _, hc⟩ := h (by omega)
  exact run_convert_bytes_arg (P := Tryz.prog) w _ _ Tryz.underlying159 Tryz.underlying5 b o _ c xs rfl hc _ Tryz.underlying9
theorem Rd.news {w : World} {B : Nat} {p : Option Addr} {xs : List Int} (h : Rd w B p xs) (hn : 0 < (bv xs).length) : ∃ ad, p = some ad ∧ ∀ j v, (bv xs)[j]? = some v → w.cell? (ad.add j) = some v := by
 rw [bv_length] at hn
 obtain ⟨b, o, rfl, _, hc⟩ := h hn
 refine ⟨_, rfl, fun j v hv => ?_⟩
 have hj : j < xs.length := by
  have := (List.getElem?_eq_some_iff.1 hv).1
  rwa [bv_length] at this
 rw [Addr.add_lit, hc j hj, ← bv_get hj, hv]
set_option maxRecDepth 100000
open Go.RowKit
set_option linter.unusedVariables false

def RdL (w : World) (B : Nat) (p : Option Addr) (xss : List (List Int)) : Prop :=
 0 < xss.length → ∃ b o, p = some ⟨b, o, none⟩ ∧ b < B ∧ ∀ i, i < xss.length → ∃ q c, w.cell? ⟨b, o + i, none⟩ = some (.slice q (xss.getD i []).length c) ∧ Rd w B q (xss.getD i []) ∧ (q = none → c = 0)
theorem RdL.keep {w w' : World} {B : Nat} {p : Option Addr} {xss : List (List Int)} (h : RdL w B p xss) (hk : ∀ q : Addr, q.block < B → w'.cell? q = w.cell? q) : RdL w' B p xss := fun hn => by
 obtain ⟨b, o, e, hb, hc⟩ := h hn
 refine ⟨b, o, e, hb, fun i hi => ?_⟩
 obtain ⟨q, c, h1, h2, h3⟩ := hc i hi
 exact ⟨q, c, (hk _ hb).trans h1, h2.keep hk, h3⟩
theorem RdL.below {w w' : World} {B B' : Nat} {p : Option Addr} {xss : List (List Int)} (h : RdL w B p xss) (hb : Below B' w w') (hB : B ≤ B') : RdL w' B p xss := h.keep fun _ hq => hb.cell (by omega)
theorem RdL.more {w : World} {B B' : Nat} {p : Option Addr} {xss : List (List Int)} (h : RdL w B p xss) (hB : B ≤ B') : RdL w B' p xss := fun hn => by
 obtain ⟨b, o, e, hb, hc⟩ := h hn
 refine ⟨b, o, e, by omega, fun i hi => ?_⟩
 obtain ⟨q, c, h1, h2, h3⟩ := hc i hi
 exact ⟨q, c, h1, h2.more hB, h3⟩
set_option maxRecDepth 100000
open Go.RowKit
set_option linter.unusedVariables false

theorem RdL.news {w : World} {B : Nat} {q : Option Addr} {c : Nat} {xs : List Int} (h : Rd w B q xs) (hq : q = none → c = 0) :
 (q = none → xs.length = 0 ∧ c = 0) ∧ ∀ ad, q = some ad → ∀ j u, (bv xs)[j]? = some u → w.cell? (ad.add j) = some u := by
 refine ⟨fun e => ⟨?_, hq e⟩, fun ad e j u hu => ?_⟩
 ·rcases Nat.eq_zero_or_pos xs.length with h0 | h0
  ·exact h0
  ·obtain ⟨b, o, e', _⟩ := h h0
   rw [e] at e'; cases e'
 ·have hj : j < xs.length := by
   have := (List.getElem?_eq_some_iff.1 hu).1
   rwa [bv_length] at this
  obtain ⟨ad', e', hc⟩ := h.news (by rw [bv_length]; omega)
  rw [e] at e'
  obtain rfl := Option.some.inj e'
  exact hc j u hu
set_option maxRecDepth 100000
open Go.RowKit
set_option linter.unusedVariables false

theorem Rd.lit (w : World) (cs : Array Value) (e : TypeId) (xs : List Int) (h : cs = (bv xs).toArray) : Rd (w.alloc (.cells cs e)) (w.heap.size + 1) (some ⟨w.heap.size, 0, none⟩) xs := fun _ => by
 subst h
 refine ⟨_, 0, rfl, by omega, fun i hi => ?_⟩
 rw [Nat.zero_add, cell_of_row (w.alloc (.cells (bv xs).toArray e)) w.heap.size i (bv xs).toArray e (0, 0) (heap_alloc_new w _), List.getElem?_toArray, bv_get hi]
set_option maxRecDepth 100000
open Go.RowKit
set_option linter.unusedVariables false

theorem Rd.on {w w' : World} {p : Option Addr} {xs : List Int} (h : Rd w w.heap.size p xs) (hb : Below w.heap.size w w') : Rd w' w'.heap.size p xs := (h.below hb (Nat.le_refl _)).more hb.size
theorem thn {w0 w w' : World} (h : Below w0.heap.size w0 w) (k : Below w.heap.size w w') : Below w0.heap.size w0 w' := h.trans (k.mono h.size)
theorem RdL.two {w : World} {p q : Option Addr} {n m c d : Nat} {xs ys : List Int} (e : TypeId) (h1 : Rd w w.heap.size p xs) (h2 : Rd w w.heap.size q ys) (hx : xs.length = n) (hy : ys.length = m) (hp : p = none → c = 0) (hq : q = none → d = 0) :
 RdL (w.alloc (.cells #[.slice p n c, .slice q m d] e)) (w.heap.size + 1) (some ⟨w.heap.size, 0, none⟩) [xs, ys] := fun _ => by
 subst hx hy
 refine ⟨_, 0, rfl, by omega, fun i hi => ?_⟩
 rw [Nat.zero_add, cell_of_row (w.alloc (.cells #[.slice p xs.length c, .slice q ys.length d] e)) w.heap.size i _ e (0, 0) (heap_alloc_new w _)]
 match i, hi with
 | 0, _ => exact ⟨p, c, rfl, (h1.alloc (Nat.le_refl _) _).more (by omega), hp⟩
 | 1, _ => exact ⟨q, d, rfl, (h2.alloc (Nat.le_refl _) _).more (by omega), hq⟩
def Mine (w : World) (B g n : Nat) : Prop := ∃ l : List Int, w.ownsRow B 5 1 (.slice (some ⟨g, 0, none⟩) n n) n (bv l)
theorem own_block {w w' : World} {B g n c : Nat} {e : TypeId} {xs : List Value} (h : w.ownsRow B e 1 (.slice (some ⟨g, 0, none⟩) n c) n xs) (hk : w'.heap[g]? = w.heap[g]?) : w'.ownsRow B e 1 (.slice (some ⟨g, 0, none⟩) n c) n xs := by
 obtain ⟨h1, h2⟩ := h
 refine ⟨h1, ?_⟩
 rcases h2 with ⟨h', _⟩ | ⟨g', cap, cur, hv, hg, hh, r⟩
 ·simp at h'
 ·refine Or.inr ⟨g', cap, cur, hv, hg, ?_, r⟩
  simp only [Value.slice.injEq, Option.some.injEq, Addr.mk.injEq, and_true, true_and] at hv
  obtain ⟨rfl, _⟩ := hv
  rw [hk]; exact hh
theorem Mine.lt {w : World} {B g n : Nat} (h : Mine w B g n) : B ≤ g ∧ g < w.heap.size := by obtain ⟨l, h⟩ := h; exact h.lt g rfl
theorem Mine.on {w w' : World} {B g n : Nat} (h : Mine w B g n) (hb : Below w.heap.size w w') : Mine w' B g n := by
 have hl := h.lt.2
 obtain ⟨l, h⟩ := h
 exact ⟨l, own_block h (hb.block g hl)⟩
theorem Mine.far {w : World} {B g n h : Nat} (m : Mine w B g n) (hne : g ≠ h) (j : Nat) (u : Value) : Mine (w.setCell ⟨h, j, none⟩ u) B g n := by
 obtain ⟨l, m⟩ := m
 exact ⟨l, own_block m (Below.heap_setCell _ _ _ _ hne)⟩
theorem Mine.cell {w : World} {B g n j : Nat} (m : Mine w B g n) (hj : j < n) : (∃ v, w.cell? ⟨g, j, none⟩ = some (.int .u8 v)) ∧ w.frozen? ⟨g, j, none⟩ = false := by
 obtain ⟨l, m⟩ := m
 refine ⟨?_, m.frozenAt j⟩
 have hl : l.length = n := by have := m.1; rw [bv_length] at this; omega
 rw [m.cellAt j (by omega)]
 exact ⟨_, bv_get (by omega)⟩
set_option maxRecDepth 100000
open Go.ChangeShapes Go.WideShapes Go.ChangeAt Go.RowKit
set_option linter.unusedVariables false

theorem ownKnob_none : ownKnob Tryz.prog.godebug = none := by kernel_rfl
theorem laidOut : laidOutB Tryz.prog = true := by kernel_rfl
end Go.Proofs.YtlenjfodjkhpmaaGreatDoor
