/- Numbers as bytes, the least byte ahead: the number of a list of bytes, the bytes of a number, and what the one makes of the other. Plain lists and integers, no program. What the small functions of the package words return: the number of bytes of each integer type, the halves of a number, the number of two halves. No condition. What the functions Get16, Get32, Get64 of the package words return of a slice that reads as a list of bytes, and what the document's own Get returns of it. Condition: the slice is as long as its capacity allows; the number of bytes that is asked for is at most 8. What the functions Put16, Put32, Put64 of the package words return, and what the document's own Put and Get return at 2, 4 and 8 bytes. Condition: the number is at least 0. -/
import Derived.Laws.BitsAllLaws
import Derived.WalkKit
import Derived.Test.YtanifiobfbfehaaGreatDoorRows
import Derived.WalkSpells
import Derived.Lib.Strings
import Derived.Lib.Slices
import Derived.Lib.Small
import Derived.Lib.Walk
import Derived.Lib.BitFns
import Derived.Lib.Hide
import Derived.LoopTactic
import Derived.Deep.Draws
import Derived.Laws.ShiftsVarLaws
namespace Go.Proofs.YtanifiobfbfehaaGreatDoor

/-- Every element is a byte. -/
def Byt (l : List Int) : Prop := ∀ x ∈ l, 0 ≤ x ∧ x < 256
theorem Byt.nil : Byt [] := fun _ h => by cases h
theorem Byt.cons {b : Int} {l : List Int} (h0 : 0 ≤ b) (h1 : b < 256) (h : Byt l) : Byt (b :: l) := fun x hx => by
  rcases List.mem_cons.1 hx with rfl | hx
  · exact ⟨h0, h1⟩
  · exact h x hx
theorem Byt.head {b : Int} {l : List Int} (h : Byt (b :: l)) : 0 ≤ b ∧ b < 256 := h b (List.mem_cons_self ..)
theorem Byt.take {l : List Int} (h : Byt l) (n : Nat) : Byt (l.take n) := fun x hx => h x (List.mem_of_mem_take hx)
theorem Byt.drop {l : List Int} (h : Byt l) (n : Nat) : Byt (l.drop n) := fun x hx => h x (List.mem_of_mem_drop hx)
theorem Byt.getD {l : List Int} (h : Byt l) (i : Nat) : 0 ≤ l.getD i 0 ∧ l.getD i 0 < 256 := by
  by_cases hi : i < l.length
  · rw [List.getD_eq_getElem?_getD, List.getElem?_eq_getElem hi]; exact h _ (List.getElem_mem hi)
  · rw [List.getD_eq_getElem?_getD, List.getElem?_eq_none (by omega)]; simp
end Go.Proofs.YtanifiobfbfehaaGreatDoor
namespace Go.Proofs.YtanifiobfbfehaaGreatDoor
open Go.RowKit

end Go.Proofs.YtanifiobfbfehaaGreatDoor
namespace Go.Proofs.YtanifiobfbfehaaGreatDoor
open Go.RowKit

/-- The slice's address p leads, below block B, to the bytes xs. -/
def Rd (w : World) (B : Nat) (p : Option Addr) (xs : List Int) : Prop :=
  0 < xs.length → ∃ b o, p = some ⟨b, o, none⟩ ∧ b < B ∧ ∀ i, i < xs.length → w.cell? ⟨b, o + i, none⟩ = some (.int .u8 (xs.getD i 0))
theorem Rd.nil (w : World) (B : Nat) (p : Option Addr) : Rd w B p [] := fun h => absurd h (by simp)
theorem Rd.keep {w w' : World} {B : Nat} {p : Option Addr} {xs : List Int} (h : Rd w B p xs) (hk : ∀ q : Addr, q.block < B → w'.cell? q = w.cell? q) : Rd w' B p xs := fun hn => by
  obtain ⟨b, o, e, hb, hc⟩ := h hn
  exact ⟨b, o, e, hb, fun i hi => (hk _ hb).trans (hc i hi)⟩
theorem Rd.more {w : World} {B B' : Nat} {p : Option Addr} {xs : List Int} (h : Rd w B p xs) (hB : B ≤ B') : Rd w B' p xs := fun hn => by
  obtain ⟨b, o, e, hb, hc⟩ := h hn
  exact ⟨b, o, e, by omega, hc⟩
theorem Rd.below {w w' : World} {B B' : Nat} {p : Option Addr} {xs : List Int} (h : Rd w B p xs) (hb : Below B' w w') (hB : B ≤ B') : Rd w' B p xs := h.keep fun _ hq => hb.cell (by omega)
theorem Rd.drewN {w : World} {B : Nat} {p : Option Addr} {xs : List Int} (h : Rd w B p xs) (n : Nat) : Rd (w.drewN n) B p xs := h
theorem Rd.alloc {w : World} {B : Nat} {p : Option Addr} {xs : List Int} (h : Rd w B p xs) (hB : B ≤ w.heap.size) (o : Obj) : Rd (w.alloc o) B p xs := h.keep fun q hq => World.cell?_alloc_lt w o q (by omega)
theorem Rd.setCell {w : World} {B : Nat} {p : Option Addr} {xs : List Int} (h : Rd w B p xs) {q : Addr} (hB : B ≤ q.block) (u : Value) : Rd (w.setCell q u) B p xs :=
  h.keep fun r hr => World.cell?_setCell_other w q r u (fun e => by subst e; omega)
theorem Rd.grown {w w' : World} {B : Nat} {p : Option Addr} {xs : List Int} (h : Rd w B p xs) {row : Option Nat} (hg : w.grownBy w' row) (hB : B ≤ w.heap.size) (hr : ∀ g, row = some g → B ≤ g) : Rd w' B p xs :=
  h.keep fun q hq => World.cell?_of_block (hg.block q.block (by omega) (fun e => by have := hr _ e.symm; omega))
/-- A cut of the slice from k to m reads as those bytes. -/
theorem Rd.cut {w : World} {B : Nat} {b o : Nat} {xs : List Int} (h : Rd w B (some ⟨b, o, none⟩) xs) (k m : Nat) : Rd w B (some ⟨b, o + k, none⟩) ((xs.drop k).take m) := fun hn => by
  have hl : ((xs.drop k).take m).length ≤ xs.length - k := by rw [List.length_take, List.length_drop]; omega
  obtain ⟨b', o', e, hb, hc⟩ := h (by omega)
  injection e with e; injection e with e1 e2 _
  subst e1 e2
  refine ⟨b, o + k, rfl, hb, fun i hi => ?_⟩
  rw [Nat.add_assoc, hc (k + i) (by omega)]
  have : i < m := by rw [List.length_take] at hi; omega
  simp only [List.getD_eq_getElem?_getD, List.getElem?_take, List.getElem?_drop, if_pos this]
theorem Rd.drop {w : World} {B : Nat} {b o : Nat} {xs : List Int} (h : Rd w B (some ⟨b, o, none⟩) xs) (k : Nat) : Rd w B (some ⟨b, o + k, none⟩) (xs.drop k) := by
  have := h.cut k (xs.length - k)
  rwa [List.take_of_length_le (by rw [List.length_drop]; exact Nat.le_refl _)] at this
theorem Rd.take {w : World} {B : Nat} {p : Option Addr} {xs : List Int} (h : Rd w B p xs) (m : Nat) : Rd w B p (xs.take m) := fun hn => by
  have hl : (xs.take m).length ≤ xs.length := by rw [List.length_take]; omega
  obtain ⟨b, o, e, hb, hc⟩ := h (by omega)
  refine ⟨b, o, e, hb, fun i hi => ?_⟩
  rw [hc i (by omega)]
  have : i < m := by rw [List.length_take] at hi; omega
  simp only [List.getD_eq_getElem?_getD, List.getElem?_take, if_pos this]
/-- What the call owns reads as its bytes. -/
theorem Rd.of_own {w : World} {base g c n : Nat} {e : TypeId} {xs : List Int} (h : w.ownsRow base e 1 (.slice (some ⟨g, 0, none⟩) n c) n (xs.map (Value.int .u8))) : Rd w w.heap.size (some ⟨g, 0, none⟩) xs := fun _ => by
  have hn : xs.length = n := by have := h.1; simpa using this
  refine ⟨g, 0, rfl, (h.lt g rfl).2, fun i hi => ?_⟩
  rw [Nat.zero_add, h.cellAt i (by omega)]
  simp [List.getD_eq_getElem?_getD, hi]

end Go.Proofs.YtanifiobfbfehaaGreatDoor
namespace Go.Proofs.YtanifiobfbfehaaGreatDoor
open Go.RowKit
set_option linter.unusedVariables false

/-- The bytes as values. -/
def bv (l : List Int) : List Value := l.map (Value.int .u8)
theorem bv_length (l : List Int) : (bv l).length = l.length := List.length_map ..
theorem bv_get {l : List Int} {i : Nat} (h : i < l.length) : (bv l)[i]? = some (.int .u8 (l.getD i 0)) := by
  simp [bv, List.getD_eq_getElem?_getD, h]
end Go.Proofs.YtanifiobfbfehaaGreatDoor
