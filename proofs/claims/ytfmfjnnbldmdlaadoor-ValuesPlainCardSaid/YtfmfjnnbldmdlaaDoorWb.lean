/- What the functions Get16, Get32, Get64 of the package words return of a slice that reads as a list of bytes, and what the document's own Get returns of it. Condition: the slice is as long as its capacity allows; the number of bytes that is asked for is at most 8. -/
import Derived.Test.YtfmfjnnbldmdlaaDoorWa
import Derived.Test.YtfmfjnnbldmdlaaDoorMa
import Derived.LoopTactic
import Derived.Deep.Draws
import Derived.Laws.ShiftsVarLaws
namespace Go.Proofs.YtfmfjnnbldmdlaaDoor
open Go.RowKit

/-- The slice's address p leads, below block B, to the bytes xs. -/
def Rd (w : World) (B : Nat) (p : Option Addr) (xs : List Int) : Prop :=
  0 < xs.length → ∃ b o, p = some ⟨b, o, none⟩ ∧ b < B ∧ ∀ i, i < xs.length → w.cell? ⟨b, o + i, none⟩ = some (.int .u8 (xs.getD i 0))
theorem Rd.nil (w : World) (B : Nat) (p : Option Addr) : Rd w B p [] := fun h => absurd h (by simp)
theorem Rd.keep {w w' : World} {B : Nat} {p : Option Addr} {xs : List Int} (h : Rd w B p xs) (hk : ∀ q : Addr, q.block < B → w'.cell? q = w.cell? q) : Rd w' B p xs := fun hn => by
  obtain ⟨b, o, e, hb, hc⟩ := h hn
  exact ⟨b, o, e, hb, fun i hi => (hk _ hb).trans (hc i hi)⟩
theorem Rd.more {w : World} {B B' : Nat} {p : Option Addr} {xs : List Int} (h : Rd w B p xs) (hB : B ≤ B') : Rd w B' p xs := fun hn => by
  obtain ⟨b, o, e, hb, hc⟩ := h hn
  exact ⟨b, o, e, by omega, hc⟩
theorem Rd.below {w w' : World} {B B' : Nat} {p : Option Addr} {xs : List Int} (h : Rd w B p xs) (hb : Below B' w w') (hB : B ≤ B') : Rd w' B p xs := h.keep fun _ hq => hb.cell (by omega)
theorem Rd.drewN {w : World} {B : Nat} {p : Option Addr} {xs : List Int} (h : Rd w B p xs) (n : Nat) : Rd (w.drewN n) B p xs := h
theorem Rd.alloc {w : World} {B : Nat} {p : Option Addr} {xs : List Int} (h : Rd w B p xs) (hB : B ≤ w.heap.size) (o : Obj) : Rd (w.alloc o) B p xs := h.keep fun q hq => World.cell?_alloc_lt w o q (by omega)
theorem Rd.setCell {w : World} {B : Nat} {p : Option Addr} {xs : List Int} (h : Rd w B p xs) {q : Addr} (hB : B ≤ q.block) (u : Value) : Rd (w.setCell q u) B p xs :=
  h.keep fun r hr => World.cell?_setCell_other w q r u (fun e => by subst e; omega)
theorem Rd.grown {w w' : World} {B : Nat} {p : Option Addr} {xs : List Int} (h : Rd w B p xs) {row : Option Nat} (hg : w.grownBy w' row) (hB : B ≤ w.heap.size) (hr : ∀ g, row = some g → B ≤ g) : Rd w' B p xs :=
  h.keep fun q hq => World.cell?_of_block (hg.block q.block (by omega) (fun e => by have := hr _ e.symm; omega))
/-- A cut of the slice from k to m reads as those bytes. -/
theorem Rd.cut {w : World} {B : Nat} {b o : Nat} {xs : List Int} (h : Rd w B (some ⟨b, o, none⟩) xs) (k m : Nat) : Rd w B (some ⟨b, o + k, none⟩) ((xs.drop k).take m) := fun hn => by
  have hl : ((xs.drop k).take m).length ≤ xs.length - k := by rw [List.length_take, List.length_drop]; omega
  obtain ⟨b', o', e, hb, hc⟩ := h (by omega)
  injection e with e; injection e with e1 e2 _
  subst e1 e2
  refine ⟨b, o + k, rfl, hb, fun i hi => ?_⟩
  rw [Nat.add_assoc, hc (k + i) (by omega)]
  have : i < m := by rw [List.length_take] at hi; omega
  simp only [List.getD_eq_getElem?_getD, List.getElem?_take, List.getElem?_drop, if_pos this]
theorem Rd.drop {w : World} {B : Nat} {b o : Nat} {xs : List Int} (h : Rd w B (some ⟨b, o, none⟩) xs) (k : Nat) : Rd w B (some ⟨b, o + k, none⟩) (xs.drop k) := by
  have := h.cut k (xs.length - k)
  rwa [List.take_of_length_le (by rw [List.length_drop]; exact Nat.le_refl _)] at this
theorem Rd.take {w : World} {B : Nat} {p : Option Addr} {xs : List Int} (h : Rd w B p xs) (m : Nat) : Rd w B p (xs.take m) := fun hn => by
  have hl : (xs.take m).length ≤ xs.length := by rw [List.length_take]; omega
  obtain ⟨b, o, e, hb, hc⟩ := h (by omega)
  refine ⟨b, o, e, hb, fun i hi => ?_⟩
  rw [hc i (by omega)]
  have : i < m := by rw [List.length_take] at hi; omega
  simp only [List.getD_eq_getElem?_getD, List.getElem?_take, if_pos this]
/-- What the call owns reads as its bytes. -/
theorem Rd.of_own {w : World} {base g c n : Nat} {e : TypeId} {xs : List Int} (h : w.ownsRow base e 1 (.slice (some ⟨g, 0, none⟩) n c) n (xs.map (Value.int .u8))) : Rd w w.heap.size (some ⟨g, 0, none⟩) xs := fun _ => by
  have hn : xs.length = n := by have := h.1; simpa using this
  refine ⟨g, 0, rfl, (h.lt g rfl).2, fun i hi => ?_⟩
  rw [Nat.zero_add, h.cellAt i (by omega)]
  simp [List.getD_eq_getElem?_getD, hi]

/-- Are there k bytes from the place on? -/
def getB (k : Nat) (xs : List Int) (at_ : Int) : Bool := decide (0 ≤ at_ ∧ at_ + k ≤ xs.length)
/-- The number of the k bytes from the place on, or 0. -/
def getV (k : Nat) (xs : List Int) (at_ : Int) : Int := if getB k xs at_ then leV ((xs.drop at_.toNat).take k) else 0
theorem getB_true {k : Nat} {xs : List Int} {at_ : Int} (h : 0 ≤ at_) (h1 : at_ + k ≤ xs.length) : getB k xs at_ = true := decide_eq_true ⟨h, h1⟩
theorem getB_false {k : Nat} {xs : List Int} {at_ : Int} (h : at_ < 0 ∨ xs.length < at_ + k) : getB k xs at_ = false := decide_eq_false (by omega)
theorem getV_true {k : Nat} {xs : List Int} {a : Nat} (h1 : a + k ≤ xs.length) : getV k xs a = leV ((xs.drop a).take k) := by
  unfold getV; rw [if_pos (getB_true (by omega) (by omega))]; simp
theorem getV_false {k : Nat} {xs : List Int} {at_ : Int} (h : at_ < 0 ∨ xs.length < at_ + k) : getV k xs at_ = 0 := by
  unfold getV; rw [getB_false h]; rfl
theorem getV_range {k : Nat} {xs : List Int} (h : Byt xs) (at_ : Int) : 0 ≤ getV k xs at_ ∧ getV k xs at_ < 256 ^ k := by
  unfold getV
  split
  · rename_i hb
    have hb := of_decide_eq_true hb
    have hl : ((xs.drop at_.toNat).take k).length = k := by rw [List.length_take, List.length_drop]; omega
    have h1 := ((h.drop at_.toNat).take k)
    have h2 := leV_lt h1
    rw [hl] at h2
    exact ⟨leV_nonneg h1, h2⟩
  · exact ⟨Int.le_refl _, pow_pos' k⟩
/-- One byte more. -/
theorem take_snoc {xs : List Int} {a k : Nat} (h : a + k < xs.length) : (xs.drop a).take (k + 1) = (xs.drop a).take k ++ [xs[a + k]?.getD 0] := by
  rw [List.take_add_one, List.getElem?_drop, List.getElem?_eq_getElem h]; simp
theorem take_cons {xs : List Int} {a k : Nat} (h : a < xs.length) : (xs.drop a).take (k + 1) = xs[a]?.getD 0 :: (xs.drop (a + 1)).take k := by
  rw [List.drop_eq_getElem_cons h, List.take_succ_cons, List.getElem?_eq_getElem h]; rfl

theorem get16_step {xs : List Int} {a k : Nat} (hB : Byt xs) (hk : k < 2) (h : a + k < xs.length) :
    bits BinOp.or IntKind.u16 (leV ((xs.drop a).take k)) (IntKind.u16.wrap (IntKind.u16.wrap (xs[a + k]?.getD 0) * 2 ^ (8 * k))) = leV ((xs.drop a).take (k + 1)) := by
  have hl : ((xs.drop a).take k).length = k := by rw [List.length_take, List.length_drop]; omega
  have h1 := ((hB.drop a).take k)
  have h2 := leV_lt h1
  have h3 := hB.get? (a + k)
  rw [hl] at h2
  rw [or_step16 _ _ k hk (leV_nonneg h1) h2 h3.1 h3.2, take_snoc h, leV_snoc, hl]
theorem get32_step {xs : List Int} {a k : Nat} (hB : Byt xs) (hk : k < 4) (h : a + k < xs.length) :
    bits BinOp.or IntKind.u32 (leV ((xs.drop a).take k)) (IntKind.u32.wrap (IntKind.u32.wrap (xs[a + k]?.getD 0) * 2 ^ (8 * k))) = leV ((xs.drop a).take (k + 1)) := by
  have hl : ((xs.drop a).take k).length = k := by rw [List.length_take, List.length_drop]; omega
  have h1 := ((hB.drop a).take k)
  have h2 := leV_lt h1
  have h3 := hB.get? (a + k)
  rw [hl] at h2
  rw [or_step32 _ _ k hk (leV_nonneg h1) h2 h3.1 h3.2, take_snoc h, leV_snoc, hl]
theorem get64_step {xs : List Int} {a k : Nat} (hB : Byt xs) (hk : k < 8) (h : a + k < xs.length) :
    bits BinOp.or IntKind.u64 (leV ((xs.drop a).take k)) (IntKind.u64.wrap (IntKind.u64.wrap (xs[a + k]?.getD 0) * 2 ^ (8 * k))) = leV ((xs.drop a).take (k + 1)) := by
  have hl : ((xs.drop a).take k).length = k := by rw [List.length_take, List.length_drop]; omega
  have h1 := ((hB.drop a).take k)
  have h2 := leV_lt h1
  have h3 := hB.get? (a + k)
  rw [hl] at h2
  rw [or_step64 _ _ k hk (leV_nonneg h1) h2 h3.1 h3.2, take_snoc h, leV_snoc, hl]
end Go.Proofs.YtfmfjnnbldmdlaaDoor
