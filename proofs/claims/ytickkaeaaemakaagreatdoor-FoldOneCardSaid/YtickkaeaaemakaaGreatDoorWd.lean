/- What the functions Cat and Same of the package words return, and what the document's own Copy, Cat and Same return, of slices that read as lists of bytes. Condition: the lengths together are at most 2 to the 46th. What the document's own Cat and the function Cat of the package words return, of slices that read as lists of bytes. Condition: the lengths together are at most 2 to the 46th. What the function Cat of the package words returns, of slices that read as lists of bytes: all of them, one behind the other, in new memory. Condition: the lengths together are at most 2 to the 46th. The examples of the chapter on words, as the statements begin with them: they answer true. No condition. Calls of the package words one behind the other, each in the world that the one ahead of it left: the bytes of numbers, two lists as one. Condition: the lengths together are at most 2 to the 46th. How an argument of a statement is opened: bytes that came in, as a list of bytes. No condition. -/
import Derived.Test.YtickkaeaaemakaaGreatDoorMa
import Derived.Laws.CopyOwn
import Derived.Laws.BytesArg
import Derived.BigQuiet
import Derived.Deep.QuietTactic
import Derived.ProofKit
import Derived.OpenShut
import Derived.ShutString
import Derived.ChangeOld
import Derived.Below
namespace Go.Proofs.YtickkaeaaemakaaGreatDoor
open Go.RowKit
set_option linter.unusedVariables false

/-- Are the two lists of bytes the same? -/
def sameB (xs ys : List Int) : Bool := decide (xs = ys)
theorem sameB_self (xs : List Int) : sameB xs xs = true := decide_eq_true rfl
theorem sameB_true {xs ys : List Int} (h : xs = ys) : sameB xs ys = true := decide_eq_true h
theorem sameB_false {xs ys : List Int} (h : xs ≠ ys) : sameB xs ys = false := decide_eq_false h
theorem byte_inj {a b : Int} (h0 : 0 ≤ a ∧ a < 256) (h1 : 0 ≤ b ∧ b < 256) (h : UInt8.ofNat a.toNat = UInt8.ofNat b.toNat) : a = b := by
  have := congrArg UInt8.toNat h
  simp only [UInt8.toNat_ofNat'] at this
  omega
theorem str_inj : ∀ {xs ys : List Int}, Byt xs → Byt ys → (xs.map fun n => UInt8.ofNat n.toNat) = (ys.map fun n => UInt8.ofNat n.toNat) → xs = ys
  | [], [], _, _, _ => rfl
  | [], _ :: _, _, _, h => by simp at h
  | _ :: _, [], _, _, h => by simp at h
  | a :: r, b :: t, h0, h1, h => by
    simp only [List.map_cons, List.cons.injEq] at h
    rw [byte_inj h0.head h1.head h.1, str_inj h0.tail h1.tail h.2]
theorem str_eq {xs ys : List Int} (h0 : Byt xs) (h1 : Byt ys) : ((strOfNums xs).toList == (strOfNums ys).toList) = sameB xs ys := by
  unfold sameB
  by_cases h : xs = ys
  · subst h; simp
  · rw [decide_eq_false h]
    refine beq_eq_false_iff_ne.2 fun e => h (str_inj h0 h1 ?_)
    have : (strOfNums xs) = (strOfNums ys) := by
      apply ByteArray.ext
      have h2 := congrArg List.toArray e
      simpa [ByteArray.toList_eq] using h2
    have h3 := congrArg (fun s : ByteArray => s.data.toList) this
    simpa [strOfNums_data] using h3
theorem Rd.convert {w : World} {B : Nat} {p : Option Addr} {xs : List Int} (h : Rd w B p xs) (n c : Nat) (hx : xs.length = n) :
    (convert 183 9 (.slice p n c)).run Tryz.prog w = .ok (.string (strOfNums xs)) w := by
  subst hx
  by_cases h0 : xs.length = 0
  · obtain rfl : xs = [] := List.eq_nil_of_length_eq_zero h0
    rw [run_convert_bytes_string w _ _ _ _ _ c Tryz.underlying183 Tryz.underlying5 Tryz.underlying9]
    cases p <;> simp [Conv.bytesToString, loadCells]
    all_goals rfl
  · obtain ⟨b, o, rfl, _, hc⟩ := h (by omega)
    exact run_convert_bytes_arg (P := Tryz.prog) w _ _ Tryz.underlying183 Tryz.underlying5 b o _ c xs rfl hc _ Tryz.underlying9
theorem take_eq_step {xs ys : List Int} {k : Nat} (h : xs.take k = ys.take k) (hx : k < xs.length) (hy : k < ys.length) (e : xs[k]?.getD 0 = ys[k]?.getD 0) : xs.take (k + 1) = ys.take (k + 1) := by
  rw [List.take_add_one, List.take_add_one, h, List.getElem?_eq_getElem hx, List.getElem?_eq_getElem hy]
  rw [List.getElem?_eq_getElem hx, List.getElem?_eq_getElem hy] at e
  simp only [Option.getD_some] at e
  rw [e]
/-- A row that is owned up to its capacity, as the block that it is. -/
theorem own_heap {w : World} {base g n : Nat} {e : TypeId} {xs : List Value} (h : w.ownsRow base e 1 (.slice (some ⟨g, 0, none⟩) n n) n xs) : w.heap[g]? = some (.cells xs.toArray e (0, 0)) := by
  rcases h.2 with ⟨h', _⟩ | ⟨g', cap', cur, h', _, hg, _, _, hcs, htake⟩
  · simp at h'
  · simp only [Value.slice.injEq, Option.some.injEq, Addr.mk.injEq, and_true, true_and] at h'
    obtain ⟨rfl, rfl⟩ := h'
    rw [List.take_of_length_le (by rw [Array.length_toList, hcs]; exact Nat.le_refl _)] at htake
    rw [hg, ← htake]
theorem own_of_heap {w : World} {base g n : Nat} {e : TypeId} {xs : List Value} (h : w.heap[g]? = some (.cells xs.toArray e (0, 0))) (hn : xs.length = n) (hb : base ≤ g) (hm : n ≤ maxLen) :
    w.ownsRow base e 1 (.slice (some ⟨g, 0, none⟩) n n) n xs :=
  ⟨by omega, .inr ⟨g, n, xs.toArray, rfl, hb, h, Nat.le_refl _, hm, by simp; omega, by rw [List.take_of_length_le (by simp; omega)]⟩⟩
theorem Rd.news {w : World} {B : Nat} {p : Option Addr} {xs : List Int} (h : Rd w B p xs) (hn : 0 < (bv xs).length) : ∃ ad, p = some ad ∧ ∀ j v, (bv xs)[j]? = some v → w.cell? (ad.add j) = some v := by
  rw [bv_length] at hn
  obtain ⟨b, o, rfl, _, hc⟩ := h hn
  refine ⟨_, rfl, fun j v hv => ?_⟩
  have hj : j < xs.length := by
    have := (List.getElem?_eq_some_iff.1 hv).1
    rwa [bv_length] at this
  rw [Addr.add_lit, hc j hj, ← bv_get hj, hv]
theorem bv_one (xs : List Int) : ∀ v ∈ bv xs, v.oneCell' = true := ints_oneCell .u8 xs
theorem u8_size : (Tryz.prog.info? 5).map (·.size) = some 1 := by kernel_rfl
theorem splice_all {α : Type} {L cs : List α} (h : L.length = cs.length) : splice L 0 cs = cs := by simp [splice, h]
theorem splice_two {α : Type} {L a b : List α} {k : Nat} (h : L.length = a.length + b.length) (hk : a.length = k) : splice (splice L 0 a) k b = a ++ b := by
  subst hk
  have h1 : (splice L 0 a) = a ++ L.drop a.length := by simp [splice]
  rw [h1]
  unfold splice
  rw [List.take_left, List.drop_of_length_le (by simp; omega), List.append_nil]

end Go.Proofs.YtickkaeaaemakaaGreatDoor
namespace Go.Proofs.YtickkaeaaemakaaGreatDoor
open Go.RowKit
set_option linter.unusedVariables false

/-- The slice of slices leads, below block B, to slices that read as the lists. -/
def RdL (w : World) (B : Nat) (p : Option Addr) (xss : List (List Int)) : Prop :=
  0 < xss.length → ∃ b o, p = some ⟨b, o, none⟩ ∧ b < B ∧ ∀ i, i < xss.length → ∃ q c, w.cell? ⟨b, o + i, none⟩ = some (.slice q (xss.getD i []).length c) ∧ Rd w B q (xss.getD i []) ∧ (q = none → c = 0)
theorem RdL.keep {w w' : World} {B : Nat} {p : Option Addr} {xss : List (List Int)} (h : RdL w B p xss) (hk : ∀ q : Addr, q.block < B → w'.cell? q = w.cell? q) : RdL w' B p xss := fun hn => by
  obtain ⟨b, o, e, hb, hc⟩ := h hn
  refine ⟨b, o, e, hb, fun i hi => ?_⟩
  obtain ⟨q, c, h1, h2, h3⟩ := hc i hi
  exact ⟨q, c, (hk _ hb).trans h1, h2.keep hk, h3⟩
theorem RdL.below {w w' : World} {B B' : Nat} {p : Option Addr} {xss : List (List Int)} (h : RdL w B p xss) (hb : Below B' w w') (hB : B ≤ B') : RdL w' B p xss := h.keep fun _ hq => hb.cell (by omega)
theorem RdL.more {w : World} {B B' : Nat} {p : Option Addr} {xss : List (List Int)} (h : RdL w B p xss) (hB : B ≤ B') : RdL w B' p xss := fun hn => by
  obtain ⟨b, o, e, hb, hc⟩ := h hn
  refine ⟨b, o, e, by omega, fun i hi => ?_⟩
  obtain ⟨q, c, h1, h2, h3⟩ := hc i hi
  exact ⟨q, c, h1, h2.more hB, h3⟩
/-- How many bytes the first k lists have together. -/
def lenL (xss : List (List Int)) (k : Nat) : Nat := ((xss.take k).flatten).length
theorem lenL_step {xss : List (List Int)} {k : Nat} (hk : k < xss.length) : lenL xss (k + 1) = lenL xss k + (xss.getD k []).length := by
  unfold lenL
  rw [List.take_add_one, List.getElem?_eq_getElem hk, List.flatten_append, List.length_append, List.getD_eq_getElem?_getD, List.getElem?_eq_getElem hk]
  simp
theorem lenL_le (xss : List (List Int)) (k : Nat) : lenL xss k ≤ xss.flatten.length := by
  unfold lenL
  conv => rhs; rw [← List.take_append_drop k xss, List.flatten_append, List.length_append]
  omega
theorem lenL_all {xss : List (List Int)} {k : Nat} (h : xss.length ≤ k) : lenL xss k = xss.flatten.length := by unfold lenL; rw [List.take_of_length_le h]
theorem flat_step {xss : List (List Int)} {k : Nat} (hk : k < xss.length) : (xss.take (k + 1)).flatten = (xss.take k).flatten ++ xss.getD k [] := by
  rw [List.take_add_one, List.getElem?_eq_getElem hk, List.flatten_append, List.getD_eq_getElem?_getD, List.getElem?_eq_getElem hk]
  simp
end Go.Proofs.YtickkaeaaemakaaGreatDoor
namespace Go.Proofs.YtickkaeaaemakaaGreatDoor
open Go.RowKit
set_option linter.unusedVariables false

theorem RdL.news {w : World} {B : Nat} {q : Option Addr} {c : Nat} {xs : List Int} (h : Rd w B q xs) (hq : q = none → c = 0) :
    (q = none → xs.length = 0 ∧ c = 0) ∧ ∀ ad, q = some ad → ∀ j u, (bv xs)[j]? = some u → w.cell? (ad.add j) = some u := by
  refine ⟨fun e => ⟨?_, hq e⟩, fun ad e j u hu => ?_⟩
  · rcases Nat.eq_zero_or_pos xs.length with h0 | h0
    · exact h0
    · obtain ⟨b, o, e', _⟩ := h h0
      rw [e] at e'; cases e'
  · have hj : j < xs.length := by
      have := (List.getElem?_eq_some_iff.1 hu).1
      rwa [bv_length] at this
    obtain ⟨ad', e', hc⟩ := h.news (by rw [bv_length]; omega)
    rw [e] at e'
    obtain rfl := Option.some.inj e'
    exact hc j u hu
end Go.Proofs.YtickkaeaaemakaaGreatDoor
namespace Go.Proofs.YtickkaeaaemakaaGreatDoor
open Go.RowKit
set_option linter.unusedVariables false

/-- A slice that the text writes out reads as its bytes. -/
theorem Rd.lit (w : World) (cs : Array Value) (e : TypeId) (xs : List Int) (h : cs = (bv xs).toArray) : Rd (w.alloc (.cells cs e)) (w.heap.size + 1) (some ⟨w.heap.size, 0, none⟩) xs := fun _ => by
  subst h
  refine ⟨_, 0, rfl, by omega, fun i hi => ?_⟩
  rw [Nat.zero_add, cell_of_row (w.alloc (.cells (bv xs).toArray e)) w.heap.size i (bv xs).toArray e (0, 0) (heap_alloc_new w _), List.getElem?_toArray, bv_get hi]
theorem byt_dec {l : List Int} (h : l.all (fun x => decide (0 ≤ x ∧ x < 256)) = true) : Byt l := fun x hx => by
  have := List.all_eq_true.1 h x hx
  exact of_decide_eq_true this
/-- Behind a row that the text writes out. -/
theorem below_lit {w0 w : World} (hb : Below w0.heap.size w0 w) (o : Obj) : Below w0.heap.size w0 (w.alloc o) := hb.alloc hb.size o
end Go.Proofs.YtickkaeaaemakaaGreatDoor
namespace Go.Proofs.YtickkaeaaemakaaGreatDoor
open Go.RowKit
set_option linter.unusedVariables false

/-- What was read is read behind a call that makes new memory alone. -/
theorem Rd.on {w w' : World} {p : Option Addr} {xs : List Int} (h : Rd w w.heap.size p xs) (hb : Below w.heap.size w w') : Rd w' w'.heap.size p xs := (h.below hb (Nat.le_refl _)).more hb.size
theorem Rd.upon {w w' : World} {p : Option Addr} {xs : List Int} (h : Rd w w.heap.size p xs) (hb : Below w.heap.size w w') : Rd w' w.heap.size p xs := h.below hb (Nat.le_refl _)
theorem thn {w0 w w' : World} (h : Below w0.heap.size w0 w) (k : Below w.heap.size w w') : Below w0.heap.size w0 w' := h.trans (k.mono h.size)
/-- Two slices that the text writes out as a slice of slices. -/
theorem RdL.two {w : World} {p q : Option Addr} {n m c d : Nat} {xs ys : List Int} (e : TypeId) (h1 : Rd w w.heap.size p xs) (h2 : Rd w w.heap.size q ys) (hx : xs.length = n) (hy : ys.length = m) (hp : p = none → c = 0) (hq : q = none → d = 0) :
    RdL (w.alloc (.cells #[.slice p n c, .slice q m d] e)) (w.heap.size + 1) (some ⟨w.heap.size, 0, none⟩) [xs, ys] := fun _ => by
  subst hx hy
  refine ⟨_, 0, rfl, by omega, fun i hi => ?_⟩
  rw [Nat.zero_add, cell_of_row (w.alloc (.cells #[.slice p xs.length c, .slice q ys.length d] e)) w.heap.size i _ e (0, 0) (heap_alloc_new w _)]
  match i, hi with
  | 0, _ => exact ⟨p, c, rfl, (h1.alloc (Nat.le_refl _) _).more (by omega), hp⟩
  | 1, _ => exact ⟨q, d, rfl, (h2.alloc (Nat.le_refl _) _).more (by omega), hq⟩
/-- A row of bytes that the call owns, whatever they are. -/
def Mine (w : World) (B g n : Nat) : Prop := ∃ l : List Int, w.ownsRow B 5 1 (.slice (some ⟨g, 0, none⟩) n n) n (bv l)
theorem own_block {w w' : World} {B g n c : Nat} {e : TypeId} {xs : List Value} (h : w.ownsRow B e 1 (.slice (some ⟨g, 0, none⟩) n c) n xs) (hk : w'.heap[g]? = w.heap[g]?) : w'.ownsRow B e 1 (.slice (some ⟨g, 0, none⟩) n c) n xs := by
  obtain ⟨h1, h2⟩ := h
  refine ⟨h1, ?_⟩
  rcases h2 with ⟨h', _⟩ | ⟨g', cap, cur, hv, hg, hh, r⟩
  · simp at h'
  · refine Or.inr ⟨g', cap, cur, hv, hg, ?_, r⟩
    simp only [Value.slice.injEq, Option.some.injEq, Addr.mk.injEq, and_true, true_and] at hv
    obtain ⟨rfl, _⟩ := hv
    rw [hk]; exact hh
theorem Mine.lt {w : World} {B g n : Nat} (h : Mine w B g n) : B ≤ g ∧ g < w.heap.size := by obtain ⟨l, h⟩ := h; exact h.lt g rfl
theorem Mine.on {w w' : World} {B g n : Nat} (h : Mine w B g n) (hb : Below w.heap.size w w') : Mine w' B g n := by
  have hl := h.lt.2
  obtain ⟨l, h⟩ := h
  exact ⟨l, own_block h (hb.block g hl)⟩
theorem Mine.far {w : World} {B g n h : Nat} (m : Mine w B g n) (hne : g ≠ h) (j : Nat) (u : Value) : Mine (w.setCell ⟨h, j, none⟩ u) B g n := by
  obtain ⟨l, m⟩ := m
  exact ⟨l, own_block m (Below.heap_setCell _ _ _ _ hne)⟩
theorem Mine.cell {w : World} {B g n j : Nat} (m : Mine w B g n) (hj : j < n) : (∃ v, w.cell? ⟨g, j, none⟩ = some (.int .u8 v)) ∧ w.frozen? ⟨g, j, none⟩ = false := by
  obtain ⟨l, m⟩ := m
  refine ⟨?_, m.frozenAt j⟩
  have hl : l.length = n := by have := m.1; rw [bv_length] at this; omega
  rw [m.cellAt j (by omega)]
  exact ⟨_, bv_get (by omega)⟩
theorem Mine.set_ {w : World} {B g n : Nat} (m : Mine w B g n) (j : Nat) (u : Int) : Mine (w.setCell ⟨g, j, none⟩ (.int .u8 u)) B g n := by
  obtain ⟨l, m⟩ := m
  have := (m.stored j (.int .u8 u)).1
  rw [bv_set] at this
  exact ⟨_, this⟩
end Go.Proofs.YtickkaeaaemakaaGreatDoor
namespace Go.Proofs.YtickkaeaaemakaaGreatDoor
open Go.ChangeShapes Go.WideShapes Go.ChangeAt Go.RowKit
set_option linter.unusedVariables false

theorem ownKnob_none : ownKnob Tryz.prog.godebug = none := by kernel_rfl
theorem laidOut : laidOutB Tryz.prog = true := by kernel_rfl
/-- What is known of a slice of bytes that came in. -/
structure IsBytes (w : World) (a : Option Addr) (len cap : Nat) (z : List Int) : Prop where
  size : z.length = len
  byt : Byt z
  fits : len ≤ cap
  most : cap ≤ maxLen
  rd : Rd w w.heap.size a z
  nil : a = none → cap = 0
theorem bytes_open {H : Type} {enc : TypeId × Value → H} {W : World} {a : Option Addr} {len cap : Nat} {d : DataW H} {p : List MemPlace}
    (h : DataW.Trod enc Tryz.prog W 0 (fun _ => true) true 183 (.slice a len cap) d p) (lt : ∀ x ∈ p, x.block < W.heap.size) : ∃ z, IsBytes W a len cap z := by
  obtain ⟨fuel, hf⟩ := h
  rcases open_ints Tryz.underlying183 Tryz.underlying5 (by kernel_rfl) hf with ⟨hcs, _⟩ | ⟨x, l, c, zs, hcs, _, hl, hm, hz, _, hcell, hwz⟩
  · simp [Value.cells] at hcs
    obtain ⟨rfl, rfl, rfl⟩ := hcs
    exact ⟨[], rfl, Byt.nil, Nat.le_refl _, by unfold maxLen; omega, Rd.nil _ _ _, fun _ => rfl⟩
  · simp [Value.cells] at hcs
    obtain ⟨rfl, rfl, rfl⟩ := hcs
    have hz : zs.length = cap := by simpa using hz
    have hlt : ((zs.take len).length) = len := by rw [List.length_take]; omega
    refine ⟨zs.take len, hlt, fun y hy => ?_, hl, hm, fun hn => ?_, fun h => by cases h⟩
    · have := bounds_u8 (hwz y (List.mem_of_mem_take hy))
      omega
    · rw [hlt] at hn ⊢
      obtain ⟨b, o, s⟩ := x
      have hc := hcell 0 (by omega)
      have hs : s = none := by simpa [Addr.add] using World.cell?_spot hc
      subst hs
      refine ⟨b, o, rfl, World.block_lt_of_cell? W _ hc, fun i hi => ?_⟩
      have h1 := hcell i (by omega)
      rw [Addr.add_lit] at h1
      rw [h1]
      simp [List.getD_eq_getElem?_getD, hi]
end Go.Proofs.YtickkaeaaemakaaGreatDoor
