/- What the functions Cat and Same of the package words return, and what the document's own Copy, Cat and Same return, of slices that read as lists of bytes. Condition: the lengths together are at most 2 to the 46th. -/
import Derived.Test.YtfmfjnnbldmdlaaDoorWc
import Derived.Laws.CopyOwn
import Derived.Laws.BytesArg
import Derived.BigQuiet
import Derived.Deep.QuietTactic
namespace Go.Proofs.YtfmfjnnbldmdlaaDoor
open Go.RowKit
set_option linter.unusedVariables false

/-- Are the two lists of bytes the same? -/
def sameB (xs ys : List Int) : Bool := decide (xs = ys)
theorem sameB_self (xs : List Int) : sameB xs xs = true := decide_eq_true rfl
theorem sameB_true {xs ys : List Int} (h : xs = ys) : sameB xs ys = true := decide_eq_true h
theorem sameB_false {xs ys : List Int} (h : xs ≠ ys) : sameB xs ys = false := decide_eq_false h
theorem byte_inj {a b : Int} (h0 : 0 ≤ a ∧ a < 256) (h1 : 0 ≤ b ∧ b < 256) (h : UInt8.ofNat a.toNat = UInt8.ofNat b.toNat) : a = b := by
  have := congrArg UInt8.toNat h
  simp only [UInt8.toNat_ofNat'] at this
  omega
theorem str_inj : ∀ {xs ys : List Int}, Byt xs → Byt ys → (xs.map fun n => UInt8.ofNat n.toNat) = (ys.map fun n => UInt8.ofNat n.toNat) → xs = ys
  | [], [], _, _, _ => rfl
  | [], _ :: _, _, _, h => by simp at h
  | _ :: _, [], _, _, h => by simp at h
  | a :: r, b :: t, h0, h1, h => by
    simp only [List.map_cons, List.cons.injEq] at h
    rw [byte_inj h0.head h1.head h.1, str_inj h0.tail h1.tail h.2]
theorem str_eq {xs ys : List Int} (h0 : Byt xs) (h1 : Byt ys) : ((strOfNums xs).toList == (strOfNums ys).toList) = sameB xs ys := by
  unfold sameB
  by_cases h : xs = ys
  · subst h; simp
  · rw [decide_eq_false h]
    refine beq_eq_false_iff_ne.2 fun e => h (str_inj h0 h1 ?_)
    have : (strOfNums xs) = (strOfNums ys) := by
      apply ByteArray.ext
      have h2 := congrArg List.toArray e
      simpa [ByteArray.toList_eq] using h2
    have h3 := congrArg (fun s : ByteArray => s.data.toList) this
    simpa [strOfNums_data] using h3
theorem Rd.convert {w : World} {B : Nat} {p : Option Addr} {xs : List Int} (h : Rd w B p xs) (n c : Nat) (hx : xs.length = n) :
    (convert 83 9 (.slice p n c)).run Tryd.prog w = .ok (.string (strOfNums xs)) w := by
  subst hx
  by_cases h0 : xs.length = 0
  · obtain rfl : xs = [] := List.eq_nil_of_length_eq_zero h0
    rw [run_convert_bytes_string w _ _ _ _ _ c Tryd.underlying83 Tryd.underlying5 Tryd.underlying9]
    cases p <;> simp [Conv.bytesToString, loadCells]
    all_goals rfl
  · obtain ⟨b, o, rfl, _, hc⟩ := h (by omega)
    exact run_convert_bytes_arg (P := Tryd.prog) w _ _ Tryd.underlying83 Tryd.underlying5 b o _ c xs rfl hc _ Tryd.underlying9
theorem take_eq_step {xs ys : List Int} {k : Nat} (h : xs.take k = ys.take k) (hx : k < xs.length) (hy : k < ys.length) (e : xs[k]?.getD 0 = ys[k]?.getD 0) : xs.take (k + 1) = ys.take (k + 1) := by
  rw [List.take_add_one, List.take_add_one, h, List.getElem?_eq_getElem hx, List.getElem?_eq_getElem hy]
  rw [List.getElem?_eq_getElem hx, List.getElem?_eq_getElem hy] at e
  simp only [Option.getD_some] at e
  rw [e]
/-- A row that is owned up to its capacity, as the block that it is. -/
theorem own_heap {w : World} {base g n : Nat} {e : TypeId} {xs : List Value} (h : w.ownsRow base e 1 (.slice (some ⟨g, 0, none⟩) n n) n xs) : w.heap[g]? = some (.cells xs.toArray e (0, 0)) := by
  rcases h.2 with ⟨h', _⟩ | ⟨g', cap', cur, h', _, hg, _, _, hcs, htake⟩
  · simp at h'
  · simp only [Value.slice.injEq, Option.some.injEq, Addr.mk.injEq, and_true, true_and] at h'
    obtain ⟨rfl, rfl⟩ := h'
    rw [List.take_of_length_le (by rw [Array.length_toList, hcs]; exact Nat.le_refl _)] at htake
    rw [hg, ← htake]
theorem own_of_heap {w : World} {base g n : Nat} {e : TypeId} {xs : List Value} (h : w.heap[g]? = some (.cells xs.toArray e (0, 0))) (hn : xs.length = n) (hb : base ≤ g) (hm : n ≤ maxLen) :
    w.ownsRow base e 1 (.slice (some ⟨g, 0, none⟩) n n) n xs :=
  ⟨by omega, .inr ⟨g, n, xs.toArray, rfl, hb, h, Nat.le_refl _, hm, by simp; omega, by rw [List.take_of_length_le (by simp; omega)]⟩⟩
theorem Rd.news {w : World} {B : Nat} {p : Option Addr} {xs : List Int} (h : Rd w B p xs) (hn : 0 < (bv xs).length) : ∃ ad, p = some ad ∧ ∀ j v, (bv xs)[j]? = some v → w.cell? (ad.add j) = some v := by
  rw [bv_length] at hn
  obtain ⟨b, o, rfl, _, hc⟩ := h hn
  refine ⟨_, rfl, fun j v hv => ?_⟩
  have hj : j < xs.length := by
    have := (List.getElem?_eq_some_iff.1 hv).1
    rwa [bv_length] at this
  rw [Addr.add_lit, hc j hj, ← bv_get hj, hv]
theorem bv_one (xs : List Int) : ∀ v ∈ bv xs, v.oneCell' = true := ints_oneCell .u8 xs
theorem u8_size : (Tryd.prog.info? 5).map (·.size) = some 1 := by kernel_rfl
theorem splice_all {α : Type} {L cs : List α} (h : L.length = cs.length) : splice L 0 cs = cs := by simp [splice, h]
theorem splice_two {α : Type} {L a b : List α} {k : Nat} (h : L.length = a.length + b.length) (hk : a.length = k) : splice (splice L 0 a) k b = a ++ b := by
  subst hk
  have h1 : (splice L 0 a) = a ++ L.drop a.length := by simp [splice]
  rw [h1]
  unfold splice
  rw [List.take_left, List.drop_of_length_le (by simp; omega), List.append_nil]

end Go.Proofs.YtfmfjnnbldmdlaaDoor
