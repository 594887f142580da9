/- Data as a value and as cells in memory; what the document's own Print and Word return. Condition: each number fits its kind. What the document's own Word and Parse of data return. Condition: each number fits its kind. -/
import Derived.Test.YtohfampfnhfnlaaDoorDa
import Derived.Test.YtohfampfnhfnlaaDoorWd
import Derived.Deep.AppendLies
import Derived.Deep.DrawnRows
import Derived.RegionTactic
import Derived.BigRegion
import Derived.RangeFuncBox
namespace Go.Proofs.YtohfampfnhfnlaaDoor
open Go.RowKit
set_option linter.unusedVariables false
attribute [local go_sem ↓] Go.wp_at_zero Go.wp_at_succ

/-- Data as cells; as a value it is the same ones. -/
def datC (d : Dat) : Array Value := #[.int .u32 d.nr, .int .u32 d.arch, .int .u64 d.ip, .int .u64 d.a0, .int .u64 d.a1, .int .u64 d.a2, .int .u64 d.a3, .int .u64 d.a4, .int .u64 d.a5]
def datV (d : Dat) : Value := .agg (datC d)
/-- Block b is a box with the data. -/
def BoxD (w : World) (b : Nat) (d : Dat) : Prop := w.heap[b]? = some (.cells (datC d) 43 (0, 0))
set_option maxRecDepth 100000 in
theorem BoxD.new (w : World) (d : Dat) : BoxD (w.alloc (.cells (datC d) 43)) w.heap.size d := heap_alloc_new w _
set_option maxRecDepth 100000 in
theorem BoxD.lt {w : World} {b : Nat} {d : Dat} (h : BoxD w b d) : b < w.heap.size := (Array.getElem?_eq_some_iff.1 h).1
set_option maxRecDepth 100000 in
theorem BoxD.on {w w' : World} {b : Nat} {d : Dat} (h : BoxD w b d) (hb : Below w.heap.size w w') : BoxD w' b d := (hb.block b h.lt).trans h
set_option maxRecDepth 100000 in
theorem BoxD.alloc {w : World} {b : Nat} {d : Dat} (h : BoxD w b d) (o : Obj) : BoxD (w.alloc o) b d := h.on ((Below.refl _ _).alloc (Nat.le_refl _) o)
set_option maxRecDepth 100000 in
theorem BoxD.drew {w : World} {b : Nat} {d : Dat} (h : BoxD w b d) : BoxD w.drew b d := h
set_option maxRecDepth 100000 in
theorem BoxD.drewN {w : World} {b : Nat} {d : Dat} (h : BoxD w b d) (n : Nat) : BoxD (w.drewN n) b d := h
set_option maxRecDepth 100000 in
/-- A row of other elements that grows leaves it. -/
theorem BoxD.grown {w w' : World} {b B n s : Nat} {d : Dat} {e : TypeId} {v : Value} {xs : List Value} (h : BoxD w b d) (ho : w.ownsRow B e s v n xs) (hne : e ≠ 43) (hg : w.grownBy w' v.ownBlock) : BoxD w' b d := by
  refine (hg.block b h.lt fun he => ?_).trans h
  rcases ho.2 with ⟨rfl, _⟩ | ⟨g, cap, cur, rfl, _, hh, _⟩
  · cases he
  · injection he with he
    have he : b = g := he
    subst he
    rw [show w.heap[b]? = _ from h] at hh
    injection hh with hh
    injection hh with _ hh
    exact hne hh.symm
set_option maxRecDepth 100000 in
theorem BoxD.cells {w : World} {b : Nat} {d : Dat} (h : BoxD w b d) : w.cell? ⟨b, 0, none⟩ = some (.int .u32 d.nr) ∧ w.cell? ⟨b, 1, none⟩ = some (.int .u32 d.arch) ∧ w.cell? ⟨b, 2, none⟩ = some (.int .u64 d.ip) ∧ w.cell? ⟨b, 3, none⟩ = some (.int .u64 d.a0) ∧ w.cell? ⟨b, 4, none⟩ = some (.int .u64 d.a1) ∧ w.cell? ⟨b, 5, none⟩ = some (.int .u64 d.a2) ∧ w.cell? ⟨b, 6, none⟩ = some (.int .u64 d.a3) ∧ w.cell? ⟨b, 7, none⟩ = some (.int .u64 d.a4) ∧ w.cell? ⟨b, 8, none⟩ = some (.int .u64 d.a5) := by
  refine ⟨?_, ?_, ?_, ?_, ?_, ?_, ?_, ?_, ?_⟩ <;> (rw [cell_of_row w b _ (datC d) 43 (0, 0) h]; rfl)
set_option maxRecDepth 100000 in
theorem BoxD.arg {w : World} {b : Nat} {d : Dat} (h : BoxD w b d) {k : Nat} (hk : k < 6) : w.cell? ⟨b, 3 + k, none⟩ = some (.int .u64 (d.arg k)) := by
  rw [cell_of_row w b _ (datC d) 43 (0, 0) h]
  match k, hk with
  | 0, _ => rfl
  | 1, _ => rfl
  | 2, _ => rfl
  | 3, _ => rfl
  | 4, _ => rfl
  | 5, _ => rfl
set_option maxRecDepth 100000 in
theorem own_on {w w' : World} {B n size : Nat} {e : TypeId} {v : Value} {xs : List Value} (h : w.ownsRow B e size v n xs) (hb : Below w.heap.size w w') : w'.ownsRow B e size v n xs := by
  have hl := h.lt
  obtain ⟨h1, h2⟩ := h
  refine ⟨h1, ?_⟩
  rcases h2 with h2 | ⟨g, cap, cur, hv, hg, hh, r⟩
  · exact Or.inl h2
  · exact Or.inr ⟨g, cap, cur, hv, hg, by rw [hb.block g (hl g (by rw [hv]; rfl)).2]; exact hh, r⟩
set_option maxRecDepth 100000 in
theorem own_mono {w : World} {B B' n size : Nat} {e : TypeId} {v : Value} {xs : List Value} (h : w.ownsRow B e size v n xs) (hB : B' ≤ B) : w.ownsRow B' e size v n xs := by
  obtain ⟨h1, h2⟩ := h
  refine ⟨h1, ?_⟩
  rcases h2 with h2 | ⟨g, cap, cur, hv, hg, r⟩
  · exact Or.inl h2
  · exact Or.inr ⟨g, cap, cur, hv, Nat.le_trans hB hg, r⟩
set_option maxRecDepth 100000 in
/-- The shape of bytes that are owned. -/
theorem own_shape'' {w : World} {B n : Nat} {e : TypeId} {v : Value} {xs : List Int} (h : w.ownsRow B e 1 v n (bv xs)) : ∃ p c, v = .slice p n c ∧ Rd w w.heap.size p xs ∧ (p = none → c = 0) ∧ n ≤ c := by
  have hl : xs.length = n := by have := h.1; rw [bv_length] at this; omega
  rcases h.2 with ⟨rfl, rfl⟩ | ⟨g, cap, cur, rfl, _, _, hc, _⟩
  · obtain rfl : xs = [] := List.eq_nil_of_length_eq_zero hl
    exact ⟨none, 0, rfl, Rd.nil _ _ _, fun _ => rfl, Nat.le_refl _⟩
  · exact ⟨_, cap, rfl, Rd.of_own h, (fun h => by cases h), hc⟩
end Go.Proofs.YtohfampfnhfnlaaDoor
namespace Go.Proofs.YtohfampfnhfnlaaDoor
open Go.RowKit
set_option linter.unusedVariables false
attribute [local go_sem ↓] Go.wp_at_zero Go.wp_at_succ

theorem word_no {d : Dat} {a : Int} (h : ¬ (a % 4 = 0 ∧ a < 64)) : wordV d a = 0 ∧ wordE a = 41 := by
  have e : wordB a = false := decide_eq_false h
  unfold wordV wordE; rw [e]; exact ⟨rfl, rfl⟩
theorem word_yes {d : Dat} {a : Int} (h : a % 4 = 0 ∧ a < 64) (h0 : 0 ≤ a) : getV 4 (datB d) a = wordV d a ∧ wordE a = 0 := by
  have e : wordB a = true := decide_eq_true h
  obtain ⟨n, rfl⟩ := Int.eq_ofNat_of_zero_le h0
  refine ⟨?_, by unfold wordE; rw [e]; rfl⟩
  rw [getV_true (by rw [datB_length]; omega)]
  unfold wordV; rw [e]; rfl
end Go.Proofs.YtohfampfnhfnlaaDoor
