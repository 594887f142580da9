/- Equal lists are told to be the same; what the calls of the package cells have to return, as the chapter says it; what is certain where no way leads. Condition: lists of at most 4096. -/
import Derived.Test.YthhfpehngdohhaaDoorOf
namespace Go.Proofs.YthhfpehngdohhaaDoor
open Go.RowKit
set_option linter.unusedVariables false
attribute [local go_sem ↓] Go.wp_at_zero Go.wp_at_succ

/-- A slice of numbers can be read. -/
def RdN (w : World) (B : Nat) (q : Option Addr) (l : List Nat) : Prop := 0 < l.length → ∃ g, q = some ⟨g, 0, none⟩ ∧ g < B ∧ ∀ i, i < l.length → w.cell? ⟨g, i, none⟩ = some (.int .i64 ((l.getD i 0 : Nat) : Int))
theorem rdN_of {w : World} {B c : Nat} {q : Option Addr} {l : List Nat} (h : w.ownsRow B 3 1 (.slice q l.length c) l.length (plV l)) : RdN w w.heap.size q l := fun h0 => by
  obtain ⟨g, rfl, _, hc⟩ := pl_cells' h h0
  exact ⟨g, rfl, (h.lt g rfl).2, hc⟩
theorem RdN.keep {w w' : World} {B n : Nat} {q : Option Addr} {l : List Nat} (h : RdN w n q l) (hb : Below B w w') (hn : n ≤ B) : RdN w' n q l := fun h0 => by
  obtain ⟨g, rfl, hg, hc⟩ := h h0
  exact ⟨g, rfl, hg, fun i hi => (hb.cell (p := ⟨g, i, none⟩) (show g < B by omega)).trans (hc i hi)⟩
theorem rdN_on {w w' : World} {q : Option Addr} {l : List Nat} (h : RdN w w.heap.size q l) (hb : Below w.heap.size w w') : RdN w' w'.heap.size q l := fun h0 => by
  obtain ⟨g, rfl, hg, hc⟩ := h h0
  exact ⟨g, rfl, Nat.lt_of_lt_of_le hg hb.size, fun i hi => (hb.cell (p := ⟨g, i, none⟩) hg).trans (hc i hi)⟩
set_option maxRecDepth 100000 in
set_option maxHeartbeats 16000000 in
theorem same_yes (q1 q2 : Option Addr) (n c1 c2 : Nat) (l : List Nat) (w : World) (hl : l.length = n) (hn : n ≤ 4096) (h1 : RdN w w.heap.size q1 l) (h2 : RdN w w.heap.size q2 l) :
    Calls Tryd.prog 12 #[.slice q1 n c1, .slice q2 n c2] w fun e w' => e = .returned (.bool true) ∧ Below w.heap.size w w' := by
  have n4 : (n : Int) ≤ 4096 := by omega
  have t1 : ((n : Int) != n) = false := by simp
  have H1 := Lib.hid h1
  have H2 := Lib.hid h2
  have HL := Lib.hid hl
  clear h1 h2 hl
  go_enter Tryd.func12, Tryd.ntmps12
  go_wp2_with fail
  go_loopw [5] (fun v5 wr => ∃ i : Nat, i ≤ n ∧ v5 = .int .i64 i ∧ Hid (Below w.heap.size w wr)) (fun v5 _ => n - (intOf v5).toNat)
  case atStart => exact ⟨0, Nat.zero_le _, rfl, Lib.hid (Below.refl _ _)⟩
  case round =>
    obtain ⟨i, hi, rfl, P⟩ := hrel
    obtain ⟨W, rfl⟩ : ∃ wo : World, wo = wr := ⟨_, rfl⟩
    by_cases hlt : i < n
    · obtain ⟨g1, rfl, hg1, hc1⟩ := H1.out (by rw [HL.out]; omega)
      obtain ⟨g2, rfl, hg2, hc2⟩ := H2.out (by rw [HL.out]; omega)
      have hil : i < l.length := by rw [HL.out]; exact hlt
      have s1 : W.cell? ⟨g1, i, none⟩ = some (.int .i64 ((l.getD i 0 : Nat) : Int)) := (P.out.cell (p := ⟨g1, i, none⟩) hg1).trans (hc1 i hil)
      have s2 : W.cell? ⟨g2, i, none⟩ = some (.int .i64 ((l.getD i 0 : Nat) : Int)) := (P.out.cell (p := ⟨g2, i, none⟩) hg2).trans (hc2 i hil)
      obtain ⟨y, hy⟩ : ∃ y : Int, y = ((l.getD i 0 : Nat) : Int) := ⟨_, rfl⟩
      rw [← hy] at s1 s2
      have t2 : (y != y) = false := by simp
      have i1 : (i : Int) < n := by omega
      have i2 : (0 : Int) ≤ i := by omega
      clear hc1 hc2 hil hy hg1 hg2
      go_wp2_with fail
      go_region
      go_wp2_with fail
      go_roundw
      case rel => exact ⟨i + 1, by omega, by go_num, Lib.hid P.out.drew⟩
      case measure => simp [intOf]; omega
    · obtain rfl : n = i := by omega
      go_wp2_with fail
      go_ret
      exact ⟨rfl, P.out⟩

/-- How many are told of. -/
def lenX (n : Nat) : Nat := if n ≤ 4096 then n else 0
def nextX (p : List Ins) (a : Int) : List Nat := if p.length ≤ 4096 then nextA p a else []
def unsureX (p : List Ins) : List Nat := if p.length ≤ 4096 then unsureL p else []
/-- What the calls of the package cells have to return, over what must lie in memory. -/
structure CellsC (G : World → Prop) : Prop where
  on : ∀ {w w' : World}, G w → Below w.heap.size w w' → G w'
  next : ∀ (a0 : Option Addr) (n cap : Nat) (p : List Ins) (at_ : Int) (w : World), G w → p.length = n → OkL p → n ≤ cap → cap ≤ maxLen → (a0 = none → cap = 0) → -9223372036854775808 ≤ at_ → at_ ≤ 9223372036854775807 → RdI w w.heap.size a0 p → Calls Tryd.prog 13 #[.slice a0 n cap, .int .i64 at_] w (NextTo (nextX p at_) w)
  reached : ∀ (a0 : Option Addr) (n cap : Nat) (p : List Ins) (w : World), G w → p.length = n → OkL p → n ≤ cap → cap ≤ maxLen → (a0 = none → cap = 0) → RdI w w.heap.size a0 p → Calls Tryd.prog 10 #[.slice a0 n cap] w (BoolsTo (lenX n) (reachB p) w)
  sure : ∀ (a0 : Option Addr) (n cap : Nat) (p : List Ins) (w : World), G w → p.length = n → OkL p → n ≤ cap → cap ≤ maxLen → (a0 = none → cap = 0) → RdI w w.heap.size a0 p → Calls Tryd.prog 16 #[.slice a0 n cap] w (SetsTo (lenX n) (sureN p) w)
  unsure : ∀ (a0 : Option Addr) (n cap : Nat) (p : List Ins) (w : World), G w → p.length = n → OkL p → n ≤ cap → cap ≤ maxLen → (a0 = none → cap = 0) → RdI w w.heap.size a0 p → Calls Tryd.prog 18 #[.slice a0 n cap] w (NextTo (unsureX p) w)
theorem CellsC.al {G : World → Prop} (H : CellsC G) {w : World} (h : G w) (o : Obj) : G (w.alloc o) := H.on h ((Below.refl _ _).alloc (Nat.le_refl _) o)

/-- Marks that go on from more places are more. -/
theorem mark_go {f : Nat → List Nat} {go go' : Nat → Bool} (h : ∀ i, go i = true → go' i = true) : ∀ (n j : Nat), mark f go n j = true → mark f go' n j = true
  | 0, j, hm => hm
  | n + 1, j, hm => by
    have hm' : (mark f go n j || (mark f go n n && go n && (f n).contains j)) = true := hm
    show (mark f go' n j || (mark f go' n n && go' n && (f n).contains j)) = true
    rw [Bool.or_eq_true] at hm' ⊢
    rcases hm' with e | e
    · exact Or.inl (mark_go h n j e)
    · rw [Bool.and_eq_true, Bool.and_eq_true] at e
      exact Or.inr (by rw [mark_go h n n e.1.1, h n e.1.2, e.2]; rfl)
/-- Where a way leads that doesn't write the cell, a way leads. -/
theorem un_reach {p : List Ins} {c j : Nat} (h : unB p c j = true) : reachB p j = true := mark_go (fun _ _ => rfl) _ _ h
theorem sureTo_all {p : List Ins} {j : Nat} (h : ∀ c, unB p c j = false) : ∀ m, sureTo p j m = 2 ^ m - 1
  | 0 => rfl
  | m + 1 => by
    rw [sureTo_yes (h m), sureTo_all h m]
    apply Nat.eq_of_testBit_eq
    intro i
    rw [Nat.testBit_or, Nat.testBit_two_pow_sub_one, Nat.testBit_two_pow_sub_one, Nat.testBit_two_pow]
    rw [Bool.eq_iff_iff]
    simp only [Bool.or_eq_true, decide_eq_true_eq]
    omega
/-- Where no way leads, all cells are certain. -/
theorem sure_none {p : List Ins} {j : Nat} (h : reachB p j = false) : sureN p j = 65535 := sureTo_all (fun c => by
  cases hu : unB p c j with
  | false => rfl
  | true => rw [un_reach hu] at h; cases h) 16
theorem sureTo_nothing {p : List Ins} {j : Nat} (h : ∀ c, unB p c j = true) : ∀ m, sureTo p j m = 0
  | 0 => rfl
  | m + 1 => by rw [sureTo_no (h m), sureTo_nothing h m]
theorem sure_zero (p : List Ins) : sureN p 0 = 0 := sureTo_nothing (fun c => unB_zero p c) 16
/-- Reached is the first place, and to which a reached one leads. -/
theorem reach_from (p : List Ins) (j : Nat) : reachB p j = mark (nextL p) (fun _ => true) j j ∨ p.length < j := by
  by_cases h : j ≤ p.length
  · exact Or.inl (mark_more next_up h)
  · exact Or.inr (by omega)
end Go.Proofs.YthhfpehngdohhaaDoor
