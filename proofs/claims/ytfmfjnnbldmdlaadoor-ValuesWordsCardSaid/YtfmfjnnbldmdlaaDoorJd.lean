/- What the document's own All, Flags of the namespaces return. No condition. -/
import Derived.Test.YtfmfjnnbldmdlaaDoorJc
namespace Go.Proofs.YtfmfjnnbldmdlaaDoor
open Go.RowKit
set_option linter.unusedVariables false
set_option linter.unusedSimpArgs false
attribute [local go_sem ↓] Go.wp_at_zero Go.wp_at_succ

/-- All flags together. -/
def allN : Nat := 2114060416
def sumTo (k : Nat) : Nat := ((spcT.take k).map (·.2)).foldl (· + ·) 0
/-- The flags that are set in a number, one by one. -/
def flagsTo (x : Nat) (k : Nat) : List Nat := ((spcT.take k).filter fun e => x / e.2 % 2 == 1).map (·.2)
def flagsR (x : Nat) : List Nat := flagsTo x 8
theorem spc_at : ∀ k, k < 8 → ∃ e, spcT[k]? = some e ∧ 0 < e.2 ∧ e.2 < 4294967296 := by
  have h : (List.range 8).all (fun k => match spcT[k]? with | some e => decide (0 < e.2) && decide (e.2 < 4294967296) | none => false) = true := by decide +kernel
  intro k hk
  have := List.all_eq_true.1 h k (List.mem_range.2 hk)
  cases he : spcT[k]? with
  | none => rw [he] at this; cases this
  | some e =>
    rw [he] at this
    simp only [Bool.and_eq_true, decide_eq_true_eq] at this
    exact ⟨e, rfl, this.1, this.2⟩
theorem sum_step {k : Nat} {e : En10} (h : spcT[k]? = some e) : sumTo (k + 1) = sumTo k + e.2 := by
  unfold sumTo
  rw [List.take_add_one, h, List.map_append, List.foldl_append]; rfl
theorem sum_lt : ∀ k, k ≤ 8 → sumTo k < 4294967296 := by
  have h : (List.range 9).all (fun k => decide (sumTo k < 4294967296)) = true := by decide +kernel
  intro k hk
  exact of_decide_eq_true (List.all_eq_true.1 h k (List.mem_range.2 (by omega)))
theorem flags_step {x k : Nat} {e : En10} (h : spcT[k]? = some e) : flagsTo x (k + 1) = flagsTo x k ++ (if x / e.2 % 2 = 1 then [e.2] else []) := by
  unfold flagsTo
  rw [List.take_add_one, h, List.filter_append, List.map_append]
  congr 1
  by_cases hh : x / e.2 % 2 = 1
  · simp [hh]
  · simp [hh]
theorem flags_le (x k : Nat) : (flagsTo x k).length ≤ k := by
  unfold flagsTo
  rw [List.length_map]
  exact Nat.le_trans (List.length_filter_le _ _) (by rw [List.length_take]; omega)
def u64N (l : List Nat) : List Value := l.map fun x => .int .u64 ((x : Nat) : Int)
theorem u64N_len (l : List Nat) : (u64N l).length = l.length := by simp [u64N]
theorem u64N_snoc (l : List Nat) (x : Nat) : u64N (l ++ [x]) = u64N l ++ [.int .u64 (x : Nat)] := by unfold u64N; rw [List.map_append]; rfl
theorem u64_info10 : (Tryd.prog.info? 65).map (fun i => (i.zero, i.size, i.bytes)) = some (some (.int .u64 0), 1, 8) := by kernel_rfl
theorem news_one10 (w : World) (v : Value) (e : TypeId) : ∀ j u, [v][j]? = some u → (w.alloc (.cells #[v] e)).cell? ((⟨w.heap.size, 0, none⟩ : Addr).add j) = some u := by
  intro j u hu
  match j, hu with
  | 0, hu =>
    injection hu with hu
    subst hu
    show (w.alloc _).cell? ⟨w.heap.size, 0, none⟩ = _
    rw [cell_of_row _ _ _ _ _ (0, 0) (heap_alloc_new w _)]; rfl
theorem own_sl10 {w : World} {B n s : Nat} {e : TypeId} {v : Value} {xs : List Value} (h : w.ownsRow B e s v n xs) : ∃ q c, v = .slice q n c := by
  rcases h.2 with ⟨rfl, h0⟩ | ⟨g, cap, cur, rfl, _⟩
  · exact ⟨none, 0, by rw [h0]⟩
  · exact ⟨_, _, rfl⟩
theorem own_low10 {w : World} {B B' n size : Nat} {e : TypeId} {v : Value} {xs : List Value} (h : w.ownsRow B e size v n xs) (hB : B' ≤ B) : w.ownsRow B' e size v n xs := by
  obtain ⟨h1, h2⟩ := h
  refine ⟨h1, ?_⟩
  rcases h2 with h2 | ⟨g, cap, cur, hv, hgB, r⟩
  · exact Or.inl h2
  · exact Or.inr ⟨g, cap, cur, hv, by omega, r⟩
end Go.Proofs.YtfmfjnnbldmdlaaDoor
