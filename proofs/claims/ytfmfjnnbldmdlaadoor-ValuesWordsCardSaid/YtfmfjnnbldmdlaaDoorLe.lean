/- What the document's own Lines returns: a file's lines. Condition: bytes that lie in memory, at most a million. -/
import Derived.Test.YtfmfjnnbldmdlaaDoorLd
import Derived.Laws.Concat
import Derived.Laws.Cover1
import Derived.Maps.AppendAt
import Derived.WalkSmall
namespace Go.Proofs.YtfmfjnnbldmdlaaDoor
open Go.RowKit
set_option linter.unusedVariables false
set_option linter.unusedSimpArgs false
attribute [local go_sem ↓] Go.wp_at_zero Go.wp_at_succ

/-- A slice of bytes can be read. -/
def RdB (w : World) (B : Nat) (p : Option Addr) (l : List UInt8) : Prop := 0 < l.length → ∃ b o, p = some ⟨b, o, none⟩ ∧ b < B ∧ ∀ i (h : i < l.length), w.cell? ⟨b, o + i, none⟩ = some (.int .u8 (l[i].toNat : Int))
theorem RdB.on {w w' : World} {p : Option Addr} {l : List UInt8} (h : RdB w w.heap.size p l) (hb : Below w.heap.size w w') : RdB w' w'.heap.size p l := fun h0 => by
  obtain ⟨b, o, rfl, hlt, hc⟩ := h h0
  exact ⟨b, o, rfl, Nat.lt_of_lt_of_le hlt hb.size, fun i hi => (hb.cell (p := ⟨b, o + i, none⟩) hlt).trans (hc i hi)⟩
/-- Strings as cells. -/
def sL (ls : List (List UInt8)) : List Value := ls.map fun s => .string (bs s)
theorem sL_length (ls : List (List UInt8)) : (sL ls).length = ls.length := List.length_map _
theorem sL_one (ls : List (List UInt8)) : ∀ u ∈ sL ls, u.oneCell' = true := fun u hu => by
  obtain ⟨s, _, rfl⟩ := List.mem_map.1 hu; rfl
theorem sL_app (a b : List (List UInt8)) : sL (a ++ b) = sL a ++ sL b := List.map_append
theorem sL_get {ls : List (List UInt8)} {k : Nat} {s : List UInt8} (h : ls[k]? = some s) : (sL ls)[k]? = some (.string (bs s)) := by
  unfold sL; rw [List.getElem?_map, h]; rfl
theorem str_info12 : (Tryd.prog.info? 9).map (fun i => (i.zero, i.size, i.bytes)) = some (some (.string ⟨#[]⟩), 1, 16) := by kernel_rfl
theorem news_s (w : World) (x : List UInt8) (t : TypeId) : ∀ j u, (sL [x])[j]? = some u → (w.alloc (.cells #[.string (bs x)] t)).cell? ((⟨w.heap.size, 0, none⟩ : Addr).add j) = some u := fun j u hu => by
  match j, hu with
  | 0, hu =>
    injection hu with hu
    subst hu
    show (w.alloc _).cell? ⟨w.heap.size, 0, none⟩ = _
    rw [cell_of_row _ _ _ _ _ (0, 0) (heap_alloc_new w _)]; rfl
  | j + 1, hu => cases hu
/-- A string of the bytes that lie in memory. -/
theorem wpList_str12 {ops : Array Oper} {rest : List Oper} {op : Oper} {A : Operand} {a : Act} {w : World} {Q : Exit → Act → World → Prop} {l : List UInt8} {p : Addr} {n cap : Nat} (hgd : op.guard = none) (ho : op.op = .convert 83 9 A)
    (hA : a.eval A = .slice (some p) n cap) (hn : n = l.length) (hc : ∀ j (hj : j < l.length), w.cell? (p.add j) = some (.int .u8 (l[j].toNat : Int)))
    (h : wpList Tryd.prog ops Q rest (a.put op.dst (.string (bs l))) w) : wpList Tryd.prog ops Q (op :: rest) a w :=
  wpList_plain hgd fun _ hK => by
    subst hn
    have hr : (execOp a.eval op).run Tryd.prog w = .ok (.value (.string (bs l))) w := by
      have := run_convert_bytes_back (P := Tryd.prog) w 83 9 5 p cap l Tryd.underlying83 Tryd.underlying5 Tryd.underlying9 hc
      unfold execOp
      rw [ho]
      simp [hA, this]
      rfl
    unfold Oper.wp; rw [hr]; exact hK _ _ h
theorem lin_cut {l : List UInt8} {P : List (List UInt8)} {i f : Nat} (hi : i < l.length) (hf : f ≤ i) (h : P ++ linA ((l.take i).drop f) (l.drop i) = linL l) (hc : l[i] = 10) : (P ++ [(l.take i).drop f]) ++ linA ((l.take (i + 1)).drop (i + 1)) (l.drop (i + 1)) = linL l := by
  rw [← h, ← List.getElem_cons_drop hi, hc]
  rw [show linA ((l.take i).drop f) (10 :: l.drop (i + 1)) = (l.take i).drop f :: linA [] (l.drop (i + 1)) from by conv => lhs; unfold linA; rw [if_pos rfl]]
  rw [show (l.take (i + 1)).drop (i + 1) = [] from List.drop_of_length_le (by rw [List.length_take]; omega), List.append_assoc]; rfl
theorem lin_go {l : List UInt8} {P : List (List UInt8)} {i f : Nat} (hi : i < l.length) (hf : f ≤ i) (h : P ++ linA ((l.take i).drop f) (l.drop i) = linL l) (hc : l[i] ≠ 10) : P ++ linA ((l.take (i + 1)).drop f) (l.drop (i + 1)) = linL l := by
  rw [← h, ← List.getElem_cons_drop hi]
  rw [show linA ((l.take i).drop f) (l[i] :: l.drop (i + 1)) = linA ((l.take i).drop f ++ [l[i]]) (l.drop (i + 1)) from by conv => lhs; unfold linA; rw [if_neg hc]]
  rw [List.take_succ_eq_append_getElem hi, List.drop_append_of_le_length (by rw [List.length_take]; omega)]
theorem lin_end {l : List UInt8} {P : List (List UInt8)} {f : Nat} (hf : f ≤ l.length) (h : P ++ linA ((l.take l.length).drop f) (l.drop l.length) = linL l) : linL l = if f < l.length then P ++ [l.drop f] else P := by
  rw [← h, List.take_length, List.drop_length]
  by_cases hl : f < l.length
  · rw [if_pos hl]
    unfold linA
    rw [if_neg (fun e => by have := congrArg List.length e; rw [List.length_drop] at this; simp at this; omega)]
  · rw [if_neg hl]
    unfold linA
    rw [if_pos (List.drop_of_length_le (by omega)), List.append_nil]
theorem own_form12 {w : World} {B n s : Nat} {t : TypeId} {v : Value} {xs : List Value} (h : w.ownsRow B t s v n xs) : ∃ q c, v = .slice q n c := by
  rcases h.2 with ⟨rfl, e⟩ | ⟨g, cap, cur, rfl, _⟩
  · exact ⟨none, 0, by rw [e]⟩
  · exact ⟨_, _, rfl⟩
end Go.Proofs.YtfmfjnnbldmdlaaDoor
