/- Bytes as cells; bytes that came in; append of bytes, nil or not; the string of bytes. No condition. -/
import Derived.Test.YtifjnioichfodaaDoorRows
import Derived.Test.YtifjnioichfodaaDoorCards
import Derived.Test.YtifjnioichfodaaDoorTie
import Derived.SevenTiedAt
import Derived.Test.YtifjnioichfodaaDoorFr
import Derived.Test.YtifjnioichfodaaDoorZn
import Derived.Test.YtifjnioichfodaaDoorZm
import Derived.Test.YtifjnioichfodaaDoorLj
import Derived.Laws.BytesArg
import Derived.Laws.OwnMore
namespace Go.Proofs.YtifjnioichfodaaDoor
open Go.RowKit
/-- Bytes as cells. -/
def bL (l : List UInt8) : List Value := l.map fun c => .int .u8 (c.toNat : Int)
theorem bL_length (l : List UInt8) : (bL l).length = l.length := List.length_map _
theorem bL_app (a b : List UInt8) : bL (a ++ b) = bL a ++ bL b := List.map_append
theorem bL_one (l : List UInt8) : ∀ u ∈ bL l, u.oneCell' = true := fun u hu => by
  obtain ⟨s, _, rfl⟩ := List.mem_map.1 hu; rfl
theorem bL_get {l : List UInt8} {k : Nat} (h : k < l.length) : (bL l)[k]? = some (.int .u8 (l[k].toNat : Int)) := by
  unfold bL; rw [List.getElem?_map, List.getElem?_eq_getElem h]; rfl
theorem u8_info12 : (Tryd.prog.info? 5).map (fun i => (i.zero, i.size, i.bytes)) = some (some (.int .u8 0), 1, 1) := by kernel_rfl
theorem byt_list {z : List Int} (h : Byt z) : ∃ l : List UInt8, z = l.map (fun c => (c.toNat : Int)) := by
  refine ⟨z.map fun x => UInt8.ofNat x.toNat, ?_⟩
  rw [List.map_map]
  conv => lhs; rw [← List.map_id z]
  exact List.map_congr_left fun x hx => by
    obtain ⟨h0, h1⟩ := h x hx
    have : ((UInt8.ofNat x.toNat).toNat : Int) = x := by rw [UInt8.toNat_ofNat']; omega
    exact this.symm
theorem rdb_of {w : World} {a : Option Addr} {len cap : Nat} {l : List UInt8} (h : IsBytes w a len cap (l.map (fun c => (c.toNat : Int)))) : l.length = len ∧ RdB w w.heap.size a l := by
  have hs := h.size
  rw [List.length_map] at hs
  refine ⟨hs, fun h0 => ?_⟩
  obtain ⟨b, o, e, hb, hc⟩ := h.rd (by rw [List.length_map]; exact h0)
  refine ⟨b, o, e, hb, fun i hi => ?_⟩
  rw [hc i (by rw [List.length_map]; exact hi), List.getD_eq_getElem?_getD, List.getElem?_map, List.getElem?_eq_getElem hi]; rfl
theorem rdb_own {w : World} {B n c : Nat} {q : Option Addr} {l : List UInt8} (h : w.ownsRow B 5 1 (.slice q n c) n (bL l)) : l.length = n ∧ RdB w w.heap.size q l ∧ n ≤ c ∧ c ≤ maxLen ∧ (q = none → c = 0) := by
  have hl : l.length = n := by have := h.1; rw [bL_length] at this; omega
  rcases h.2 with ⟨hv, h0⟩ | ⟨g, cap, cur, hv, hg, hh, hc, hm, r⟩
  · injection hv with e1 e2 e3
    subst e1 e3
    refine ⟨hl, fun h => absurd h (by omega), by omega, Nat.zero_le _, fun _ => rfl⟩
  · injection hv with e1 e2 e3
    subst e1 e3
    refine ⟨hl, fun h0 => ⟨g, 0, rfl, (h.lt g rfl).2, fun i hi => ?_⟩, hc, hm, fun h => by cases h⟩
    rw [Nat.zero_add, h.cellAt i (by omega)]
    exact bL_get hi
theorem own_form12b {w : World} {B n s : Nat} {t : TypeId} {v : Value} {xs : List Value} (h : w.ownsRow B t s v n xs) : (v = .slice none 0 0 ∧ n = 0) ∨ ∃ g c, v = .slice (some ⟨g, 0, none⟩) n c := by
  rcases h.2 with ⟨rfl, e⟩ | ⟨g, cap, cur, rfl, _⟩
  · exact .inl ⟨rfl, e⟩
  · exact .inr ⟨g, cap, rfl⟩
theorem news_b {w : World} {p : Option Addr} {a : Addr} {l : List UInt8} (hp : p = some a) (h : RdB w w.heap.size p l) : ∀ j u, (bL l)[j]? = some u → w.cell? (a.add j) = some u := fun j u hu => by
  have hj : j < l.length := by have := (List.getElem?_eq_some_iff.1 hu).1; rwa [bL_length] at this
  obtain ⟨b, o, e, hb, hc⟩ := h (by omega)
  rw [hp] at e
  injection e with e
  subst e
  rw [Addr.add_lit, hc j hj, ← bL_get hj]; exact hu
/-- append(s, b...) of bytes, nil or not. -/
theorem wpList_app_b {w : World} {ops : Array Oper} {rest : List Oper} {op : Oper} {a : Act} {Q : Exit → Act → World → Prop} (hgd : op.guard = none) (s x : Operand)
    (ho : op.op = .call { callee := .builtin .append, args := #[s, x], argTypes := #[22, 22] }) (base : Nat) (v : Value) (n : Nat) (xs : List UInt8) (hs : a.eval s = v) (hown : w.ownsRow base 5 1 v n (bL xs))
    (p : Option Addr) (m c : Nat) (l : List UInt8) (hx : a.eval x = .slice p m c) (hl : l.length = m) (hr : RdB w w.heap.size p l) (hnil : p = none → c = 0) (hmc : m ≤ c) (hb : n + m ≤ 140737488355328) (hbase : base ≤ w.heap.size)
    (h : ∀ v' w', w'.ownsRow base 5 1 v' (n + m) (bL (xs ++ l)) → w.grownBy w' v.ownBlock → wpList Tryd.prog ops Q rest (a.put op.dst v') w') : wpList Tryd.prog ops Q (op :: rest) a w := by
  obtain ⟨i0, hi0, hz0, hz1, hz2⟩ := info_parts u8_info12
  cases p with
  | none =>
    have hc := hnil rfl
    subst hc
    obtain rfl : m = 0 := by omega
    have hl0 : l = [] := List.eq_nil_of_length_eq_zero hl
    subst hl0
    refine wpList_plain hgd fun _ hK => ?_
    have hr := run_append_owned_none (P := Tryd.prog) w base 22 op.type 5 i0 1 Tryd.underlying22 hi0 v n (bL xs) hown
    unfold Oper.wp execOp
    simp only [ho, resolve, invoke, builtin, Sem.run_bind, Sem.run_pure, Result.andThen_ok, List.map_toArray, List.map_cons, List.map_nil, hs, hx, hr]
    exact hK _ _ (h v w (by rw [List.append_nil]; exact hown) ⟨rfl, rfl, rfl, Nat.le_refl _, fun _ _ _ => rfl⟩)
  | some ad =>
    refine wpList_append_own w hgd s x 22 ho base 5 i0 _ 1 1 Tryd.underlying22 hi0 hz0 hz1 hz2 rfl (by omega) v n (bL xs) hs hown ad m c (bL l) hx (by rw [bL_length]; omega) (fun j u hu => ?_) (bL_one _) (by unfold maxLen; omega) (by omega) hbase fun v' w' h2 h3 _ => h v' w' (by rw [bL_app]; exact h2) h3
    exact news_b rfl hr j u hu
/-- string(b), where another operation wants it, or nobody. -/
theorem wpList_str12g {ops : Array Oper} {rest : List Oper} {op : Oper} {A : Operand} {a : Act} {w : World} {Q : Exit → Act → World → Prop} {l : List UInt8} {p : Option Addr} {n cap : Nat} (hw : Region.wanted op (yielded ops a.tmps) = true) (ho : op.op = .convert 22 9 A)
    (hA : a.eval A = .slice p n cap) (hn : l.length = n) (hr : RdB w w.heap.size p l)
    (h : wpList Tryd.prog ops Q rest (a.put op.dst (.string (bs l))) w) : wpList Tryd.prog ops Q (op :: rest) a w := by
  have hr : (execOp a.eval op).run Tryd.prog w = .ok (.value (.string (bs l))) w := by
    subst hn
    unfold execOp
    rw [ho]
    cases p with
    | none =>
      have hl0 : l = [] := by
        cases l with
        | nil => rfl
        | cons c r => obtain ⟨b, o, e, _⟩ := hr (by simp); cases e
      subst hl0
      have := run_convert_bytes_nil (P := Tryd.prog) w 22 5 Tryd.underlying22 Tryd.underlying5 0 cap 9 Tryd.underlying9
      simp [hA, this]
      rfl
    | some ad =>
      have := run_convert_bytes_back (P := Tryd.prog) w 22 9 5 ad cap l Tryd.underlying22 Tryd.underlying5 Tryd.underlying9 (fun j hj => by
        rw [news_b rfl hr j _ (bL_get hj)])
      simp [hA, this]
      rfl
  unfold wpList
  rw [if_pos hw]
  left
  unfold Oper.wp; rw [hr]; exact h
end Go.Proofs.YtifjnioichfodaaDoor
