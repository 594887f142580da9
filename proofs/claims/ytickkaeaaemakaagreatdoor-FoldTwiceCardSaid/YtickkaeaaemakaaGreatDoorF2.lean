/- The library's Clone, Delete, Insert at calls: what they return of a row of the caller's own; all else stays. Conditions: at most 100,000 calls. -/
import Derived.Test.YtickkaeaaemakaaGreatDoorTl
import Derived.Test.YtickkaeaaemakaaGreatDoorF1
import Derived.Lib.Overlaps
import Derived.Lib.SliceRun
import Derived.Lib.AppendZerosOnto
import Derived.Deep.RegionLaw
import Derived.BigRegion
import Derived.Laws.Externs
namespace Go.Proofs.YtickkaeaaemakaaGreatDoor
open Go.RowKit
set_option linter.unusedVariables false
set_option linter.unusedSimpArgs false
attribute [local go_sem ↓] Go.wp_at_zero Go.wp_at_succ

/-- A copy into a row that is known whole, from some place on. -/
theorem run_copy_at (w : World) (dT sT ty elem : TypeId) (g off dLen dCap : Nat) (sp : Option Addr) (sLen sCap s : Nat) (cur : Array Value) (t : TypeId) (cs : List Value)
    (hu : Tryz.prog.underlying dT = some (.slice elem)) (hs : (Tryz.prog.info? elem).map (·.size) = some s)
    (hg : w.heap[g]? = some (.cells cur t (0, 0))) (hn : cs.length = Nat.min sLen dLen * s) (hfit : off + cs.length ≤ cur.size)
    (ad : Addr) (hsp : sp = some ad) (hsrc : ∀ j v, cs[j]? = some v → w.cell? (ad.add j) = some v) (h1 : ∀ v ∈ cs, v.oneCell' = true) :
    (Builtin.copy_ #[dT, sT] ty #[.slice (some ⟨g, off, none⟩) dLen dCap, .slice sp sLen sCap]).run Tryz.prog w = .ok (goInt (Nat.min sLen dLen)) (w.setRow g (cur.toList.take off ++ cs ++ cur.toList.drop (off + cs.length)).toArray) := by
  subst hsp
  have hst := run_storeCells_at Tryz.prog g off t cs 0 cur w hg (by omega) h1
  simp only [Nat.add_zero] at hst
  have hl := run_loadCells_list (P := Tryz.prog) w ad cs hsrc
  rw [hn] at hl
  cases hq : Tryz.prog.info? elem with
  | none => simp [hq] at hs
  | some i =>
    have hi : i.size = s := by simpa [hq] using hs
    simp [Builtin.copy_, run_underlying hu, Builtin.lenOf, Builtin.firstCells, sizeOf, typeInfo, hq, hi, hl, hst]
/-- The elements that are given up take the zero value. -/
theorem run_clear_at (w : World) (t e ty : TypeId) (z : Value) (ht : Tryz.prog.underlying t = some (.slice e)) (hv : ∀ w, (zeroValue e).run Tryz.prog w = .ok z w) (g off n c : Nat) (hn : 0 < n) (cur : Array Value) (tc : TypeId) (hg : w.heap[g]? = some (.cells cur tc (0, 0)))
    (hfit : off + (Builtin.zeroCells z.cells n).toList.length ≤ cur.size) (h1 : ∀ v ∈ (Builtin.zeroCells z.cells n).toList, v.oneCell' = true) :
    (Builtin.clear_ #[t] ty #[.slice (some ⟨g, off, none⟩) n c]).run Tryz.prog w = .ok (.tuple #[]) (w.setRow g (cur.toList.take off ++ (Builtin.zeroCells z.cells n).toList ++ cur.toList.drop (off + (Builtin.zeroCells z.cells n).toList.length)).toArray) := by
  have hst := run_storeCells_at Tryz.prog g off tc (Builtin.zeroCells z.cells n).toList 0 cur w hg (by omega) h1
  simp only [Nat.add_zero] at hst
  obtain ⟨m, rfl⟩ : ∃ m, n = m + 1 := ⟨n - 1, by omega⟩
  simp [Builtin.clear_, run_underlying ht, hv, hst]
section
variable {w : World} {ops : Array Oper} {rest : List Oper} {o : Oper} {a : Act} {K : Act → World → Prop} {Q : Exit → Act → World → Prop} {E : Prop}
theorem wp_copy16 (x y : Operand) (T : Array TypeId) (ho : o.op = .call { callee := .builtin .copy, args := #[x, y], argTypes := T }) {v u r : Value} {w' : World} (hx : a.eval x = v) (hy : a.eval y = u)
    (hr : (Builtin.copy_ T o.type #[v, u]).run Tryz.prog w = .ok r w') (h : K (a.put o.dst r) w') : o.wp Tryz.prog a w K Q := by
  unfold Oper.wp execOp
  simp only [ho, resolve, invoke, builtin, Sem.run_bind, Sem.run_pure, Result.andThen_ok, List.map_toArray, List.map_cons, List.map_nil, hx, hy, hr]
  exact h
theorem wpList_copy16 (hgd : o.guard = none) (x y : Operand) (T : Array TypeId) (ho : o.op = .call { callee := .builtin .copy, args := #[x, y], argTypes := T }) {v u r : Value} {w' : World} (hx : a.eval x = v) (hy : a.eval y = u)
    (hr : (Builtin.copy_ T o.type #[v, u]).run Tryz.prog w = .ok r w') (h : wpList Tryz.prog ops Q rest (a.put o.dst r) w') : wpList Tryz.prog ops Q (o :: rest) a w :=
  wpList_plain hgd fun _ hK => wp_copy16 x y T ho hx hy hr (hK _ _ h)
theorem step_copy16 (hgd : o.guard = none) (x y : Operand) (T : Array TypeId) (ho : o.op = .call { callee := .builtin .copy, args := #[x, y], argTypes := T }) {v u r : Value} {w' : World} (hx : a.eval x = v) (hy : a.eval y = u)
    (hr : (Builtin.copy_ T o.type #[v, u]).run Tryz.prog w = .ok r w') (h : K (a.put o.dst r) w') : if Region.wanted o (yielded ops a.tmps) = true then Oper.wp Tryz.prog o a w K Q else E := by
  rw [if_pos (by unfold Region.wanted; rw [hgd])]
  exact wp_copy16 x y T ho hx hy hr h
theorem wp_appr16 (x y : Operand) (T : Array TypeId) (ho : o.op = .call { callee := .builtin .append, args := #[x, y], argTypes := T }) {v u r : Value} {w' : World} (hx : a.eval x = v) (hy : a.eval y = u)
    (hr : (Builtin.append_ T o.type #[v, u]).run Tryz.prog w = .ok r w') (h : K (a.put o.dst r) w') : o.wp Tryz.prog a w K Q := by
  unfold Oper.wp execOp
  simp only [ho, resolve, invoke, builtin, Sem.run_bind, Sem.run_pure, Result.andThen_ok, List.map_toArray, List.map_cons, List.map_nil, hx, hy, hr]
  exact h
theorem wpList_appr16 (hgd : o.guard = none) (x y : Operand) (T : Array TypeId) (ho : o.op = .call { callee := .builtin .append, args := #[x, y], argTypes := T }) {v u r : Value} {w' : World} (hx : a.eval x = v) (hy : a.eval y = u)
    (hr : (Builtin.append_ T o.type #[v, u]).run Tryz.prog w = .ok r w') (h : wpList Tryz.prog ops Q rest (a.put o.dst r) w') : wpList Tryz.prog ops Q (o :: rest) a w :=
  wpList_plain hgd fun _ hK => wp_appr16 x y T ho hx hy hr (hK _ _ h)
theorem step_appr16 (hgd : o.guard = none) (x y : Operand) (T : Array TypeId) (ho : o.op = .call { callee := .builtin .append, args := #[x, y], argTypes := T }) {v u r : Value} {w' : World} (hx : a.eval x = v) (hy : a.eval y = u)
    (hr : (Builtin.append_ T o.type #[v, u]).run Tryz.prog w = .ok r w') (h : K (a.put o.dst r) w') : if Region.wanted o (yielded ops a.tmps) = true then Oper.wp Tryz.prog o a w K Q else E := by
  rw [if_pos (by unfold Region.wanted; rw [hgd])]
  exact wp_appr16 x y T ho hx hy hr h
theorem wpList_clear16 (hgd : o.guard = none) (x : Operand) (T : Array TypeId) (ho : o.op = .call { callee := .builtin .clear, args := #[x], argTypes := T }) {v r : Value} {w' : World} (hx : a.eval x = v)
    (hr : (Builtin.clear_ T o.type #[v]).run Tryz.prog w = .ok r w') (h : wpList Tryz.prog ops Q rest (a.put o.dst r) w') : wpList Tryz.prog ops Q (o :: rest) a w :=
  wpList_plain hgd fun _ hK => by
    unfold Oper.wp execOp
    simp only [ho, resolve, invoke, builtin, Sem.run_bind, Sem.run_pure, Result.andThen_ok, List.map_toArray, List.map_cons, List.map_nil, hx, hr]
    exact hK _ _ h
end
theorem flat16 {w : World} {q : Option Addr} {L : List Cl} (h : LsAt w q L) (h0 : 0 < L.length) : ∃ ad, q = some ad ∧ ∀ j u, (rowC encC L)[j]? = some u → w.cell? (ad.add j) = some u := by
  obtain ⟨g, o, e, _⟩ := h 0 L[0] (List.getElem?_eq_getElem h0)
  refine ⟨_, e, fun j u hu => ?_⟩
  have hj : j < L.length * 2 := by rw [← rowC_length encC_len]; exact (List.getElem?_eq_some_iff.1 hu).1
  have hk : L[j / 2]? = some (L[j / 2]'(by omega)) := List.getElem?_eq_getElem _
  obtain ⟨g', o', e', c0, c1⟩ := h (j / 2) _ hk
  rw [e] at e'
  injection e' with e'
  injection e' with e1 e2
  subst e1 e2
  rw [Addr.add_lit]
  rcases Nat.mod_two_eq_zero_or_one j with hm | hm
  · have hr := rowC_get encC_len hk 0 _ rfl
    rw [show j / 2 * 2 + 0 = j by omega] at hr
    rw [hr] at hu
    injection hu with hu
    rw [← hu, show o + j = o + j / 2 * 2 by omega]
    exact c0
  · have hr := rowC_get encC_len hk 1 _ rfl
    rw [show j / 2 * 2 + 1 = j by omega] at hr
    rw [hr] at hu
    injection hu with hu
    rw [← hu, show o + j = o + j / 2 * 2 + 1 by omega]
    exact c1
theorem own16 {W : World} {B t s k : Nat} {u : Value} {xs : List Value} (h : W.ownsRow B t s u k xs) : ∃ q c, u = .slice q k c := by
  rcases h.2 with ⟨hv, h0⟩ | ⟨g, cap, cur, hv, _⟩
  · exact ⟨none, 0, by rw [hv, h0]⟩
  · exact ⟨_, _, hv⟩
theorem cell_alloc16 {W : World} {p : Addr} {v : Value} {o : Obj} (h : W.cell? p = some v) : (W.alloc o).cell? p = some v :=
  ((below16 W o).cell (World.block_lt_of_cell? W _ h)).trans h
theorem own_cur {W : World} {B g n c : Nat} {xs : List Value} (h : W.ownsRow B 51 2 (.slice (some ⟨g, 0, none⟩) n c) n xs) : ∃ cur, B ≤ g ∧ W.heap[g]? = some (.cells cur 51 (0, 0)) ∧ n ≤ c ∧ c ≤ maxLen ∧ cur.size = c * 2 ∧ cur.toList.take (n * 2) = xs := by
  rcases h.2 with ⟨h', _⟩ | ⟨g', cap', cur, h', hb, hg, h1, h2, h3, h4⟩
  · cases h'
  · injection h' with e1 e2 e3
    injection e1 with e1
    injection e1 with e1 _ _
    subst e1 e3
    exact ⟨cur, hb, hg, h1, h2, h3, h4⟩
theorem own_set {W : World} {B g m c : Nat} {cur new ys : List Value} (hg : W.heap[g]? = some (.cells cur.toArray 51 (0, 0))) (hb : B ≤ g) (hm : m ≤ c) (hc : c ≤ maxLen) (hs : new.length = c * 2) (ht : new.take (m * 2) = ys) :
    (W.setRow g new.toArray).ownsRow B 51 2 (.slice (some ⟨g, 0, none⟩) m c) m ys :=
  ⟨by rw [← ht, List.length_take, hs, Nat.min_eq_left (by omega)], .inr ⟨g, c, new.toArray, rfl, hb, setRow_heap W g _ _ _ _ hg, hm, hc, by simpa using hs, by simpa using ht⟩⟩
theorem grown_set {W W' : World} {g : Nat} {new : Array Value} (h : W.grownBy W' (some g)) : W.grownBy (W'.setRow g new) (some g) :=
  ⟨h.os, h.tape, h.output, by rw [show (W'.setRow g new).heap.size = W'.heap.size by simp [World.setRow]]; exact h.size, fun k hk hne => by
    rw [setRow_other _ _ _ _ (fun e => hne (by rw [e]))]; exact h.block k hk hne⟩
theorem grown_refl (W : World) (r : Option Nat) : W.grownBy W.drew r := ⟨rfl, rfl, rfl, Nat.le_refl _, fun _ _ _ => rfl⟩
theorem cells_at {W : World} {g : Nat} {cur : List Value} (hg : W.heap[g]? = some (.cells cur.toArray 51 (0, 0))) {k : Nat} {cs : List Value} (h : ∀ j u, cs[j]? = some u → cur[k + j]? = some u) : ∀ j u, cs[j]? = some u → W.cell? ((⟨g, k, none⟩ : Addr).add j) = some u := fun j u hu => by
  rw [Addr.add_lit, cell_of_row W g _ _ _ (0, 0) hg]
  simpa using h j u hu
theorem rowC_at {cur : List Value} {L : List Cl} {n : Nat} (h : cur.take (n * 2) = rowC encC L) (k : Nat) : ∀ j u, (rowC encC (L.drop k))[j]? = some u → cur[k * 2 + j]? = some u := fun j u hu => by
  rw [← rowC_drop, List.getElem?_drop, ← h, List.getElem?_take] at hu
  split at hu
  · exact hu
  · cases hu
theorem del_cells {cur : List Value} {L : List Cl} {n c i j : Nat} (hn : n = L.length) (hc : n ≤ c) (hs : cur.length = c * 2) (ht : cur.take (n * 2) = rowC encC L) (hij : i < j) (hj : j ≤ n) (Z : List Value) (hz : Z.length = (n - (i + (n - j))) * 2) :
    (cur.take (i * 2) ++ rowC encC (L.drop j) ++ cur.drop (i * 2 + (rowC encC (L.drop j)).length)).length = c * 2 ∧
    ((cur.take (i * 2) ++ rowC encC (L.drop j) ++ cur.drop (i * 2 + (rowC encC (L.drop j)).length)).take ((i + (n - j)) * 2) ++ Z ++ (cur.take (i * 2) ++ rowC encC (L.drop j) ++ cur.drop (i * 2 + (rowC encC (L.drop j)).length)).drop ((i + (n - j)) * 2 + Z.length)).length = c * 2 ∧
    ((cur.take (i * 2) ++ rowC encC (L.drop j) ++ cur.drop (i * 2 + (rowC encC (L.drop j)).length)).take ((i + (n - j)) * 2) ++ Z ++ (cur.take (i * 2) ++ rowC encC (L.drop j) ++ cur.drop (i * 2 + (rowC encC (L.drop j)).length)).drop ((i + (n - j)) * 2 + Z.length)).take ((i + (n - j)) * 2) = rowC encC (L.take i ++ L.drop j) := by
  have hr : (rowC encC (L.drop j)).length = (n - j) * 2 := by rw [rowC_length encC_len, List.length_drop, hn]
  have hi : cur.take (i * 2) = rowC encC (L.take i) := by
    rw [← rowC_take, ← ht, List.take_take, Nat.min_eq_left (by omega)]
  have hil : (cur.take (i * 2)).length = i * 2 := by rw [List.length_take, hs, Nat.min_eq_left (by omega)]
  have hA : (cur.take (i * 2) ++ rowC encC (L.drop j) ++ cur.drop (i * 2 + (rowC encC (L.drop j)).length)).length = c * 2 := by
    rw [List.length_append, List.length_append, hil, List.length_drop, hr, hs]; omega
  have hT : (cur.take (i * 2) ++ rowC encC (L.drop j) ++ cur.drop (i * 2 + (rowC encC (L.drop j)).length)).take ((i + (n - j)) * 2) = rowC encC (L.take i ++ L.drop j) := by
    rw [show (i + (n - j)) * 2 = (cur.take (i * 2) ++ rowC encC (L.drop j)).length by rw [List.length_append, hil, hr]; omega, List.take_left, hi, rowC_app]
  generalize cur.take (i * 2) ++ rowC encC (L.drop j) ++ cur.drop (i * 2 + (rowC encC (L.drop j)).length) = A at *
  have hAl : (A.take ((i + (n - j)) * 2)).length = (i + (n - j)) * 2 := by rw [List.length_take, hA, Nat.min_eq_left (by omega)]
  refine ⟨hA, ?_, ?_⟩
  · rw [List.length_append, List.length_append, hAl, List.length_drop, hA, hz]; omega
  · rw [List.append_assoc]
    exact (List.take_left' hAl).trans hT
theorem zero_len (n : Nat) : (Builtin.zeroCells (Value.agg #[.string ⟨#[]⟩, .int .u32 0]).cells n).toList.length = n * 2 := by
  rw [Array.length_toList, size_zeroCells]; rfl
theorem zero_one (n : Nat) : ∀ v ∈ (Builtin.zeroCells (Value.agg #[.string ⟨#[]⟩, .int .u32 0]).cells n).toList, v.oneCell' = true := fun v hv => by
  unfold Builtin.zeroCells at hv
  rw [Array.toList_map, List.mem_map] at hv
  obtain ⟨i, _, rfl⟩ := hv
  rcases Nat.mod_two_eq_zero_or_one i with e | e
  · show ((#[.string ⟨#[]⟩, .int .u32 0] : Array Value)[i % 2]!).oneCell' = true
    rw [e]; rfl
  · show ((#[.string ⟨#[]⟩, .int .u32 0] : Array Value)[i % 2]!).oneCell' = true
    rw [e]; rfl
theorem zero_call : ∀ w, (zeroValue 51).run Tryz.prog w = .ok (.agg #[.string ⟨#[]⟩, .int .u32 0]) w := fun w => by
  obtain ⟨i0, hi0, hz0, _, _⟩ := info_parts cl_info
  simp [zeroValue, typeInfo, hi0, hz0]
set_option maxRecDepth 100000 in
set_option maxHeartbeats 4000000 in
/-- Clone: the calls in a row of the call's own. -/
theorem clone_l (q : Option Addr) (n c : Nat) (L : List Cl) (w : World) (hl : n = L.length) (hn : n ≤ 100000) (h : LsAt w q L) : Calls Tryz.prog 51 #[.slice q n c] w fun e w' => ∃ q' c', e = .returned (.slice q' n c') ∧ w'.ownsRow w.heap.size 51 2 (.slice q' n c') n (rowC encC L) ∧ Below w.heap.size w w' := by
  have q22 : ∀ (w : World) (a : Option Addr) (n c n' c' : Nat), (binOp .eql 22 (.slice a n c) (.slice none n' c')).run Tryz.prog w = .ok (.bool a.isNone) w := fun w a n c n' c' => Lib.run_eql_slice_nil w _ _ a n c n' c' Tryz.underlying22
  cases q with
  | none =>
    obtain rfl : L = [] := by
      cases L with
      | nil => rfl
      | cons x r => obtain ⟨g, o, e, _⟩ := h 0 x rfl; cases e
    obtain rfl : n = 0 := hl
    clear h hn
    go_enter Tryz.func51, Tryz.ntmps51
    go_wp2
    go_ret
    exact ⟨none, 0, rfl, World.ownsRow_nil _ _ _ _, Below.refl _ _⟩
  | some ad =>
    obtain ⟨i0, hi0, hz0, hz1, hz2⟩ := info_parts cl_info
    have HI := Lib.hid hi0
    have HZ0 := Lib.hid hz0
    have HZ1 := Lib.hid hz1
    have HZ2 := Lib.hid hz2
    have HN := Lib.hid (show ∀ j u, (rowC encC L)[j]? = some u → w.cell? (ad.add j) = some u from fun j u hu => by
      have h0 : 0 < L.length := by
        rcases Nat.eq_zero_or_pos L.length with e | e
        · rw [List.eq_nil_of_length_eq_zero e] at hu; simp [rowC] at hu
        · exact e
      obtain ⟨ad', e, hc⟩ := flat16 h h0
      injection e with e
      subst e
      exact hc j u hu)
    have HL := Lib.hid hl
    have HM := Lib.hid hn
    clear hi0 hz0 hz1 hz2 h hl hn
    go_enter Tryz.func51, Tryz.ntmps51
    go_wp2_with (at_builtin
                 go_loud (refine wpList_append_own _ rfl _ _ 22 rfl w.heap.size 51 i0 _ 2 24 Tryz.underlying22 HI.out HZ0.out HZ1.out HZ2.out rfl (by decide) _ _ _ rfl (World.ownsRow_made w #[] 0 (Nat.le_refl _) (Nat.zero_le _) rfl) ad n c (rowC encC L) rfl ?qc1 ?qc2 ?qc3 ?qc4 ?qc5 ?qc6 ?_))
    case qc1 => rw [rowC_length encC_len, HL.out]
    case qc2 => exact fun j u hu => cell_alloc16 (HN.out j u hu)
    case qc3 => exact rowC_oneCell encC_one _
    case qc4 => have := HM.out; unfold maxLen; omega
    case qc5 => have := HM.out; omega
    case qc6 => rw [World.size_alloc]; exact Nat.le_succ _
    intro v' w' h1 h2 h3
    obtain ⟨q', c', rfl⟩ := own16 h1
    go_wp2
    go_ret
    exact ⟨q', c', rfl, h1, (below16 w _).grown h2 (by rw [World.size_alloc]; exact Nat.le_succ _) (fun k e => Nat.le_of_eq (Option.some.inj e))⟩
set_option maxRecDepth 100000 in
set_option maxHeartbeats 4000000 in
/-- Delete: the elements from i up to j are gone; nothing else turns but the row. -/
theorem delete_l (W : World) (B g n c i j : Nat) (L : List Cl) (hO : W.ownsRow B 51 2 (.slice (some ⟨g, 0, none⟩) n c) n (rowC encC L)) (hn : n = L.length) (hij : i < j) (hj : j ≤ n) (hb : n ≤ 100000) :
    Calls Tryz.prog 62 #[.slice (some ⟨g, 0, none⟩) n c, .int .i64 i, .int .i64 j] W fun e w' => e = .returned (.slice (some ⟨g, 0, none⟩) (i + (n - j)) c) ∧ w'.ownsRow B 51 2 (.slice (some ⟨g, 0, none⟩) (i + (n - j)) c) (i + (n - j)) (rowC encC (L.take i ++ L.drop j)) ∧ W.grownBy w' (some g) := by
  obtain ⟨cura, hB, hg, hnc, hcm, hcs, htk⟩ := own_cur hO
  obtain ⟨cur, rfl⟩ : ∃ l : List Value, cura = l.toArray := ⟨cura.toList, by simp⟩
  have hcs : cur.length = c * 2 := by simpa using hcs
  have htk : cur.take (n * 2) = rowC encC L := by simpa using htk
  obtain ⟨i0, hi0, hz0, hz1, hz2⟩ := info_parts cl_info
  have hdl : (rowC encC (L.drop j)).length = (n - j) * 2 := by rw [rowC_length encC_len, List.length_drop, hn]
  obtain ⟨k1, k2, k3⟩ := del_cells hn hnc hcs htk hij hj _ (zero_len (n - (i + (n - j))))
  obtain ⟨A, hA⟩ : ∃ A, A = cur.take (i * 2) ++ rowC encC (L.drop j) ++ cur.drop (i * 2 + (rowC encC (L.drop j)).length) := ⟨_, rfl⟩
  rw [← hA] at k1 k2 k3
  obtain ⟨D, hD⟩ : ∃ D, D = A.take ((i + (n - j)) * 2) ++ (Builtin.zeroCells (Value.agg #[.string ⟨#[]⟩, .int .u32 0]).cells (n - (i + (n - j)))).toList ++ A.drop ((i + (n - j)) * 2 + (Builtin.zeroCells (Value.agg #[.string ⟨#[]⟩, .int .u32 0]).cells (n - (i + (n - j)))).toList.length) := ⟨_, rfl⟩
  rw [← hD] at k2 k3
  obtain ⟨ad, had, hsrc⟩ : ∃ ad : Addr, (if c = j then some (⟨g, 0, none⟩ : Addr) else some ⟨g, j * 2, none⟩) = some ad ∧ (∀ t u, (rowC encC (L.drop j))[t]? = some u → W.drew.cell? (ad.add t) = some u) := by
    by_cases h : c = j
    · refine ⟨⟨g, 0, none⟩, by simp [h], fun t u hu => ?_⟩
      have h0 : (rowC encC (L.drop j)).length = 0 := by rw [hdl]; omega
      rw [List.length_eq_zero_iff.1 h0] at hu
      simp at hu
    · exact ⟨⟨g, j * 2, none⟩, by simp [h], cells_at (W := W.drew) hg (rowC_at htk j)⟩
  obtain ⟨W1, hW1⟩ : ∃ W1, W1 = W.drew.setRow g A.toArray := ⟨_, rfl⟩
  have hg1 : W1.heap[g]? = some (.cells A.toArray 51 (0, 0)) := by rw [hW1]; exact setRow_heap W.drew g _ _ _ _ hg
  have gr1 : W.grownBy W1 (some g) := by rw [hW1]; exact grown_set (grown_refl W _)
  have HAP := Lib.hid (show ∀ ty, (Builtin.append_ #[22, 22] ty #[.slice (some ⟨g, 0, none⟩) i c, .slice (some ad) (n - j) (c - j)]).run Tryz.prog W.drew = .ok (.slice (some ⟨g, 0, none⟩) (i + (n - j)) c) W1 from fun ty => by
    have := run_append_room (P := Tryz.prog) W.drew 22 ty 51 i0 Tryz.underlying22 hi0 g i c cur.toArray hg ad (n - j) (c - j) (rowC encC (L.drop j)) (by rw [hz1]; exact hdl) hsrc (rowC_oneCell encC_one _) (by omega) (by rw [hz1, hdl]; simp; omega)
    rw [hz1] at this
    rw [this, hW1, hA])
  have HCL := Lib.hid (show ∀ ty, (Builtin.clear_ #[22] ty #[.slice (some ⟨g, (i + (n - j)) * 2, none⟩) (n - (i + (n - j))) (c - (i + (n - j)))]).run Tryz.prog W1 = .ok (.tuple #[]) (W1.setRow g D.toArray) from fun ty => by
    have := run_clear_at W1 22 51 ty _ Tryz.underlying22 zero_call g ((i + (n - j)) * 2) (n - (i + (n - j))) (c - (i + (n - j))) (by omega) A.toArray _ hg1 (by rw [zero_len]; simp [k1]; omega) (zero_one _)
    rw [this, hD])
  have HO := Lib.hid (own_set hg1 hB (show i + (n - j) ≤ c by omega) hcm k2 k3)
  have HG := Lib.hid (grown_set (new := D.toArray) gr1)
  have e1 : i ≤ c := by omega
  have e2 : j ≤ c := by omega
  have e3 : i ≤ j := by omega
  have e4 : (i : Int) ≤ j := by omega
  have e5 : (j : Int) ≤ n := by omega
  have e6 : ¬ (i : Int) = j := by omega
  have e7 : i + (n - j) ≤ n := by omega
  have e8 : ¬ c = i + (n - j) := by omega
  have e9 : n ≤ c := hnc
  obtain ⟨m, hm⟩ : ∃ m, m = i + (n - j) := ⟨_, rfl⟩
  clear hO hn hij hb hg hcm hcs htk hi0 hz0 hz1 hz2 hdl k1 k2 k3 hA hD hsrc hW1 hg1 gr1 hnc hB hm
  go_enter Tryz.func62, Tryz.ntmps62
  go_wp2_with fail
  go_region_law (refine step_appr16 rfl (.tmp 22) (.tmp 25) #[22, 22] (by rfl) (by simp [Act.eval, Act.put]) (by simp [Act.eval, Act.put]) (HAP.out _) ?_)
  go_wp2_with ((with_reducible show wpList _ _ _ (⟨none, .call _, _, _, _, _⟩ :: _) _ _)
               go_loud (refine wpList_clear16 rfl (.tmp 31) #[22] rfl rfl (HCL.out _) ?_))
  go_ret
  exact ⟨rfl, HO.out, HG.out⟩
end Go.Proofs.YtickkaeaaemakaaGreatDoor
