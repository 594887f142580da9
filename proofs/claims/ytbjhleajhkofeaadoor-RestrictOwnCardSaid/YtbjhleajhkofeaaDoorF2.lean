/- The library's Clone, Delete, Insert at calls: what they return of a row of the caller's own; all else stays. Conditions: at most 100,000 calls. The library's Insert of one call into a row of the caller's own: the row with the call at its place; all else stays. Conditions: at most 100,000 calls. -/
import Derived.Test.YtbjhleajhkofeaaDoorTl
import Derived.Test.YtbjhleajhkofeaaDoorTj
import Derived.Lib.Overlaps
import Derived.Lib.SliceRun
import Derived.Lib.AppendZerosOnto
import Derived.Deep.RegionLaw
import Derived.BigRegion
import Derived.Laws.Externs
import Derived.Maps.AppendAt
namespace Go.Proofs.YtbjhleajhkofeaaDoor
open Go.RowKit
set_option linter.unusedVariables false
set_option linter.unusedSimpArgs false
attribute [local go_sem ↓] Go.wp_at_zero Go.wp_at_succ

/-- A copy into a row that is known whole, from some place on. -/
theorem run_copy_at (w : World) (dT sT ty elem : TypeId) (g off dLen dCap : Nat) (sp : Option Addr) (sLen sCap s : Nat) (cur : Array Value) (t : TypeId) (cs : List Value)
    (hu : Tryd.prog.underlying dT = some (.slice elem)) (hs : (Tryd.prog.info? elem).map (·.size) = some s)
    (hg : w.heap[g]? = some (.cells cur t (0, 0))) (hn : cs.length = Nat.min sLen dLen * s) (hfit : off + cs.length ≤ cur.size)
    (ad : Addr) (hsp : sp = some ad) (hsrc : ∀ j v, cs[j]? = some v → w.cell? (ad.add j) = some v) (h1 : ∀ v ∈ cs, v.oneCell' = true) :
    (Builtin.copy_ #[dT, sT] ty #[.slice (some ⟨g, off, none⟩) dLen dCap, .slice sp sLen sCap]).run Tryd.prog w = .ok (goInt (Nat.min sLen dLen)) (w.setRow g (cur.toList.take off ++ cs ++ cur.toList.drop (off + cs.length)).toArray) := by
  subst hsp
  have hst := run_storeCells_at Tryd.prog g off t cs 0 cur w hg (by omega) h1
  simp only [Nat.add_zero] at hst
  have hl := run_loadCells_list (P := Tryd.prog) w ad cs hsrc
  rw [hn] at hl
  cases hq : Tryd.prog.info? elem with
  | none => simp [hq] at hs
  | some i =>
    have hi : i.size = s := by simpa [hq] using hs
    simp [Builtin.copy_, run_underlying hu, Builtin.lenOf, Builtin.firstCells, sizeOf, typeInfo, hq, hi, hl, hst]
/-- The elements that are given up take the zero value. -/
theorem run_clear_at (w : World) (t e ty : TypeId) (z : Value) (ht : Tryd.prog.underlying t = some (.slice e)) (hv : ∀ w, (zeroValue e).run Tryd.prog w = .ok z w) (g off n c : Nat) (hn : 0 < n) (cur : Array Value) (tc : TypeId) (hg : w.heap[g]? = some (.cells cur tc (0, 0)))
    (hfit : off + (Builtin.zeroCells z.cells n).toList.length ≤ cur.size) (h1 : ∀ v ∈ (Builtin.zeroCells z.cells n).toList, v.oneCell' = true) :
    (Builtin.clear_ #[t] ty #[.slice (some ⟨g, off, none⟩) n c]).run Tryd.prog w = .ok (.tuple #[]) (w.setRow g (cur.toList.take off ++ (Builtin.zeroCells z.cells n).toList ++ cur.toList.drop (off + (Builtin.zeroCells z.cells n).toList.length)).toArray) := by
  have hst := run_storeCells_at Tryd.prog g off tc (Builtin.zeroCells z.cells n).toList 0 cur w hg (by omega) h1
  simp only [Nat.add_zero] at hst
  obtain ⟨m, rfl⟩ : ∃ m, n = m + 1 := ⟨n - 1, by omega⟩
  simp [Builtin.clear_, run_underlying ht, hv, hst]
section
variable {w : World} {ops : Array Oper} {rest : List Oper} {o : Oper} {a : Act} {K : Act → World → Prop} {Q : Exit → Act → World → Prop} {E : Prop}
theorem wp_copy16 (x y : Operand) (T : Array TypeId) (ho : o.op = .call { callee := .builtin .copy, args := #[x, y], argTypes := T }) {v u r : Value} {w' : World} (hx : a.eval x = v) (hy : a.eval y = u)
    (hr : (Builtin.copy_ T o.type #[v, u]).run Tryd.prog w = .ok r w') (h : K (a.put o.dst r) w') : o.wp Tryd.prog a w K Q := by
  unfold Oper.wp execOp
  simp only [ho, resolve, invoke, builtin, Sem.run_bind, Sem.run_pure, Result.andThen_ok, List.map_toArray, List.map_cons, List.map_nil, hx, hy, hr]
  exact h
theorem wpList_copy16 (hgd : o.guard = none) (x y : Operand) (T : Array TypeId) (ho : o.op = .call { callee := .builtin .copy, args := #[x, y], argTypes := T }) {v u r : Value} {w' : World} (hx : a.eval x = v) (hy : a.eval y = u)
    (hr : (Builtin.copy_ T o.type #[v, u]).run Tryd.prog w = .ok r w') (h : wpList Tryd.prog ops Q rest (a.put o.dst r) w') : wpList Tryd.prog ops Q (o :: rest) a w :=
  wpList_plain hgd fun _ hK => wp_copy16 x y T ho hx hy hr (hK _ _ h)
theorem step_copy16 (hgd : o.guard = none) (x y : Operand) (T : Array TypeId) (ho : o.op = .call { callee := .builtin .copy, args := #[x, y], argTypes := T }) {v u r : Value} {w' : World} (hx : a.eval x = v) (hy : a.eval y = u)
    (hr : (Builtin.copy_ T o.type #[v, u]).run Tryd.prog w = .ok r w') (h : K (a.put o.dst r) w') : if Region.wanted o (yielded ops a.tmps) = true then Oper.wp Tryd.prog o a w K Q else E := by
  rw [if_pos (by unfold Region.wanted; rw [hgd])]
  exact wp_copy16 x y T ho hx hy hr h
theorem wp_appr16 (x y : Operand) (T : Array TypeId) (ho : o.op = .call { callee := .builtin .append, args := #[x, y], argTypes := T }) {v u r : Value} {w' : World} (hx : a.eval x = v) (hy : a.eval y = u)
    (hr : (Builtin.append_ T o.type #[v, u]).run Tryd.prog w = .ok r w') (h : K (a.put o.dst r) w') : o.wp Tryd.prog a w K Q := by
  unfold Oper.wp execOp
  simp only [ho, resolve, invoke, builtin, Sem.run_bind, Sem.run_pure, Result.andThen_ok, List.map_toArray, List.map_cons, List.map_nil, hx, hy, hr]
  exact h
theorem wpList_appr16 (hgd : o.guard = none) (x y : Operand) (T : Array TypeId) (ho : o.op = .call { callee := .builtin .append, args := #[x, y], argTypes := T }) {v u r : Value} {w' : World} (hx : a.eval x = v) (hy : a.eval y = u)
    (hr : (Builtin.append_ T o.type #[v, u]).run Tryd.prog w = .ok r w') (h : wpList Tryd.prog ops Q rest (a.put o.dst r) w') : wpList Tryd.prog ops Q (o :: rest) a w :=
  wpList_plain hgd fun _ hK => wp_appr16 x y T ho hx hy hr (hK _ _ h)
theorem wpList_clear16 (hgd : o.guard = none) (x : Operand) (T : Array TypeId) (ho : o.op = .call { callee := .builtin .clear, args := #[x], argTypes := T }) {v r : Value} {w' : World} (hx : a.eval x = v)
    (hr : (Builtin.clear_ T o.type #[v]).run Tryd.prog w = .ok r w') (h : wpList Tryd.prog ops Q rest (a.put o.dst r) w') : wpList Tryd.prog ops Q (o :: rest) a w :=
  wpList_plain hgd fun _ hK => by
    unfold Oper.wp execOp
    simp only [ho, resolve, invoke, builtin, Sem.run_bind, Sem.run_pure, Result.andThen_ok, List.map_toArray, List.map_cons, List.map_nil, hx, hr]
    exact hK _ _ h
end
theorem flat16 {w : World} {q : Option Addr} {L : List Cl} (h : LsAt w q L) (h0 : 0 < L.length) : ∃ ad, q = some ad ∧ ∀ j u, (rowC encC L)[j]? = some u → w.cell? (ad.add j) = some u := by
  obtain ⟨g, o, e, _⟩ := h 0 L[0] (List.getElem?_eq_getElem h0)
  refine ⟨_, e, fun j u hu => ?_⟩
  have hj : j < L.length * 2 := by rw [← rowC_length encC_len]; exact (List.getElem?_eq_some_iff.1 hu).1
  have hk : L[j / 2]? = some (L[j / 2]'(by omega)) := List.getElem?_eq_getElem _
  obtain ⟨g', o', e', c0, c1⟩ := h (j / 2) _ hk
  rw [e] at e'
  injection e' with e'
  injection e' with e1 e2
  subst e1 e2
  rw [Addr.add_lit]
  rcases Nat.mod_two_eq_zero_or_one j with hm | hm
  · have hr := rowC_get encC_len hk 0 _ rfl
    rw [show j / 2 * 2 + 0 = j by omega] at hr
    rw [hr] at hu
    injection hu with hu
    rw [← hu, show o + j = o + j / 2 * 2 by omega]
    exact c0
  · have hr := rowC_get encC_len hk 1 _ rfl
    rw [show j / 2 * 2 + 1 = j by omega] at hr
    rw [hr] at hu
    injection hu with hu
    rw [← hu, show o + j = o + j / 2 * 2 + 1 by omega]
    exact c1
theorem own16 {W : World} {B t s k : Nat} {u : Value} {xs : List Value} (h : W.ownsRow B t s u k xs) : ∃ q c, u = .slice q k c := by
  rcases h.2 with ⟨hv, h0⟩ | ⟨g, cap, cur, hv, _⟩
  · exact ⟨none, 0, by rw [hv, h0]⟩
  · exact ⟨_, _, hv⟩
theorem cell_alloc16 {W : World} {p : Addr} {v : Value} {o : Obj} (h : W.cell? p = some v) : (W.alloc o).cell? p = some v :=
  ((below16 W o).cell (World.block_lt_of_cell? W _ h)).trans h
theorem grown_set {W W' : World} {g : Nat} {new : Array Value} (h : W.grownBy W' (some g)) : W.grownBy (W'.setRow g new) (some g) :=
  ⟨h.os, h.tape, h.output, by rw [show (W'.setRow g new).heap.size = W'.heap.size by simp [World.setRow]]; exact h.size, fun k hk hne => by
    rw [setRow_other _ _ _ _ (fun e => hne (by rw [e]))]; exact h.block k hk hne⟩
theorem grown_refl (W : World) (r : Option Nat) : W.grownBy W.drew r := ⟨rfl, rfl, rfl, Nat.le_refl _, fun _ _ _ => rfl⟩
set_option maxRecDepth 100000 in
set_option maxHeartbeats 4000000 in
/-- Clone: the calls in a row of the call's own. -/
theorem clone_l (q : Option Addr) (n c : Nat) (L : List Cl) (w : World) (hl : n = L.length) (hn : n ≤ 100000) (h : LsAt w q L) : Calls Tryd.prog 38 #[.slice q n c] w fun e w' => ∃ q' c', e = .returned (.slice q' n c') ∧ w'.ownsRow w.heap.size 82 2 (.slice q' n c') n (rowC encC L) ∧ Below w.heap.size w w' := by
  have q22 : ∀ (w : World) (a : Option Addr) (n c n' c' : Nat), (binOp .eql 25 (.slice a n c) (.slice none n' c')).run Tryd.prog w = .ok (.bool a.isNone) w := fun w a n c n' c' => Lib.run_eql_slice_nil w _ _ a n c n' c' Tryd.underlying25
  cases q with
  | none =>
    obtain rfl : L = [] := by
      cases L with
      | nil => rfl
      | cons x r => obtain ⟨g, o, e, _⟩ := h 0 x rfl; cases e
    obtain rfl : n = 0 := hl
    clear h hn
    go_enter Tryd.func38, Tryd.ntmps38
    go_wp2
    go_ret
    exact ⟨none, 0, rfl, World.ownsRow_nil _ _ _ _, Below.refl _ _⟩
  | some ad =>
    obtain ⟨i0, hi0, hz0, hz1, hz2⟩ := info_parts cl_info
    have HI := Lib.hid hi0
    have HZ0 := Lib.hid hz0
    have HZ1 := Lib.hid hz1
    have HZ2 := Lib.hid hz2
    have HN := Lib.hid (show ∀ j u, (rowC encC L)[j]? = some u → w.cell? (ad.add j) = some u from fun j u hu => by
      have h0 : 0 < L.length := by
        rcases Nat.eq_zero_or_pos L.length with e | e
        · rw [List.eq_nil_of_length_eq_zero e] at hu; simp [rowC] at hu
        · exact e
      obtain ⟨ad', e, hc⟩ := flat16 h h0
      injection e with e
      subst e
      exact hc j u hu)
    have HL := Lib.hid hl
    have HM := Lib.hid hn
    clear hi0 hz0 hz1 hz2 h hl hn
    go_enter Tryd.func38, Tryd.ntmps38
    go_wp2_with (at_builtin
                 go_loud (refine wpList_append_own _ rfl _ _ 25 rfl w.heap.size 82 i0 _ 2 24 Tryd.underlying25 HI.out HZ0.out HZ1.out HZ2.out rfl (by decide) _ _ _ rfl (World.ownsRow_made w #[] 0 (Nat.le_refl _) (Nat.zero_le _) rfl) ad n c (rowC encC L) rfl ?qc1 ?qc2 ?qc3 ?qc4 ?qc5 ?qc6 ?_))
    case qc1 => rw [rowC_length encC_len, HL.out]
    case qc2 => exact fun j u hu => cell_alloc16 (HN.out j u hu)
    case qc3 => exact rowC_oneCell encC_one _
    case qc4 => have := HM.out; unfold maxLen; omega
    case qc5 => have := HM.out; omega
    case qc6 => rw [World.size_alloc]; exact Nat.le_succ _
    intro v' w' h1 h2 h3
    obtain ⟨q', c', rfl⟩ := own16 h1
    go_wp2
    go_ret
    exact ⟨q', c', rfl, h1, (below16 w _).grown h2 (by rw [World.size_alloc]; exact Nat.le_succ _) (fun k e => Nat.le_of_eq (Option.some.inj e))⟩
end Go.Proofs.YtbjhleajhkofeaaDoor
namespace Go.Proofs.YtbjhleajhkofeaaDoor
open Go.RowKit
set_option linter.unusedVariables false
set_option linter.unusedSimpArgs false
attribute [local go_sem ↓] Go.wp_at_zero Go.wp_at_succ

end Go.Proofs.YtbjhleajhkofeaaDoor
