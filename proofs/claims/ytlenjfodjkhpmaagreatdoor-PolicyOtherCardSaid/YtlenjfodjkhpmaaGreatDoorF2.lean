/- The library's Clone, Delete, Insert at calls: what they return of a row of the caller's own; all else stays. Conditions: at most 100,000 calls. The library's Insert of one call into a row of the caller's own: the row with the call at its place; all else stays. Conditions: at most 100,000 calls. -/
import Derived.Test.YtlenjfodjkhpmaaGreatDoorF1
import Derived.Lib.Overlaps
import Derived.Lib.SliceRun
import Derived.Lib.AppendZerosOnto
import Derived.Deep.RegionLaw
import Derived.BigRegion
import Derived.Laws.Externs
import Derived.Maps.AppendAt
namespace Go.Proofs.YtlenjfodjkhpmaaGreatDoor
set_option maxRecDepth 100000
open Go.Lib (hid)
open Go.RowKit
set_option linter.unusedVariables false
set_option linter.unusedSimpArgs false
attribute [local go_sem ↓] Go.wp_at_zero Go.wp_at_succ

theorem run_copy_at (w : World) (dT sT ty elem : TypeId) (g off dLen dCap : Nat) (sp : Option Addr) (sLen sCap s : Nat) (cur : Array Value) (t : TypeId) (cs : List Value)
 (hu : Tryz.prog.underlying dT = some (.slice elem)) (hs : (Tryz.prog.info? elem).map (·.size) = some s)
 (hg : w.heap[g]? = some (.cells cur t (0, 0))) (hn : cs.length = Nat.min sLen dLen * s) (hfit : off + cs.length ≤ cur.size)
 (ad : Addr) (hsp : sp = some ad) (hsrc : ∀ j v, cs[j]? = some v → w.cell? (ad.add j) = some v) (h1 : ∀ v ∈ cs, v.oneCell' = true) :
 (Builtin.copy_ #[dT, sT] ty #[.slice (some ⟨g, off, none⟩) dLen dCap, .slice sp sLen sCap]).run Tryz.prog w = .ok (goInt (Nat.min sLen dLen)) (w.setRow g (cur.toList.take off ++ cs ++ cur.toList.drop (off + cs.length)).toArray) := by
 subst hsp
 have hst := run_storeCells_at Tryz.prog g off t cs 0 cur w hg (by omega) h1
 simp only [Nat.add_zero] at hst
 have hl := run_loadCells_list (P := Tryz.prog) w ad cs hsrc
 rw [hn] at hl
 cases hq : Tryz.prog.info? elem with
 | none => simp [hq] at hs
 | some i =>
  have hi : i.size = s := by simpa [hq] using hs
  simp [Builtin.copy_, run_underlying hu, Builtin.lenOf, Builtin.firstCells, sizeOf, typeInfo, hq, hi, hl, hst]
theorem run_clear_at (w : World) (t e ty : TypeId) (z : Value) (ht : Tryz.prog.underlying t = some (.slice e)) (hv : ∀ w, (zeroValue e).run Tryz.prog w = .ok z w) (g off n c : Nat) (hn : 0 < n) (cur : Array Value) (tc : TypeId) (hg : w.heap[g]? = some (.cells cur tc (0, 0)))
 (hfit : off + (Builtin.zeroCells z.cells n).toList.length ≤ cur.size) (h1 : ∀ v ∈ (Builtin.zeroCells z.cells n).toList, v.oneCell' = true) :
 (Builtin.clear_ #[t] ty #[.slice (some ⟨g, off, none⟩) n c]).run Tryz.prog w = .ok (.tuple #[]) (w.setRow g (cur.toList.take off ++ (Builtin.zeroCells z.cells n).toList ++ cur.toList.drop (off + (Builtin.zeroCells z.cells n).toList.length)).toArray) := by
 have hst := run_storeCells_at Tryz.prog g off tc (Builtin.zeroCells z.cells n).toList 0 cur w hg (by omega) h1
 simp only [Nat.add_zero] at hst
 obtain ⟨m, rfl⟩ : ∃ m, n = m + 1 := ⟨n - 1, by omega⟩
 simp [Builtin.clear_, run_underlying ht, hv, hst]
section
variable {w : World} {ops : Array Oper} {rest : List Oper} {o : Oper} {a : Act} {K : Act → World → Prop} {Q : Exit → Act → World → Prop} {E : Prop}
theorem wp_copy16 (x y : Operand) (T : Array TypeId) (ho : o.op = .call { callee := .builtin .copy, args := #[x, y], argTypes := T }) {v u r : Value} {w' : World} (hx : a.eval x = v) (hy : a.eval y = u)
 (hr : (Builtin.copy_ T o.type #[v, u]).run Tryz.prog w = .ok r w') (h : K (a.put o.dst r) w') : o.wp Tryz.prog a w K Q := by
 unfold Oper.wp execOp
 simp only [ho, resolve, invoke, builtin, Sem.run_bind, Sem.run_pure, Result.andThen_ok, List.map_toArray, List.map_cons, List.map_nil, hx, hy, hr]
 exact h
theorem wpList_copy16 (hgd : o.guard = none) (x y : Operand) (T : Array TypeId) (ho : o.op = .call { callee := .builtin .copy, args := #[x, y], argTypes := T }) {v u r : Value} {w' : World} (hx : a.eval x = v) (hy : a.eval y = u)
 (hr : (Builtin.copy_ T o.type #[v, u]).run Tryz.prog w = .ok r w') (h : wpList Tryz.prog ops Q rest (a.put o.dst r) w') : wpList Tryz.prog ops Q (o :: rest) a w :=
 wpList_plain hgd fun _ hK => wp_copy16 x y T ho hx hy hr (hK _ _ h)
theorem step_copy16 (hgd : o.guard = none) (x y : Operand) (T : Array TypeId) (ho : o.op = .call { callee := .builtin .copy, args := #[x, y], argTypes := T }) {v u r : Value} {w' : World} (hx : a.eval x = v) (hy : a.eval y = u)
 (hr : (Builtin.copy_ T o.type #[v, u]).run Tryz.prog w = .ok r w') (h : K (a.put o.dst r) w') : if Region.wanted o (yielded ops a.tmps) = true then Oper.wp Tryz.prog o a w K Q else E := by
 rw [if_pos (by unfold Region.wanted; rw [hgd])]
 exact wp_copy16 x y T ho hx hy hr h
theorem wp_appr16 (x y : Operand) (T : Array TypeId) (ho : o.op = .call { callee := .builtin .append, args := #[x, y], argTypes := T }) {v u r : Value} {w' : World} (hx : a.eval x = v) (hy : a.eval y = u)
 (hr : (Builtin.append_ T o.type #[v, u]).run Tryz.prog w = .ok r w') (h : K (a.put o.dst r) w') : o.wp Tryz.prog a w K Q := by
 unfold Oper.wp execOp
 simp only [ho, resolve, invoke, builtin, Sem.run_bind, Sem.run_pure, Result.andThen_ok, List.map_toArray, List.map_cons, List.map_nil, hx, hy, hr]
 exact h
theorem wpList_appr16 (hgd : o.guard = none) (x y : Operand) (T : Array TypeId) (ho : o.op = .call { callee := .builtin .append, args := #[x, y], argTypes := T }) {v u r : Value} {w' : World} (hx : a.eval x = v) (hy : a.eval y = u)
 (hr : (Builtin.append_ T o.type #[v, u]).run Tryz.prog w = .ok r w') (h : wpList Tryz.prog ops Q rest (a.put o.dst r) w') : wpList Tryz.prog ops Q (o :: rest) a w :=
 wpList_plain hgd fun _ hK => wp_appr16 x y T ho hx hy hr (hK _ _ h)
theorem step_appr16 (hgd : o.guard = none) (x y : Operand) (T : Array TypeId) (ho : o.op = .call { callee := .builtin .append, args := #[x, y], argTypes := T }) {v u r : Value} {w' : World} (hx : a.eval x = v) (hy : a.eval y = u)
 (hr : (Builtin.append_ T o.type #[v, u]).run Tryz.prog w = .ok r w') (h : K (a.put o.dst r) w') : if Region.wanted o (yielded ops a.tmps) = true then Oper.wp Tryz.prog o a w K Q else E := by
 rw [if_pos (by unfold Region.wanted; rw [hgd])]
 exact wp_appr16 x y T ho hx hy hr h
theorem wpList_clear16 (hgd : o.guard = none) (x : Operand) (T : Array TypeId) (ho : o.op = .call { callee := .builtin .clear, args := #[x], argTypes := T }) {v r : Value} {w' : World} (hx : a.eval x = v)
 (hr : (Builtin.clear_ T o.type #[v]).run Tryz.prog w = .ok r w') (h : wpList Tryz.prog ops Q rest (a.put o.dst r) w') : wpList Tryz.prog ops Q (o :: rest) a w :=
 wpList_plain hgd fun _ hK => by
  unfold Oper.wp execOp
  simp only [ho, resolve, invoke, builtin, Sem.run_bind, Sem.run_pure, Result.andThen_ok, List.map_toArray, List.map_cons, List.map_nil, hx, hr]
  exact hK _ _ h
end
theorem flat16 {w : World} {q : Option Addr} {L : List Cl} (h : LsAt w q L) (h0 : 0 < L.length) : ∃ ad, q = some ad ∧ ∀ j u, (rowC encC L)[j]? = some u → w.cell? (ad.add j) = some u := by
 obtain ⟨g, o, e, _⟩ := h 0 L[0] (List.getElem?_eq_getElem h0)
 refine ⟨_, e, fun j u hu => ?_⟩
 have hj : j < L.length * 2 := by rw [← rowC_length encC_len]; exact (List.getElem?_eq_some_iff.1 hu).1
 have hk : L[j / 2]? = some (L[j / 2]'(by omega)) := List.getElem?_eq_getElem _
 obtain ⟨g', o', e', c0, c1⟩ := h (j / 2) _ hk
 rw [e] at e'
 injection e' with e'
 injection e' with e1 e2
 subst e1 e2
 rw [Addr.add_lit]
 rcases Nat.mod_two_eq_zero_or_one j with hm | hm
 ·have hr := rowC_get encC_len hk 0 _ rfl
  rw [show j / 2 * 2 + 0 = j by omega] at hr
  rw [hr] at hu
  injection hu with hu
  rw [← hu, show o + j = o + j / 2 * 2 by omega]
  exact c0
 ·have hr := rowC_get encC_len hk 1 _ rfl
  rw [show j / 2 * 2 + 1 = j by omega] at hr
  rw [hr] at hu
  injection hu with hu
  rw [← hu, show o + j = o + j / 2 * 2 + 1 by omega]
  exact c1
theorem own16 {W : World} {B t s k : Nat} {u : Value} {xs : List Value} (h : W.ownsRow B t s u k xs) : ∃ q c, u = .slice q k c := by
 rcases h.2 with ⟨hv, h0⟩ | ⟨g, cap, cur, hv, _⟩
 ·exact ⟨none, 0, by rw [hv, h0]⟩
 ·exact ⟨_, _, hv⟩
theorem cell_alloc16 {W : World} {p : Addr} {v : Value} {o : Obj} (h : W.cell? p = some v) : (W.alloc o).cell? p = some v :=
 ((below16 W o).cell (World.block_lt_of_cell? W _ h)).trans h
theorem own_cur {W : World} {B g n c : Nat} {xs : List Value} (h : W.ownsRow B 67 2 (.slice (some ⟨g, 0, none⟩) n c) n xs) : ∃ cur, B ≤ g ∧ W.heap[g]? = some (.cells cur 67 (0, 0)) ∧ n ≤ c ∧ c ≤ maxLen ∧ cur.size = c * 2 ∧ cur.toList.take (n * 2) = xs := by
 rcases h.2 with ⟨h', _⟩ | ⟨g', cap', cur, h', hb, hg, h1, h2, h3, h4⟩
 ·cases h'
 ·injection h' with e1 e2 e3
  injection e1 with e1
  injection e1 with e1 _ _
  subst e1 e3
  exact ⟨cur, hb, hg, h1, h2, h3, h4⟩
theorem own_set {W : World} {B g m c : Nat} {cur new ys : List Value} (hg : W.heap[g]? = some (.cells cur.toArray 67 (0, 0))) (hb : B ≤ g) (hm : m ≤ c) (hc : c ≤ maxLen) (hs : new.length = c * 2) (ht : new.take (m * 2) = ys) :
 (W.setRow g new.toArray).ownsRow B 67 2 (.slice (some ⟨g, 0, none⟩) m c) m ys :=
 ⟨by rw [← ht, List.length_take, hs, Nat.min_eq_left (by omega)], .inr ⟨g, c, new.toArray, rfl, hb, setRow_heap W g _ _ _ _ hg, hm, hc, by simpa using hs, by simpa using ht⟩⟩
theorem grown_set {W W' : World} {g : Nat} {new : Array Value} (h : W.grownBy W' (some g)) : W.grownBy (W'.setRow g new) (some g) :=
 ⟨h.os, h.tape, h.output, by rw [show (W'.setRow g new).heap.size = W'.heap.size by simp [World.setRow]]; exact h.size, fun k hk hne => by
   rw [setRow_other _ _ _ _ (fun e => hne (by rw [e]))]; exact h.block k hk hne⟩
theorem grown_refl (W : World) (r : Option Nat) : W.grownBy W.drew r := ⟨rfl, rfl, rfl, Nat.le_refl _, fun _ _ _ => rfl⟩
theorem cells_at {W : World} {g : Nat} {cur : List Value} (hg : W.heap[g]? = some (.cells cur.toArray 67 (0, 0))) {k : Nat} {cs : List Value} (h : ∀ j u, cs[j]? = some u → cur[k + j]? = some u) : ∀ j u, cs[j]? = some u → W.cell? ((⟨g, k, none⟩ : Addr).add j) = some u := fun j u hu => by
 rw [Addr.add_lit, cell_of_row W g _ _ _ (0, 0) hg]
 simpa using h j u hu
theorem rowC_at {cur : List Value} {L : List Cl} {n : Nat} (h : cur.take (n * 2) = rowC encC L) (k : Nat) : ∀ j u, (rowC encC (L.drop k))[j]? = some u → cur[k * 2 + j]? = some u := fun j u hu => by
 rw [← rowC_drop, List.getElem?_drop, ← h, List.getElem?_take] at hu
 split at hu
 ·exact hu
 ·cases hu
theorem del_cells {cur : List Value} {L : List Cl} {n c i j : Nat} (hn : n = L.length) (hc : n ≤ c) (hs : cur.length = c * 2) (ht : cur.take (n * 2) = rowC encC L) (hij : i < j) (hj : j ≤ n) (Z : List Value) (hz : Z.length = (n - (i + (n - j))) * 2) :
 (cur.take (i * 2) ++ rowC encC (L.drop j) ++ cur.drop (i * 2 + (rowC encC (L.drop j)).length)).length = c * 2 ∧
 ((cur.take (i * 2) ++ rowC encC (L.drop j) ++ cur.drop (i * 2 + (rowC encC (L.drop j)).length)).take ((i + (n - j)) * 2) ++ Z ++ (cur.take (i * 2) ++ rowC encC (L.drop j) ++ cur.drop (i * 2 + (rowC encC (L.drop j)).length)).drop ((i + (n - j)) * 2 + Z.length)).length = c * 2 ∧
 ((cur.take (i * 2) ++ rowC encC (L.drop j) ++ cur.drop (i * 2 + (rowC encC (L.drop j)).length)).take ((i + (n - j)) * 2) ++ Z ++ (cur.take (i * 2) ++ rowC encC (L.drop j) ++ cur.drop (i * 2 + (rowC encC (L.drop j)).length)).drop ((i + (n - j)) * 2 + Z.length)).take ((i + (n - j)) * 2) = rowC encC (L.take i ++ L.drop j) := by
 have hr : (rowC encC (L.drop j)).length = (n - j) * 2 := by rw [rowC_length encC_len, List.length_drop, hn]
 have hi : cur.take (i * 2) = rowC encC (L.take i) := by
  rw [← rowC_take, ← ht, List.take_take, Nat.min_eq_left (by omega)]
 have hil : (cur.take (i * 2)).length = i * 2 := by rw [List.length_take, hs, Nat.min_eq_left (by omega)]
 have hA : (cur.take (i * 2) ++ rowC encC (L.drop j) ++ cur.drop (i * 2 + (rowC encC (L.drop j)).length)).length = c * 2 := by
  rw [List.length_append, List.length_append, hil, List.length_drop, hr, hs]; omega
 have hT : (cur.take (i * 2) ++ rowC encC (L.drop j) ++ cur.drop (i * 2 + (rowC encC (L.drop j)).length)).take ((i + (n - j)) * 2) = rowC encC (L.take i ++ L.drop j) := by
  rw [show (i + (n - j)) * 2 = (cur.take (i * 2) ++ rowC encC (L.drop j)).length by rw [List.length_append, hil, hr]; omega, List.take_left, hi, rowC_app]
 generalize cur.take (i * 2) ++ rowC encC (L.drop j) ++ cur.drop (i * 2 + (rowC encC (L.drop j)).length) = A at *
 have hAl : (A.take ((i + (n - j)) * 2)).length = (i + (n - j)) * 2 := by rw [List.length_take, hA, Nat.min_eq_left (by omega)]
 refine ⟨hA, ?_, ?_⟩
 ·rw [List.length_append, List.length_append, hAl, List.length_drop, hA, hz]; omega
 ·rw [List.append_assoc]
  exact (List.take_left' hAl).trans hT
theorem zero_len (n : Nat) : (Builtin.zeroCells (Value.agg #[.string ⟨#[]⟩, .int .u32 0]).cells n).toList.length = n * 2 := by
 rw [Array.length_toList, size_zeroCells]; rfl
theorem zero_one (n : Nat) : ∀ v ∈ (Builtin.zeroCells (Value.agg #[.string ⟨#[]⟩, .int .u32 0]).cells n).toList, v.oneCell' = true := fun v hv => by
 unfold Builtin.zeroCells at hv
 rw [Array.toList_map, List.mem_map] at hv
 obtain ⟨i, _, rfl⟩ := hv
 rcases Nat.mod_two_eq_zero_or_one i with e | e
 ·show ((#[.string ⟨#[]⟩, .int .u32 0] : Array Value)[i % 2]!).oneCell' = true
  rw [e]; rfl
 ·show ((#[.string ⟨#[]⟩, .int .u32 0] : Array Value)[i % 2]!).oneCell' = true
  rw [e]; rfl
theorem zero_call : ∀ w, (zeroValue 67).run Tryz.prog w = .ok (.agg #[.string ⟨#[]⟩, .int .u32 0]) w := fun w => by
 obtain ⟨i0, hi0, hz0, _, _⟩ := info_parts cl_info
 simp [zeroValue, typeInfo, hi0, hz0]
set_option maxHeartbeats 4000000 in
theorem clone_l (q : Option Addr) (n c : Nat) (L : List Cl) (w : World) (hl : n = L.length) (hn : n ≤ 100000) (h : LsAt w q L) : Calls Tryz.prog 126 #[.slice q n c] w fun e w' => ∃ q' c', e = .returned (.slice q' n c') ∧ w'.ownsRow w.heap.size 67 2 (.slice q' n c') n (rowC encC L) ∧ Below w.heap.size w w' := by
 have q22 : ∀ (w : World) (a : Option Addr) (n c n' c' : Nat), (binOp .eql 25 (.slice a n c) (.slice none n' c')).run Tryz.prog w = .ok (.bool a.isNone) w := fun w a n c n' c' => Lib.run_eql_slice_nil w _ _ a n c n' c' Tryz.underlying25
 cases q with
 | none =>
  obtain rfl : L = [] := by
   cases L with
   | nil => rfl
   | cons x r => obtain ⟨g, o, e, _⟩ := h 0 x rfl; cases e
  obtain rfl : n = 0 := hl
  clear h hn
  go_enter Tryz.func126, Tryz.ntmps126
  go_wp2
  go_ret
  exact ⟨none, 0, rfl, World.ownsRow_nil _ _ _ _, Below.refl _ _⟩
 | some ad =>
  obtain ⟨i0, hi0, hz0, hz1, hz2⟩ := info_parts cl_info
  have HI := hid hi0
  have HZ0 := hid hz0
  have HZ1 := hid hz1
  have HZ2 := hid hz2
  have HN := hid (show ∀ j u, (rowC encC L)[j]? = some u → w.cell? (ad.add j) = some u from fun j u hu => by
   have h0 : 0 < L.length := by
    rcases Nat.eq_zero_or_pos L.length with e | e
    ·rw [List.eq_nil_of_length_eq_zero e] at hu; simp [rowC] at hu
    ·exact e
   obtain ⟨ad', e, hc⟩ := flat16 h h0
   injection e with e
   subst e
   exact hc j u hu)
  have HL := hid hl
  have HM := hid hn
  clear hi0 hz0 hz1 hz2 h hl hn
  go_enter Tryz.func126, Tryz.ntmps126
  go_wp2_with (at_builtin
               go_loud (refine wpList_append_own _ rfl _ _ 25 rfl w.heap.size 67 i0 _ 2 24 Tryz.underlying25 HI.out HZ0.out HZ1.out HZ2.out rfl (by decide) _ _ _ rfl (World.ownsRow_made w #[] 0 (Nat.le_refl _) (Nat.zero_le _) rfl) ad n c (rowC encC L) rfl ?qc1 ?qc2 ?qc3 ?qc4 ?qc5 ?qc6 ?_))
  case qc1 => rw [rowC_length encC_len, HL.out]
  case qc2 => exact fun j u hu => cell_alloc16 (HN.out j u hu)
  case qc3 => exact rowC_oneCell encC_one _
  case qc4 => have := HM.out; unfold maxLen; omega
  case qc5 => have := HM.out; omega
  case qc6 => rw [World.size_alloc]; exact Nat.le_succ _
  intro v' w' h1 h2 h3
  obtain ⟨q', c', rfl⟩ := own16 h1
  go_wp2
  go_ret
  exact ⟨q', c', rfl, h1, (below16 w _).grown h2 (by rw [World.size_alloc]; exact Nat.le_succ _) (fun k e => Nat.le_of_eq (Option.some.inj e))⟩
set_option maxHeartbeats 4000000 in
theorem delete_l (W : World) (B g n c i j : Nat) (L : List Cl) (hO : W.ownsRow B 67 2 (.slice (some ⟨g, 0, none⟩) n c) n (rowC encC L)) (hn : n = L.length) (hij : i < j) (hj : j ≤ n) (hb : n ≤ 100000) :
 Calls Tryz.prog 230 #[.slice (some ⟨g, 0, none⟩) n c, .int .i64 i, .int .i64 j] W fun e w' => e = .returned (.slice (some ⟨g, 0, none⟩) (i + (n - j)) c) ∧ w'.ownsRow B 67 2 (.slice (some ⟨g, 0, none⟩) (i + (n - j)) c) (i + (n - j)) (rowC encC (L.take i ++ L.drop j)) ∧ W.grownBy w' (some g) := by
 obtain ⟨cura, hB, hg, hnc, hcm, hcs, htk⟩ := own_cur hO
 obtain ⟨cur, rfl⟩ : ∃ l : List Value, cura = l.toArray := ⟨cura.toList, by simp⟩
 have hcs : cur.length = c * 2 := by simpa using hcs
 have htk : cur.take (n * 2) = rowC encC L := by simpa using htk
 obtain ⟨i0, hi0, hz0, hz1, hz2⟩ := info_parts cl_info
 have hdl : (rowC encC (L.drop j)).length = (n - j) * 2 := by rw [rowC_length encC_len, List.length_drop, hn]
 obtain ⟨k1, k2, k3⟩ := del_cells hn hnc hcs htk hij hj _ (zero_len (n - (i + (n - j))))
 obtain ⟨A, hA⟩ : ∃ A, A = cur.take (i * 2) ++ rowC encC (L.drop j) ++ cur.drop (i * 2 + (rowC encC (L.drop j)).length) := ⟨_, rfl⟩
 rw [← hA] at k1 k2 k3
 obtain ⟨D, hD⟩ : ∃ D, D = A.take ((i + (n - j)) * 2) ++ (Builtin.zeroCells (Value.agg #[.string ⟨#[]⟩, .int .u32 0]).cells (n - (i + (n - j)))).toList ++ A.drop ((i + (n - j)) * 2 + (Builtin.zeroCells (Value.agg #[.string ⟨#[]⟩, .int .u32 0]).cells (n - (i + (n - j)))).toList.length) := ⟨_, rfl⟩
 rw [← hD] at k2 k3
 obtain ⟨ad, had, hsrc⟩ : ∃ ad : Addr, (if c = j then some (⟨g, 0, none⟩ : Addr) else some ⟨g, j * 2, none⟩) = some ad ∧ (∀ t u, (rowC encC (L.drop j))[t]? = some u → W.drew.cell? (ad.add t) = some u) := by
  by_cases h : c = j
  ·refine ⟨⟨g, 0, none⟩, by simp [h], fun t u hu => ?_⟩
   have h0 : (rowC encC (L.drop j)).length = 0 := by rw [hdl]; omega
   rw [List.length_eq_zero_iff.1 h0] at hu
   simp at hu
  ·exact ⟨⟨g, j * 2, none⟩, by simp [h], cells_at (W := W.drew) hg (rowC_at htk j)⟩
 obtain ⟨W1, hW1⟩ : ∃ W1, W1 = W.drew.setRow g A.toArray := ⟨_, rfl⟩
 have hg1 : W1.heap[g]? = some (.cells A.toArray 67 (0, 0)) := by rw [hW1]; exact setRow_heap W.drew g _ _ _ _ hg
 have gr1 : W.grownBy W1 (some g) := by rw [hW1]; exact grown_set (grown_refl W _)
 have HAP := hid (show ∀ ty, (Builtin.append_ #[25, 25] ty #[.slice (some ⟨g, 0, none⟩) i c, .slice (some ad) (n - j) (c - j)]).run Tryz.prog W.drew = .ok (.slice (some ⟨g, 0, none⟩) (i + (n - j)) c) W1 from fun ty => by
  have := run_append_room (P := Tryz.prog) W.drew 25 ty 67 i0 Tryz.underlying25 hi0 g i c cur.toArray hg ad (n - j) (c - j) (rowC encC (L.drop j)) (by rw [hz1]; exact hdl) hsrc (rowC_oneCell encC_one _) (by omega) (by rw [hz1, hdl]; simp; omega)
  rw [hz1] at this
  rw [this, hW1, hA])
 have HCL := hid (show ∀ ty, (Builtin.clear_ #[25] ty #[.slice (some ⟨g, (i + (n - j)) * 2, none⟩) (n - (i + (n - j))) (c - (i + (n - j)))]).run Tryz.prog W1 = .ok (.tuple #[]) (W1.setRow g D.toArray) from fun ty => by
  have := run_clear_at W1 25 67 ty _ Tryz.underlying25 zero_call g ((i + (n - j)) * 2) (n - (i + (n - j))) (c - (i + (n - j))) (by omega) A.toArray _ hg1 (by rw [zero_len]; simp [k1]; omega) (zero_one _)
  rw [this, hD])
 have HO := hid (own_set hg1 hB (show i + (n - j) ≤ c by omega) hcm k2 k3)
 have HG := hid (grown_set (new := D.toArray) gr1)
 have e1 : i ≤ c := by omega
 have e2 : j ≤ c := by omega
 have e3 : i ≤ j := by omega
 have e4 : (i : Int) ≤ j := by omega
 have e5 : (j : Int) ≤ n := by omega
 have e6 : ¬ (i : Int) = j := by omega
 have e7 : i + (n - j) ≤ n := by omega
 have e8 : ¬ c = i + (n - j) := by omega
 have e9 : n ≤ c := hnc
 obtain ⟨m, hm⟩ : ∃ m, m = i + (n - j) := ⟨_, rfl⟩
 clear hO hn hij hb hg hcm hcs htk hi0 hz0 hz1 hz2 hdl k1 k2 k3 hA hD hsrc hW1 hg1 gr1 hnc hB hm
 go_enter Tryz.func230, Tryz.ntmps230
 go_wp2_with fail
 go_region_law (refine step_appr16 rfl (.tmp 22) (.tmp 25) #[25, 25] (by rfl) (by simp [Act.eval, Act.put]) (by simp [Act.eval, Act.put]) (HAP.out _) ?_)
 go_wp2_with ((with_reducible show wpList _ _ _ (⟨none, .call _, _, _, _, _⟩ :: _) _ _)
              go_loud (refine wpList_clear16 rfl (.tmp 31) #[25] rfl rfl (HCL.out _) ?_))
 go_ret
 exact ⟨rfl, HO.out, HG.out⟩
set_option maxRecDepth 100000
open Go.Lib (hid)
open Go.RowKit
set_option linter.unusedVariables false
set_option linter.unusedSimpArgs false
attribute [local go_sem ↓] Go.wp_at_zero Go.wp_at_succ

theorem ins_shift {cur X : List Value} {L : List Cl} {n c i : Nat} {x : Cl} (hX : X = encC x) (hn : n = L.length) (hc : n + 1 ≤ c) (hs : cur.length = c * 2) (ht : cur.take (n * 2) = rowC encC L) (hi : i ≤ n) {E F : List Value}
 (hE : E = cur.take ((i + 1) * 2) ++ rowC encC (L.drop i) ++ cur.drop ((i + 1) * 2 + (rowC encC (L.drop i)).length)) (hF : F = E.take (i * 2) ++ X ++ E.drop (i * 2 + X.length)) :
 E.length = c * 2 ∧ F.length = c * 2 ∧ F.take ((n + 1) * 2) = rowC encC (L.take i ++ x :: L.drop i) := by
 have hr : (rowC encC (L.drop i)).length = (n - i) * 2 := by rw [rowC_length encC_len, List.length_drop, hn]
 have hx : X.length = 2 := by rw [hX]; rfl
 have hil : (cur.take ((i + 1) * 2)).length = (i + 1) * 2 := by rw [List.length_take, hs, Nat.min_eq_left (by omega)]
 have hEl : E.length = c * 2 := by rw [hE, List.length_append, List.length_append, hil, List.length_drop, hr, hs]; omega
 have hEt : E.take (i * 2) = rowC encC (L.take i) := by
  rw [hE, List.append_assoc, List.take_append_of_le_length (by rw [hil]; omega), List.take_take, Nat.min_eq_left (by omega), ← rowC_take, ← ht, List.take_take, Nat.min_eq_left (by omega)]
 have hEd : E.drop (i * 2 + X.length) = rowC encC (L.drop i) ++ cur.drop ((i + 1) * 2 + (rowC encC (L.drop i)).length) := by
  rw [hE, List.append_assoc, hx, show i * 2 + 2 = (i + 1) * 2 by omega]
  exact List.drop_left' hil
 have hEtl : (E.take (i * 2)).length = i * 2 := by rw [List.length_take, hEl, Nat.min_eq_left (by omega)]
 refine ⟨hEl, ?_, ?_⟩
 ·rw [hF, List.length_append, List.length_append, hEtl, List.length_drop, hEl, hx]; omega
 ·rw [hF, hEd, hEt, hX, show rowC encC (L.take i) ++ encC x ++ (rowC encC (L.drop i) ++ cur.drop ((i + 1) * 2 + (rowC encC (L.drop i)).length)) = (rowC encC (L.take i) ++ (encC x ++ rowC encC (L.drop i))) ++ cur.drop ((i + 1) * 2 + (rowC encC (L.drop i)).length) by simp only [List.append_assoc],
   show rowC encC (L.take i) ++ (encC x ++ rowC encC (L.drop i)) = rowC encC (L.take i ++ x :: L.drop i) by rw [rowC_app]; rfl]
  exact List.take_left' (by rw [rowC_length encC_len, List.length_append, List.length_cons, List.length_take, List.length_drop, ← hn, Nat.min_eq_left hi]; omega)
theorem ins_grow {cur X : List Value} {L : List Cl} {n c i : Nat} {x : Cl} (hX : X = encC x) (hn : n = L.length) (hc : n + 1 ≤ c) (hs : cur.length = c * 2) (ht : cur.take (i * 2) = rowC encC (L.take i)) (hi : i ≤ n) {E F : List Value}
 (hE : E = cur.take (i * 2) ++ X ++ cur.drop (i * 2 + X.length)) (hF : F = E.take ((i + 1) * 2) ++ rowC encC (L.drop i) ++ E.drop ((i + 1) * 2 + (rowC encC (L.drop i)).length)) :
 E.length = c * 2 ∧ F.length = c * 2 ∧ F.take ((n + 1) * 2) = rowC encC (L.take i ++ x :: L.drop i) := by
 have hr : (rowC encC (L.drop i)).length = (n - i) * 2 := by rw [rowC_length encC_len, List.length_drop, hn]
 have hx : X.length = 2 := by rw [hX]; rfl
 have hil : (cur.take (i * 2)).length = i * 2 := by rw [List.length_take, hs, Nat.min_eq_left (by omega)]
 have hEl : E.length = c * 2 := by rw [hE, List.length_append, List.length_append, hil, List.length_drop, hx, hs]; omega
 have hEt : E.take ((i + 1) * 2) = rowC encC (L.take i) ++ encC x := by
  rw [hE, ht, hX]
  exact List.take_left' (by rw [List.length_append, ← ht, hil]; show i * 2 + 2 = _; omega)
 have hEtl : (E.take ((i + 1) * 2)).length = (i + 1) * 2 := by rw [List.length_take, hEl, Nat.min_eq_left (by omega)]
 refine ⟨hEl, ?_, ?_⟩
 ·rw [hF, List.length_append, List.length_append, hEtl, List.length_drop, hEl, hr]; omega
 ·rw [hF, hEt, show rowC encC (L.take i) ++ encC x ++ rowC encC (L.drop i) = rowC encC (L.take i ++ x :: L.drop i) by rw [rowC_app, List.append_assoc]; rfl]
  exact List.take_left' (by rw [rowC_length encC_len, List.length_append, List.length_cons, List.length_take, List.length_drop, ← hn, Nat.min_eq_left hi]; omega)
theorem lies16 {v v' : Value} {W : World} (h : v'.ownBlock = v.ownBlock ∨ v'.ownBlock = some W.heap.size) : ∀ k, v'.ownBlock = some k → v.ownBlock = some k ∨ W.heap.size ≤ k := fun k e => by
 rcases h with h | h
 ·exact Or.inl (by rw [← h]; exact e)
 ·rw [h] at e; exact Or.inr (Nat.le_of_eq (Option.some.inj e))
theorem arr16 (l : List Value) (A B : Array Value) : l.toArray ++ A ++ B = (l ++ A.toList ++ B.toList).toArray := by
 apply Array.ext'
 simp
theorem grown_new {W W' : World} {r : Option Nat} {g : Nat} {new : Array Value} (h : W.grownBy W' r) (hg : W.heap.size ≤ g) : W.grownBy (W'.setRow g new) r :=
 ⟨h.os, h.tape, h.output, by rw [show (W'.setRow g new).heap.size = W'.heap.size by simp [World.setRow]]; exact h.size, fun k hk hne => by
   rw [setRow_other _ _ _ _ (show k ≠ g by omega)]; exact h.block k hk hne⟩
theorem cells_of_row16 {W : World} {V : Nat} {cs : List Value} (hV : W.heap[V]? = some (.cells cs.toArray 67 (0, 0))) : ∀ j u, cs[j]? = some u → W.cell? ((⟨V, 0, none⟩ : Addr).add j) = some u := cells_at hV fun j u hu => by rw [Nat.zero_add]; exact hu
set_option maxHeartbeats 4000000 in
theorem ins_end (W : World) (B : Nat) (v : Value) (n V : Nat) (L : List Cl) (s : ByteArray) (a : Nat) (hO : W.ownsRow B 67 2 v n (rowC encC L)) (hn : n = L.length) (hb : n ≤ 100000) (hBW : B ≤ W.heap.size) (hV : W.heap[V]? = some (.cells (encC (s, a)).toArray 67 (0, 0))) :
 Calls Tryz.prog 229 #[v, .int .i64 n, .slice (some ⟨V, 0, none⟩) 1 1] W fun e w' => ∃ v', e = .returned v' ∧ w'.ownsRow B 67 2 v' (n + 1) (rowC encC (L ++ [(s, a)])) ∧ W.grownBy w' (Value.ownBlock v) ∧ ∀ k, v'.ownBlock = some k → (Value.ownBlock v) = some k ∨ W.heap.size ≤ k := by
 obtain ⟨q, c, rfl⟩ := own16 hO
 obtain ⟨i0, hi0, hz0, hz1, hz2⟩ := info_parts cl_info
 have HI := hid hi0
 have HZ0 := hid hz0
 have HZ1 := hid hz1
 have HZ2 := hid hz2
 have HO := hid hO
 have HVN := hid (cells_of_row16 hV)
 have HB := hid hb
 have HBW := hid hBW
 have HL := hid hn
 have hnc : n ≤ c := by
  rcases hO.2 with ⟨h, h0⟩ | ⟨g, c', cur, h, _, _, h1, _⟩
  ·injection h with _ _ h; omega
  ·injection h with _ _ h; omega
 have hq : q = none → c = 0 := fun e => by
  rcases hO.2 with ⟨h, h0⟩ | ⟨g, c', cur, h, _, _, h1, _⟩
  ·injection h with _ _ h
  ·rw [e] at h; injection h with h _ _; cases h
 have hq2 : ∀ x, q = some x → ∃ g, x = ⟨g, 0, none⟩ := fun x e => by
  rcases hO.2 with ⟨h, h0⟩ | ⟨g, c', cur, h, _, _, h1, _⟩
  ·rw [e] at h; injection h with h _ _; cases h
  ·rw [e] at h; injection h with h _ _; injection h with h; exact ⟨g, h⟩
 have t1 : ¬ (1 : Int) = 0 := by decide
 have t2 : (n : Int) ≤ c := by omega
 have t3 : (0 : Int) ≤ n := by omega
 clear hi0 hz0 hz1 hz2 hO hn hb hBW hV
 cases q with
 | none =>
  obtain rfl : c = 0 := hq rfl
  obtain rfl : n = 0 := by omega
  clear hq hq2 t2 t3 hnc
  go_enter Tryz.func229, Tryz.ntmps229
  go_wp2_with (at_builtin
               refine wpList_append_own_at _ rfl _ _ 25 rfl B 67 i0 _ 2 24 Tryz.underlying25 HI.out HZ0.out HZ1.out HZ2.out rfl (by decide) _ _ _ rfl HO.out ⟨V, 0, none⟩ 1 1 (encC (s, a)) rfl rfl HVN.out (encC_one _) (by unfold maxLen; omega) (by omega) HBW.out ?_
               intro v' w' h1 h2 h3 h4)
  go_ret
  exact ⟨v', rfl, by rw [rowC_app, rowC_one1]; exact h1, h2, lies16 h4⟩
 | some x =>
  obtain ⟨g, rfl⟩ := hq2 x rfl
  clear hq hq2
  by_cases hcn : c = n
  ·subst hcn
   go_enter Tryz.func229, Tryz.ntmps229
   go_wp2_with (at_builtin
                refine wpList_append_own_at _ rfl _ _ 25 rfl B 67 i0 _ 2 24 Tryz.underlying25 HI.out HZ0.out HZ1.out HZ2.out rfl (by decide) _ _ _ rfl HO.out ⟨V, 0, none⟩ 1 1 (encC (s, a)) rfl rfl HVN.out (encC_one _) (by have := HB.out; unfold maxLen; omega) (by have := HB.out; omega) HBW.out ?_
                intro v' w' h1 h2 h3 h4)
   go_ret
   exact ⟨v', rfl, by rw [rowC_app, rowC_one1]; exact h1, h2, lies16 h4⟩
  ·go_enter Tryz.func229, Tryz.ntmps229
   go_wp2_with (at_builtin
                refine wpList_append_own_at _ rfl _ _ 25 rfl B 67 i0 _ 2 24 Tryz.underlying25 HI.out HZ0.out HZ1.out HZ2.out rfl (by decide) _ _ _ rfl HO.out ⟨V, 0, none⟩ 1 1 (encC (s, a)) rfl rfl HVN.out (encC_one _) (by have := HB.out; unfold maxLen; omega) (by have := HB.out; omega) HBW.out ?_
                intro v' w' h1 h2 h3 h4)
   go_ret
   exact ⟨v', rfl, by rw [rowC_app, rowC_one1]; exact h1, h2, lies16 h4⟩
set_option maxHeartbeats 4000000 in
theorem ins_room (W : World) (B g n c V i : Nat) (L : List Cl) (s : ByteArray) (a : Nat) (hO : W.ownsRow B 67 2 (.slice (some ⟨g, 0, none⟩) n c) n (rowC encC L)) (hn : n = L.length) (hi : i < n) (hroom : n + 1 ≤ c) (hb : n ≤ 100000) (hV : W.heap[V]? = some (.cells (encC (s, a)).toArray 67 (0, 0))) (hne : V ≠ g) :
 Calls Tryz.prog 229 #[(.slice (some ⟨g, 0, none⟩) n c), .int .i64 i, .slice (some ⟨V, 0, none⟩) 1 1] W fun e w' => ∃ v', e = .returned v' ∧ w'.ownsRow B 67 2 v' (n + 1) (rowC encC (L.take i ++ (s, a) :: L.drop i)) ∧ W.grownBy w' (some g) ∧ ∀ k, v'.ownBlock = some k → (some g) = some k ∨ W.heap.size ≤ k := by
 obtain ⟨cura, hB, hg, hnc, hcm, hcs, htk⟩ := own_cur hO
 obtain ⟨cur, rfl⟩ : ∃ l : List Value, cura = l.toArray := ⟨cura.toList, by simp⟩
 have hcs : cur.length = c * 2 := by simpa using hcs
 have htk : cur.take (n * 2) = rowC encC L := by simpa using htk
 have hinf : (Tryz.prog.info? 67).map (·.size) = some 2 := by kernel_rfl
 have hszC : ∀ w, (Go.sizeOf 67).run Tryz.prog w = .ok 2 w := fun w => by
  obtain ⟨i0, hi0, hz0, hz1, hz2⟩ := info_parts cl_info
  simp [sizeOf, typeInfo, hi0, hz1]
 have hdl : (rowC encC (L.drop i)).length = (n - i) * 2 := by rw [rowC_length encC_len, List.length_drop, hn]
 obtain ⟨E, hE⟩ : ∃ E, E = cur.take ((i + 1) * 2) ++ rowC encC (L.drop i) ++ cur.drop ((i + 1) * 2 + (rowC encC (L.drop i)).length) := ⟨_, rfl⟩
 obtain ⟨F, hF⟩ : ∃ F, F = E.take (i * 2) ++ encC (s, a) ++ E.drop (i * 2 + (encC (s, a)).length) := ⟨_, rfl⟩
 obtain ⟨k1, k2, k3⟩ := ins_shift (x := (s, a)) rfl hn hroom hcs htk (by omega) hE hF
 obtain ⟨W1, hW1⟩ : ∃ W1, W1 = W.drew.setRow g E.toArray := ⟨_, rfl⟩
 have hg1 : W1.heap[g]? = some (.cells E.toArray 67 (0, 0)) := by rw [hW1]; exact setRow_heap W.drew g _ _ _ _ hg
 have hV1 : W1.heap[V]? = some (.cells (encC (s, a)).toArray 67 (0, 0)) := by rw [hW1, setRow_other _ _ _ _ hne]; exact hV
 have gr1 : W.grownBy W1 (some g) := by rw [hW1]; exact grown_set (grown_refl W _)
 have hov : ∀ lb cb, (callFunc 249 #[.slice (some ⟨V, 0, none⟩) 1 1, .slice (some ⟨g, (i + 1) * 2, none⟩) lb cb]).run Tryz.prog W = .ok (.value (.bool false)) W := fun lb cb => by
  rw [run_callFunc_extern Tryz.func249 (by kernel_rfl) (by kernel_rfl) (by kernel_rfl) (e := Extern.SlicesOverlaps.overlaps #[25, 25] #[4]) (by kernel_rfl),
   Lib.run_overlaps_apart W 25 4 67 Tryz.underlying25 2 hszC ⟨V, 0, none⟩ ⟨g, (i + 1) * 2, none⟩ 1 1 lb cb hne 67 67 2 (c * 2) (by simp [World.shape?, hV]; rfl) (by simp [World.shape?, hg, hcs]) (by omega) (frozen_of_row _ _ _ _ _ hV) (frozen_of_row _ _ _ _ _ hV)]
  rfl
 have HC1 := hid (show ∀ ty dc sc, (Builtin.copy_ #[25, 25] ty #[.slice (some ⟨g, (i + 1) * 2, none⟩) (n - i) dc, .slice (some ⟨g, i * 2, none⟩) (n + 1 - i) sc]).run Tryz.prog W.drew = .ok (goInt (Nat.min (n + 1 - i) (n - i))) W1 from fun ty dc sc => by
  rw [hW1, hE]
  exact run_copy_at W.drew _ _ ty 67 g ((i + 1) * 2) _ dc _ _ sc 2 _ 67 (rowC encC (L.drop i)) Tryz.underlying25 hinf hg (by rw [hdl]; congr 1; exact (Nat.min_eq_right (show n - i ≤ n + 1 - i by omega)).symm) (by rw [hdl]; simp; omega) ⟨g, i * 2, none⟩ rfl (cells_at (W := W.drew) hg (rowC_at htk i)) (rowC_oneCell encC_one _))
 have HC2 := hid (show ∀ ty dc, (Builtin.copy_ #[25, 25] ty #[.slice (some ⟨g, i * 2, none⟩) (n + 1 - i) dc, .slice (some ⟨V, 0, none⟩) 1 1]).run Tryz.prog W1 = .ok (goInt (Nat.min 1 (n + 1 - i))) (W1.setRow g F.toArray) from fun ty dc => by
  rw [hF]
  exact run_copy_at W1 _ _ ty 67 g (i * 2) _ dc _ _ 1 2 _ 67 (encC (s, a)) Tryz.underlying25 hinf hg1 (by rw [show Nat.min 1 (n + 1 - i) = 1 from Nat.min_eq_left (by omega)]; rfl) (by simp [k1, encC]; omega) ⟨V, 0, none⟩ rfl (cells_of_row16 hV1) (encC_one _))
 have HO := hid (own_set hg1 hB hroom hcm k2 k3)
 have HG := hid (grown_set (new := F.toArray) gr1)
 have e1 : i ≤ c := by omega
 have e2 : ¬ c = i := by omega
 have e3 : ¬ c = i + 1 := by omega
 have e4 : (i : Int) ≤ n := by omega
 have e5 : ¬ (i : Int) = n := by omega
 have e6 : IntKind.i64.wrap ((n : Int) + 1) = (n : Int) + 1 := by rw [IntKind.wrap_i64]; omega
 have e7 : IntKind.i64.wrap ((i : Int) + 1) = (i : Int) + 1 := by rw [IntKind.wrap_i64]; omega
 have e8 : ¬ (c : Int) < (n : Int) + 1 := by omega
 have e9 : n + 1 ≤ c := hroom
 have e10 : (0 : Int) ≤ (n : Int) + 1 := by omega
 have e11 : (0 : Int) ≤ (i : Int) + 1 := by omega
 have e12 : ((n : Int) + 1).toNat = n + 1 := by omega
 have e13 : ((i : Int) + 1).toNat = i + 1 := by omega
 have e14 : (n : Int) + 1 ≤ c := by omega
 have e15 : (i : Int) + 1 ≤ (n : Int) + 1 := by omega
 have e16 : (i : Int) ≤ (n : Int) + 1 := by omega
 have e17 : i ≤ n + 1 := by omega
 have e18 : i ≤ n := by omega
 have t1 : ¬ (1 : Int) = 0 := by decide
 clear hO hn hb hB hg hcm hcs htk hinf hszC hdl hE hF k1 k2 k3 hW1 hg1 hV1 gr1 hV hne hi
 go_enter Tryz.func229, Tryz.ntmps229
 go_wp2_with (simp only [hov])
 go_region_law (refine step_copy16 rfl (.tmp 73) (.tmp 76) #[25, 25] (by rfl) (by simp [Act.eval, Act.put]) (by simp [Act.eval, Act.put]) (HC1.out _ (c - (i + 1)) (c - i)) ?_)
 go_wp2_with ((with_reducible show wpList _ _ _ (⟨some 82, .call _, _, _, _, _⟩ :: _) _ _)
              go_loud (refine wpList_copy16 rfl (.tmp 80) (.tmp 81) #[25, 25] rfl rfl rfl (HC2.out _ _) ?_))
 go_ret
 exact ⟨_, rfl, HO.out, HG.out, fun k e => Or.inl e⟩
set_option maxHeartbeats 4000000 in
theorem ins_more (W : World) (B g n V i : Nat) (L : List Cl) (s : ByteArray) (a : Nat) (hO : W.ownsRow B 67 2 (.slice (some ⟨g, 0, none⟩) n n) n (rowC encC L)) (hn : n = L.length) (hi : i < n) (hb : n ≤ 100000) (hBW : B ≤ W.heap.size) (hV : W.heap[V]? = some (.cells (encC (s, a)).toArray 67 (0, 0))) :
 Calls Tryz.prog 229 #[(.slice (some ⟨g, 0, none⟩) n n), .int .i64 i, .slice (some ⟨V, 0, none⟩) 1 1] W fun e w' => ∃ v', e = .returned v' ∧ w'.ownsRow B 67 2 v' (n + 1) (rowC encC (L.take i ++ (s, a) :: L.drop i)) ∧ W.grownBy w' (some g) ∧ ∀ k, v'.ownBlock = some k → (some g) = some k ∨ W.heap.size ≤ k := by
 obtain ⟨cura, hB, hg, hnc, hcm, hcs, htk⟩ := own_cur hO
 obtain ⟨cur, rfl⟩ : ∃ l : List Value, cura = l.toArray := ⟨cura.toList, by simp⟩
 have hcs : cur.length = n * 2 := by simpa using hcs
 have htk : cur.take (n * 2) = rowC encC L := by simpa using htk
 have hinf : (Tryz.prog.info? 67).map (·.size) = some 2 := by kernel_rfl
 have htn : Tryz.prog.underlying 3 = some (.int .i64) := Tryz.underlying3
 obtain ⟨i0, hi0, hz0, hz1, hz2⟩ := info_parts cl_info
 have hdl : (rowC encC (L.drop i)).length = (n - i) * 2 := by rw [rowC_length encC_len, List.length_drop, hn]
 obtain ⟨k, hk⟩ : ∃ k, k = n + 1 - i := ⟨_, rfl⟩
 have hold : (Builtin.firstCells i0.size i (.slice (some ⟨g, 0, none⟩) i n)).run Tryz.prog W.drew = .ok (rowC encC (L.take i)).toArray W.drew := run_firstCells_some (P := Tryz.prog) W.drew i0.size i ⟨g, 0, none⟩ i n (rowC encC (L.take i)) (by rw [hz1, rowC_length encC_len, List.length_take, ← hn, Nat.min_eq_left (by omega)]) (cells_at (W := W.drew) hg fun j u hu => by
  rw [Nat.zero_add]
  rw [← rowC_take, ← htk, List.take_take, List.getElem?_take] at hu
  split at hu
  ·exact hu
  ·cases hu)
 obtain ⟨cp, hcp⟩ : ∃ x, x = grownCap W (i + k) n 67 := ⟨_, rfl⟩
 have hge : n + 1 ≤ cp := by rw [hcp]; have := grownCap_ge W (i + k) n 67; omega
 have hmx : cp ≤ maxLen := by rw [hcp]; exact grownCap_le_maxLen W (i + k) n 67 (by unfold maxLen; omega)
 obtain ⟨cu2, hcu2⟩ : ∃ l : List Value, l = rowC encC (L.take i) ++ (Builtin.zeroCells (Value.agg #[.string ⟨#[]⟩, .int .u32 0]).cells k).toList ++ (Builtin.zeroCells (Value.agg #[.string ⟨#[]⟩, .int .u32 0]).cells (cp - (i + k))).toList := ⟨_, rfl⟩
 have hil : (rowC encC (L.take i)).length = i * 2 := by rw [rowC_length encC_len, List.length_take, ← hn, Nat.min_eq_left (by omega)]
 have hcs2 : cu2.length = cp * 2 := by rw [hcu2, List.length_append, List.length_append, zero_len, zero_len, hil]; omega
 have htk2 : cu2.take (i * 2) = rowC encC (L.take i) := by rw [hcu2, List.append_assoc]; exact List.take_left' hil
 obtain ⟨H, hH⟩ : ∃ H, H = W.heap.size := ⟨_, rfl⟩
 obtain ⟨W1, hW1⟩ : ∃ W1, W1 = W.drew.alloc (.cells cu2.toArray 67) := ⟨_, rfl⟩
 have hg1 : W1.heap[H]? = some (.cells cu2.toArray 67 (0, 0)) := by rw [hW1, hH]; exact heap_alloc_new W.drew _
 have gr1 : W.grownBy W1 (some g) := by rw [hW1]; exact ⟨rfl, rfl, rfl, by simp, fun k hk _ => Below.heap_alloc W.drew _ k hk⟩
 have HAP := hid (show ∀ ty, (Builtin.append_ #[25, 3] ty #[.slice (some ⟨g, 0, none⟩) i n, .int .i64 k]).run Tryz.prog W = .ok (.slice (some ⟨H, 0, none⟩) (i + k) cp) W1 from fun ty => by
  have := Lib.run_append_grow_zeros (P := Tryz.prog) W 25 3 ty 67 i0 _ .i64 .i64 Tryz.underlying25 htn hi0 hz0 (some ⟨g, 0, none⟩) i n (rowC encC (L.take i)) hold k (by omega) (by rw [hz1]; omega) (by omega) (by omega) (by rw [hz2]; omega) (by rw [hz2]; exact growslice_fits (by omega) (by omega))
  rw [arr16] at this
  rw [this, hW1, hcu2, hH, hcp])
 obtain ⟨E, hE⟩ : ∃ E, E = cu2.take (i * 2) ++ encC (s, a) ++ cu2.drop (i * 2 + (encC (s, a)).length) := ⟨_, rfl⟩
 obtain ⟨F, hF⟩ : ∃ F, F = E.take ((i + 1) * 2) ++ rowC encC (L.drop i) ++ E.drop ((i + 1) * 2 + (rowC encC (L.drop i)).length) := ⟨_, rfl⟩
 obtain ⟨k1, k2, k3⟩ := ins_grow (x := (s, a)) rfl hn hge hcs2 htk2 (by omega) hE hF
 have hVl : V < W.heap.size := (Array.getElem?_eq_some_iff.1 hV).1
 have hgl : g < W.heap.size := (Array.getElem?_eq_some_iff.1 hg).1
 have hV1 : W1.heap[V]? = some (.cells (encC (s, a)).toArray 67 (0, 0)) := by rw [hW1]; exact (Below.heap_alloc W.drew _ V hVl).trans hV
 obtain ⟨W2, hW2⟩ : ∃ W2, W2 = W1.setRow H E.toArray := ⟨_, rfl⟩
 have hg2 : W2.heap[H]? = some (.cells E.toArray 67 (0, 0)) := by rw [hW2]; exact setRow_heap W1 H _ _ _ _ hg1
 have gr2 : W.grownBy W2 (some g) := by rw [hW2]; exact grown_new gr1 (by omega)
 have hgg : W2.heap[g]? = some (.cells cur.toArray 67 (0, 0)) := by rw [hW2, setRow_other _ _ _ _ (by omega), hW1]; exact (Below.heap_alloc W.drew _ g hgl).trans hg
 have HC1 := hid (show ∀ ty dc, (Builtin.copy_ #[25, 25] ty #[.slice (some ⟨H, i * 2, none⟩) k dc, .slice (some ⟨V, 0, none⟩) 1 1]).run Tryz.prog W1 = .ok (goInt (Nat.min 1 k)) W2 from fun ty dc => by
  rw [hW2, hE]
  exact run_copy_at W1 _ _ ty 67 H (i * 2) _ dc _ _ 1 2 _ 67 (encC (s, a)) Tryz.underlying25 hinf hg1 (by rw [show Nat.min 1 k = 1 from Nat.min_eq_left (by omega)]; rfl) (by simp [hcs2, encC]; omega) ⟨V, 0, none⟩ rfl (cells_of_row16 hV1) (encC_one _))
 have HC2 := hid (show ∀ ty dc sc, (Builtin.copy_ #[25, 25] ty #[.slice (some ⟨H, (i + 1) * 2, none⟩) (i + k - (i + 1)) dc, .slice (some ⟨g, i * 2, none⟩) (n - i) sc]).run Tryz.prog W2.drew = .ok (goInt (Nat.min (n - i) (i + k - (i + 1)))) (W2.drew.setRow H F.toArray) from fun ty dc sc => by
  rw [hF]
  exact run_copy_at W2.drew _ _ ty 67 H ((i + 1) * 2) _ dc _ _ sc 2 _ 67 (rowC encC (L.drop i)) Tryz.underlying25 hinf hg2 (by rw [hdl]; congr 1; exact (Nat.min_eq_left (show n - i ≤ i + k - (i + 1) by omega)).symm) (by rw [hdl]; simp [k1]; omega) ⟨g, i * 2, none⟩ rfl (cells_at (W := W2.drew) hgg (rowC_at htk i)) (rowC_oneCell encC_one _))
 have HO := hid (own_set (W := W2.drew) (m := n + 1) (c := cp) hg2 (show B ≤ H by omega) hge hmx k2 k3)
 have HG := hid (show W.grownBy (W2.drew.setRow H F.toArray) (some g) from grown_new (W' := W2.drew) ⟨gr2.os, gr2.tape, gr2.output, gr2.size, gr2.block⟩ (by omega))
 have HK := hid (show i + k = n + 1 by omega)
 have HHS := hid hH
 have e1 : i ≤ n := by omega
 have e2 : ¬ n = i := by omega
 have e3 : ¬ cp = i + 1 := by omega
 have e4 : (i : Int) ≤ n := by omega
 have e5 : ¬ (i : Int) = n := by omega
 have e6 : IntKind.i64.wrap ((n : Int) + 1) = (n : Int) + 1 := by rw [IntKind.wrap_i64]; omega
 have e7 : IntKind.i64.wrap ((i : Int) + 1) = (i : Int) + 1 := by rw [IntKind.wrap_i64]; omega
 have e8 : (n : Int) < (n : Int) + 1 := by omega
 have e9 : IntKind.i64.wrap ((n : Int) + 1 - (i : Int)) = (k : Nat) := by rw [IntKind.wrap_i64]; omega
 have e11 : (0 : Int) ≤ (i : Int) + 1 := by omega
 have e13 : ((i : Int) + 1).toNat = i + 1 := by omega
 have e14 : (i : Int) ≤ (i : Int) + (k : Int) := by omega
 have e15 : (i : Int) + 1 ≤ (i : Int) + (k : Int) := by omega
 have e16 : ¬ cp = i := by omega
 have e17 : i ≤ i + k := by omega
 have t1 : ¬ (1 : Int) = 0 := by decide
 clear hO hn hb hB hBW hg hcm hcs htk hinf htn hi0 hz0 hz1 hz2 hdl hk hold hcp hge hmx hcu2 hil hcs2 htk2 hH hW1 hg1 gr1 hE hF k1 k2 k3 hVl hgl hV1 hW2 hg2 gr2 hgg hV hi
 go_enter Tryz.func229, Tryz.ntmps229
 go_wp2_with (first
  | ((with_reducible show wpList _ _ _ (⟨some 40, .call _, _, _, _, _⟩ :: _) _ _)
     go_loud (refine wpList_appr16 rfl (.tmp 34) (.tmp 39) #[25, 3] rfl rfl rfl (HAP.out _) ?_))
  | ((with_reducible show wpList _ _ _ (⟨some 45, .call _, _, _, _, _⟩ :: _) _ _)
     go_loud (refine wpList_copy16 rfl (.tmp 43) (.tmp 44) #[25, 25] rfl rfl rfl (HC1.out _ _) ?_)))
 go_region_law (refine step_copy16 rfl (.tmp 50) (.tmp 53) #[25, 25] (by rfl) (by simp [Act.eval, Act.put]) (by simp [Act.eval, Act.put]) (HC2.out _ (cp - (i + 1)) (n - i)) ?_)
 go_wp2_with fail
 go_ret
 exact ⟨_, rfl, by rw [HK.out]; exact HO.out, HG.out, fun k e => Or.inr (by have := HHS.out; have := Option.some.inj e; simp only at this; omega)⟩
theorem insert_l (W : World) (B : Nat) (v : Value) (n V i : Nat) (L : List Cl) (s : ByteArray) (a : Nat) (hO : W.ownsRow B 67 2 v n (rowC encC L)) (hn : n = L.length) (hi : i ≤ n) (hb : n ≤ 100000) (hBW : B ≤ W.heap.size) (hV : W.heap[V]? = some (.cells (encC (s, a)).toArray 67 (0, 0))) (hne : v.ownBlock ≠ some V) :
 Calls Tryz.prog 229 #[v, .int .i64 i, .slice (some ⟨V, 0, none⟩) 1 1] W fun e w' => ∃ v', e = .returned v' ∧ w'.ownsRow B 67 2 v' (n + 1) (rowC encC (L.take i ++ (s, a) :: L.drop i)) ∧ W.grownBy w' (Value.ownBlock v) ∧ ∀ k, v'.ownBlock = some k → (Value.ownBlock v) = some k ∨ W.heap.size ≤ k := by
 by_cases h : i = n
 ·subst h
  have := ins_end W B v i V L s a hO hn hb hBW hV
  rw [show L.take i ++ (s, a) :: L.drop i = L ++ [(s, a)] by rw [List.take_of_length_le (by omega), List.drop_of_length_le (by omega)]]
  exact this
 ·obtain ⟨g, c, rfl, _, _⟩ := hO.form (by omega)
  obtain ⟨cur, _, _, hnc, _⟩ := own_cur hO
  by_cases hc : n + 1 ≤ c
  ·exact ins_room W B g n c V i L s a hO hn (by omega) hc hb hV (fun e => hne (by rw [e]; rfl))
  ·obtain rfl : c = n := by omega
   exact ins_more W B g c V i L s a hO hn (by omega) hb hBW hV
end Go.Proofs.YtlenjfodjkhpmaaGreatDoor
