/- The package's table as a statement's condition gives it: the cells of the variable. And a world that meets the condition. -/
import Derived.Test.YtlneiiljdghmjaaDoorIs
import Derived.ProofKit
import Derived.LaidMore
import Derived.OpenShut
import Derived.Stop.Joined
import Derived.MakeChecks
import Derived.Test.YtlneiiljdghmjaaDoorRows
namespace Go.Proofs.YtlneiiljdghmjaaDoor
open Go.ChangeShapes Go.WideShapes Go.ChangeAt Go.RowKit
set_option linter.unusedVariables false

abbrev listed : List (String × DataW Unit) := [("vestibule/insn.rows", Rows.laid_vestibule_insn_rows)]
def rowD (o : One) : DataW Unit := .agg [.lit (.int .u16 o.code), .lit (.int .u8 o.cls), .lit (.string o.name.data.toList)]
set_option maxRecDepth 100000 in
theorem rows_datum : (Rows.laid_vestibule_insn_rows : DataW Unit) = .agg (rowsL.map rowD) := rfl
set_option maxRecDepth 100000 in
theorem gRows : Tryd.prog.globalNamed "vestibule/insn.rows" = some 0 := by kernel_rfl
set_option maxRecDepth 100000 in
theorem tRows : (Tryd.prog.globals[0]?).map (·.type) = some 88 := by kernel_rfl
set_option maxRecDepth 100000 in
theorem cRow : Tryd.prog.cellsOf 74 = 3 := by kernel_rfl
set_option maxRecDepth 100000 in
theorem c16 : Tryd.prog.cellsOf 30 = 1 := by kernel_rfl
set_option maxRecDepth 100000 in
theorem cCls : Tryd.prog.cellsOf 42 = 1 := by kernel_rfl
set_option maxRecDepth 100000 in
theorem cStr : Tryd.prog.cellsOf 9 = 1 := by kernel_rfl
set_option maxRecDepth 100000 in
theorem row_cells {enc : TypeId × Value → Unit} {w : World} {base fuel : Nat} {sp : Nat → Bool} {held : Bool} {cs : List Value} {o : One} {q : List MemPlace} (hl : cs.length = 3)
    (h : DataW.trod enc Tryd.prog w base sp held fuel 74 cs = some (rowD o, q)) : cs = rowC o := by
  obtain ⟨ys, n, rfl, hy, hlen, hyl, hf⟩ := DataW.trod_struct Tryd.underlying74 h
  have f0 : DataW.trod enc Tryd.prog w base sp held n 30 ((cs.drop 0).take (Tryd.prog.cellsOf 30)) = ys[0]? := hf 0 _ rfl
  have f1 : DataW.trod enc Tryd.prog w base sp held n 42 ((cs.drop 1).take (Tryd.prog.cellsOf 42)) = ys[1]? := hf 1 _ rfl
  have f2 : DataW.trod enc Tryd.prog w base sp held n 9 ((cs.drop 2).take (Tryd.prog.cellsOf 9)) = ys[2]? := hf 2 _ rfl
  rw [c16] at f0
  rw [cCls] at f1
  rw [cStr] at f2
  match cs, hl, ys, hyl with
  | [a, b, c], _, [y0, y1, y2], _ =>
    obtain ⟨k0, e0, x0, _⟩ := DataW.trod_int Tryd.underlying30 (show DataW.trod enc Tryd.prog w base sp held n 30 [a] = some y0 from f0)
    obtain ⟨k1, e1, x1, _⟩ := DataW.trod_int Tryd.underlying42 (show DataW.trod enc Tryd.prog w base sp held n 42 [b] = some y1 from f1)
    obtain ⟨k2, e2, x2, _⟩ := DataW.trod_string Tryd.underlying9 (show DataW.trod enc Tryd.prog w base sp held n 9 [c] = some y2 from f2)
    subst x0 x1 x2
    simp only [rowD, List.map_cons, List.map_nil, Prod.mk.injEq, DataW.agg.injEq, List.cons.injEq, DataW.lit.injEq, Lit.int.injEq, Lit.string.injEq, true_and, and_true] at hy
    obtain ⟨⟨h0, h1, h2⟩, _⟩ := hy
    have h2' : o.name = k2 := list_of_bytes (by rw [ByteArray.toList_eq, ByteArray.toList_eq]; exact h2)
    simp at e0 e1 e2
    subst e0 e1 e2
    unfold rowC
    rw [h0, h1, h2']
set_option maxRecDepth 100000 in
theorem of_laid {W : World} (h : laidMetH Tryd.prog listed W) : GW W := by
  rw [MakeChecks.laidMetH_plain _ _ _ (by kernel_rfl)] at h
  obtain ⟨ps, ⟨g0, t0, cs0, f0, p0, q0, hg0, ht0, hv0, hd0, _, _⟩, _, _⟩ := h
  obtain rfl := Option.some.inj (gRows.symm.trans hg0)
  obtain rfl := Option.some.inj (tRows.symm.trans ht0)
  rw [rows_datum] at hd0
  obtain ⟨xs, m, rfl, hx, hlen, hn, hel⟩ := DataW.trod_array Tryd.underlying88 hd0
  rw [cRow] at hel
  have hl : cs0.toList.length = 123 := hlen.trans (by kernel_rfl)
  intro j u hu
  have hj : j < 123 := by
    have := (List.getElem?_eq_some_iff.1 hu).1
    have e : (rowsL.flatMap rowC).length = 123 := by decide +kernel
    omega
  obtain ⟨k, r, e, hr⟩ : ∃ k r, j = k * 3 + r ∧ r < 3 := ⟨j / 3, j % 3, by omega, by omega⟩
  subst e
  have hk : k < rowsL.length := by rw [rowsL_length]; omega
  rw [rowC_get hk r hr] at hu
  have hkx : k < xs.length := by rw [hn, ← rowsL_length]; exact hk
  have h1 := hel k (by rw [← rowsL_length]; exact hk)
  rw [List.getElem?_eq_getElem hkx] at h1
  have hm : xs.map (·.1) = rowsL.map rowD := by
    simp only [Prod.mk.injEq, DataW.agg.injEq] at hx
    exact hx.1.symm
  have h2 : (xs[k]).1 = rowD rowsL[k] := by
    have h3 : (xs.map (·.1))[k]? = (rowsL.map rowD)[k]? := by rw [hm]
    rw [List.getElem?_map, List.getElem?_map, List.getElem?_eq_getElem hkx, List.getElem?_eq_getElem hk] at h3
    exact Option.some.inj h3
  have h4 := h1.trans (show some xs[k] = some (rowD rowsL[k], (xs[k]).2) by rw [← h2])
  have h5 := row_cells (by rw [List.length_take, List.length_drop, hl]; omega) h4
  rw [World.var?_cell gRows hv0 (k * 3 + r), ← hu, ← h5, List.getElem?_take_of_lt hr, List.getElem?_drop, Array.getElem?_toList]
set_option maxRecDepth 100000 in
/-- The heap that the program's own start leaves meets the condition. -/
theorem door_met (os : Os) (args : Array Value) : laidMetH Tryd.prog listed ((World.doorLaid Tryd.prog 400 os).forCall (fun _ _ => 0) ⟨#[], args, []⟩).memory :=
  laidMetH_of_parts3 (fuel := 8) (laidMet_of_run' 8 (by kernel_rfl) (by kernel_rfl)) (by kernel_rfl) (by kernel_rfl)
end Go.Proofs.YtlneiiljdghmjaaDoor
