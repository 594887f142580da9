/- The variables that the statements list, as their conditions give them: the tables, the library's two errors. And worlds that meet the conditions. -/
import Derived.Test.YtlneiiljdghmjaaDoorLw
import Derived.Test.YtlneiiljdghmjaaDoorHd
import Derived.Lib.LaidTab
namespace Go.Proofs.YtlneiiljdghmjaaDoor
open Go.ChangeShapes Go.WideShapes Go.ChangeAt Go.RowKit
set_option linter.unusedVariables false

abbrev listed4 : List (String × DataW Unit) := [("math/bits.deBruijn32tab", Rows.laid_math_bits_deBruijn32tab), ("math/bits.deBruijn64tab", Rows.laid_math_bits_deBruijn64tab), ("internal/strconv.uint64pow10", Rows.laid_internal_strconv_uint64pow10), ("vestibule/insn.rows", Rows.laid_vestibule_insn_rows)]
abbrev listed6 : List (String × DataW Unit) := [("math/bits.deBruijn32tab", Rows.laid_math_bits_deBruijn32tab), ("math/bits.deBruijn64tab", Rows.laid_math_bits_deBruijn64tab), ("internal/strconv.uint64pow10", Rows.laid_internal_strconv_uint64pow10), ("strconv.ErrRange", Rows.laid_strconv_ErrRange), ("strconv.ErrSyntax", Rows.laid_strconv_ErrSyntax), ("vestibule/insn.rows", Rows.laid_vestibule_insn_rows)]
theorem gw_of {W : World} {g0 : Nat} {t0 : TypeId} {cs0 : Array Value} {f0 : Nat} {p0 : List MemPlace} (hg0 : Tryd.prog.globalNamed "vestibule/insn.rows" = some g0) (ht0 : (Tryd.prog.globals[g0]?).map (·.type) = some t0) (hv0 : W.var? Tryd.prog "vestibule/insn.rows" = some cs0)
    (hd0 : DataW.trod (fun _ => ()) Tryd.prog W 0 (fun _ => true) false f0 t0 cs0.toList = some (Rows.laid_vestibule_insn_rows, p0)) : GW W := by
  obtain rfl := Option.some.inj (gRows.symm.trans hg0)
  obtain rfl := Option.some.inj (tRows.symm.trans ht0)
  rw [rows_datum] at hd0
  obtain ⟨xs, m, rfl, hx, hlen, hn, hel⟩ := DataW.trod_array Tryd.underlying88 hd0
  rw [cRow] at hel
  have hl : cs0.toList.length = 123 := hlen.trans (by kernel_rfl)
  intro j u hu
  have hj : j < 123 := by
    have := (List.getElem?_eq_some_iff.1 hu).1
    have e : (rowsL.flatMap rowC).length = 123 := by decide +kernel
    omega
  obtain ⟨k, r, e, hr⟩ : ∃ k r, j = k * 3 + r ∧ r < 3 := ⟨j / 3, j % 3, by omega, by omega⟩
  subst e
  have hk : k < rowsL.length := by rw [rowsL_length]; omega
  rw [rowC_get hk r hr] at hu
  have hkx : k < xs.length := by rw [hn, ← rowsL_length]; exact hk
  have h1 := hel k (by rw [← rowsL_length]; exact hk)
  rw [List.getElem?_eq_getElem hkx] at h1
  have hm : xs.map (·.1) = rowsL.map rowD := by
    simp only [Prod.mk.injEq, DataW.agg.injEq] at hx
    exact hx.1.symm
  have h2 : (xs[k]).1 = rowD rowsL[k] := by
    have h3 : (xs.map (·.1))[k]? = (rowsL.map rowD)[k]? := by rw [hm]
    rw [List.getElem?_map, List.getElem?_map, List.getElem?_eq_getElem hkx, List.getElem?_eq_getElem hk] at h3
    exact Option.some.inj h3
  have h4 := h1.trans (show some xs[k] = some (rowD rowsL[k], (xs[k]).2) by rw [← h2])
  have h5 := row_cells (by rw [List.length_take, List.length_drop, hl]; omega) h4
  rw [World.var?_cell gRows hv0 (k * 3 + r), ← hu, ← h5, List.getElem?_take_of_lt hr, List.getElem?_drop, Array.getElem?_toList]
theorem pow_datum : (Rows.laid_internal_strconv_uint64pow10 : DataW Unit) = Lib.tabData .u64 Lib.pow10Tab := rfl
theorem gPow : Tryd.prog.globalNamed "internal/strconv.uint64pow10" = some 1 := by kernel_rfl
theorem tPow : (Tryd.prog.globals[1]?).map (·.type) = some 117 := by kernel_rfl
theorem pow_of {W : World} {g0 : Nat} {t0 : TypeId} {cs0 : Array Value} {f0 : Nat} {p0 : List MemPlace} (hg0 : Tryd.prog.globalNamed "internal/strconv.uint64pow10" = some g0) (ht0 : (Tryd.prog.globals[g0]?).map (·.type) = some t0) (hv0 : W.var? Tryd.prog "internal/strconv.uint64pow10" = some cs0)
    (hd0 : DataW.trod (fun _ => ()) Tryd.prog W 0 (fun _ => true) false f0 t0 cs0.toList = some (Rows.laid_internal_strconv_uint64pow10, p0)) : Lib.TabIs Tryd.prog W "internal/strconv.uint64pow10" .u64 Lib.pow10Tab := by
  obtain rfl := Option.some.inj (gPow.symm.trans hg0)
  obtain rfl := Option.some.inj (tPow.symm.trans ht0)
  rw [pow_datum] at hd0
  unfold Lib.TabIs
  rw [hv0, ← Lib.cells_of_tab Tryd.underlying117 Tryd.underlying59 (by kernel_rfl) (by kernel_rfl) hd0]
theorem iface_of {enc : TypeId × Value → Unit} {P : Program} {w : World} {base fuel : Nat} {sp : Nat → Bool} {t : TypeId} {cs : List Value} {nm : String} {d : DataW Unit} {p : List MemPlace} {ms : _} (ht : P.underlying t = some (.interface ms))
    (h : DataW.trod enc P w base sp false fuel t cs = some (.iface nm d, p)) : ∃ u v, cs = [.iface u v] := by
  cases fuel with
  | zero => simp [DataW.trod] at h
  | succ fuel =>
    simp only [DataW.trod, ht] at h
    match cs, h with
    | [.iface u v], _ => exact ⟨u, v, rfl⟩
    | [.nilIface], h => simp at h
theorem g_syn : Tryd.prog.globalNamed "strconv.ErrSyntax" = some 3 := by kernel_rfl
theorem t_syn : (Tryd.prog.globals[3]?).map (·.type) = some 52 := by kernel_rfl
theorem syn_of {W : World} {g0 : Nat} {t0 : TypeId} {cs0 : Array Value} {f0 : Nat} {p0 : List MemPlace} (hg0 : Tryd.prog.globalNamed "strconv.ErrSyntax" = some g0) (ht0 : (Tryd.prog.globals[g0]?).map (·.type) = some t0) (hv0 : W.var? Tryd.prog "strconv.ErrSyntax" = some cs0)
    (hd0 : DataW.trod (fun _ => ()) Tryd.prog W 0 (fun _ => true) false f0 t0 cs0.toList = some (Rows.laid_strconv_ErrSyntax, p0)) : ∃ t p, W.cell? ⟨3, 0, none⟩ = some (.iface t p) := by
  obtain rfl := Option.some.inj (g_syn.symm.trans hg0)
  obtain rfl := Option.some.inj (t_syn.symm.trans ht0)
  obtain ⟨u, v, e⟩ := iface_of Tryd.underlying52 hd0
  refine ⟨u, v, ?_⟩
  rw [World.var?_cell g_syn hv0 0, ← Array.getElem?_toList, e]; rfl
theorem g_rng : Tryd.prog.globalNamed "strconv.ErrRange" = some 4 := by kernel_rfl
theorem t_rng : (Tryd.prog.globals[4]?).map (·.type) = some 52 := by kernel_rfl
theorem rng_of {W : World} {g0 : Nat} {t0 : TypeId} {cs0 : Array Value} {f0 : Nat} {p0 : List MemPlace} (hg0 : Tryd.prog.globalNamed "strconv.ErrRange" = some g0) (ht0 : (Tryd.prog.globals[g0]?).map (·.type) = some t0) (hv0 : W.var? Tryd.prog "strconv.ErrRange" = some cs0)
    (hd0 : DataW.trod (fun _ => ()) Tryd.prog W 0 (fun _ => true) false f0 t0 cs0.toList = some (Rows.laid_strconv_ErrRange, p0)) : ∃ t p, W.cell? ⟨4, 0, none⟩ = some (.iface t p) := by
  obtain rfl := Option.some.inj (g_rng.symm.trans hg0)
  obtain rfl := Option.some.inj (t_rng.symm.trans ht0)
  obtain ⟨u, v, e⟩ := iface_of Tryd.underlying52 hd0
  refine ⟨u, v, ?_⟩
  rw [World.var?_cell g_rng hv0 0, ← Array.getElem?_toList, e]; rfl
theorem of_laid4 {W : World} (h : laidMetH Tryd.prog listed4 W) : GA W := by
  rw [MakeChecks.laidMetH_plain _ _ _ (by kernel_rfl)] at h
  obtain ⟨ps, ⟨g0, t0, cs0, f0, p0, q0, hg0, ht0, hv0, hd0, ⟨g1, t1, cs1, f1, p1, q1, hg1, ht1, hv1, hd1, ⟨g2, t2, cs2, f2, p2, q2, hg2, ht2, hv2, hd2, ⟨g3, t3, cs3, f3, p3, q3, hg3, ht3, hv3, hd3, _, _⟩, _⟩, _⟩, _⟩, _, _⟩ := h
  exact ⟨gw_of hg3 ht3 hv3 hd3, pow_of hg2 ht2 hv2 hd2⟩
theorem of_laid6 {W : World} (h : laidMetH Tryd.prog listed6 W) : GP W := by
  rw [MakeChecks.laidMetH_plain _ _ _ (by kernel_rfl)] at h
  obtain ⟨ps, ⟨g0, t0, cs0, f0, p0, q0, hg0, ht0, hv0, hd0, ⟨g1, t1, cs1, f1, p1, q1, hg1, ht1, hv1, hd1, ⟨g2, t2, cs2, f2, p2, q2, hg2, ht2, hv2, hd2, ⟨g3, t3, cs3, f3, p3, q3, hg3, ht3, hv3, hd3, ⟨g4, t4, cs4, f4, p4, q4, hg4, ht4, hv4, hd4, ⟨g5, t5, cs5, f5, p5, q5, hg5, ht5, hv5, hd5, _, _⟩, _⟩, _⟩, _⟩, _⟩, _⟩, _, _⟩ := h
  exact { rows := gw_of hg5 ht5 hv5 hd5, pow := pow_of hg2 ht2 hv2 hd2, rng := rng_of hg3 ht3 hv3 hd3, syn := syn_of hg4 ht4 hv4 hd4 }
/-- The heap that the program's own start leaves meets the conditions. -/
theorem door_met4 (os : Os) (args : Array Value) : laidMetH Tryd.prog listed4 ((World.doorLaid Tryd.prog 4000 os).forCall (fun _ _ => 0) ⟨#[], args, []⟩).memory :=
  laidMetH_of_parts3 (fuel := 8) (laidMet_of_run' 8 (by kernel_rfl) (by kernel_rfl)) (by kernel_rfl) (by kernel_rfl)
theorem door_met6 (os : Os) (args : Array Value) : laidMetH Tryd.prog listed6 ((World.doorLaid Tryd.prog 4000 os).forCall (fun _ _ => 0) ⟨#[], args, []⟩).memory :=
  laidMetH_of_parts3 (fuel := 8) (laidMet_of_run' 8 (by kernel_rfl) (by kernel_rfl)) (by kernel_rfl) (by kernel_rfl)
end Go.Proofs.YtlneiiljdghmjaaDoor
