/- The variables that the statements list, as their conditions give them: the tables of names and words, the library's table and two errors. And a world that meets the conditions. -/
import Derived.Test.YtfmfjnnbldmdlaaDoorKt
import Derived.Lib.LaidTab
import Derived.ProofKit
import Derived.LaidMore
import Derived.OpenShut
import Derived.Stop.Joined
import Derived.MakeChecks
import Derived.Test.YtfmfjnnbldmdlaaDoorRows
namespace Go.Proofs.YtfmfjnnbldmdlaaDoor
open Go.ChangeShapes Go.WideShapes Go.ChangeAt Go.RowKit
set_option linter.unusedVariables false

abbrev listed15 : List (String × DataW Unit) := [("math/bits.deBruijn32tab", Rows.laid_math_bits_deBruijn32tab), ("math/bits.deBruijn64tab", Rows.laid_math_bits_deBruijn64tab), ("internal/strconv.uint64pow10", Rows.laid_internal_strconv_uint64pow10), ("strconv.ErrRange", Rows.laid_strconv_ErrRange), ("strconv.ErrSyntax", Rows.laid_strconv_ErrSyntax), ("vestibule/names.errnos", Rows.laid_vestibule_names_errnos), ("vestibule/values.booleans", Rows.laid_vestibule_values_booleans)]
theorem flat_errs : flatD Tryd.prog 4 61 (Rows.laid_vestibule_names_errnos : DataW Unit) = some (cellsT .u32 errnoT) := by kernel_rfl
theorem flat_boo : flatD Tryd.prog 4 51 (Rows.laid_vestibule_values_booleans : DataW Unit) = some boolC := by kernel_rfl
theorem pow_datum : (Rows.laid_internal_strconv_uint64pow10 : DataW Unit) = Lib.tabData .u64 Lib.pow10Tab := rfl
theorem gPow : Tryd.prog.globalNamed "internal/strconv.uint64pow10" = some 3 := by kernel_rfl
theorem tPow : (Tryd.prog.globals[3]?).map (·.type) = some 98 := by kernel_rfl
theorem pow_of {W : World} {g0 : Nat} {t0 : TypeId} {cs0 : Array Value} {f0 : Nat} {p0 : List MemPlace} (hg0 : Tryd.prog.globalNamed "internal/strconv.uint64pow10" = some g0) (ht0 : (Tryd.prog.globals[g0]?).map (·.type) = some t0) (hv0 : W.var? Tryd.prog "internal/strconv.uint64pow10" = some cs0)
    (hd0 : DataW.trod (fun _ => ()) Tryd.prog W 0 (fun _ => true) false f0 t0 cs0.toList = some (Rows.laid_internal_strconv_uint64pow10, p0)) : Lib.TabIs Tryd.prog W "internal/strconv.uint64pow10" .u64 Lib.pow10Tab := by
  obtain rfl := Option.some.inj (gPow.symm.trans hg0)
  obtain rfl := Option.some.inj (tPow.symm.trans ht0)
  rw [pow_datum] at hd0
  unfold Lib.TabIs
  rw [hv0, ← Lib.cells_of_tab Tryd.underlying98 Tryd.underlying65 (by kernel_rfl) (by kernel_rfl) hd0]
theorem iface_of {enc : TypeId × Value → Unit} {P : Program} {w : World} {base fuel : Nat} {sp : Nat → Bool} {t : TypeId} {cs : List Value} {nm : String} {d : DataW Unit} {p : List MemPlace} {ms : _} (ht : P.underlying t = some (.interface ms))
    (h : DataW.trod enc P w base sp false fuel t cs = some (.iface nm d, p)) : ∃ u v, cs = [.iface u v] := by
  cases fuel with
  | zero => simp [DataW.trod] at h
  | succ fuel =>
    simp only [DataW.trod, ht] at h
    match cs, h with
    | [.iface u v], _ => exact ⟨u, v, rfl⟩
    | [.nilIface], h => simp at h
theorem g_syn : Tryd.prog.globalNamed "strconv.ErrSyntax" = some 6 := by kernel_rfl
theorem t_syn : (Tryd.prog.globals[6]?).map (·.type) = some 94 := by kernel_rfl
theorem syn_of {W : World} {g0 : Nat} {t0 : TypeId} {cs0 : Array Value} {f0 : Nat} {p0 : List MemPlace} (hg0 : Tryd.prog.globalNamed "strconv.ErrSyntax" = some g0) (ht0 : (Tryd.prog.globals[g0]?).map (·.type) = some t0) (hv0 : W.var? Tryd.prog "strconv.ErrSyntax" = some cs0)
    (hd0 : DataW.trod (fun _ => ()) Tryd.prog W 0 (fun _ => true) false f0 t0 cs0.toList = some (Rows.laid_strconv_ErrSyntax, p0)) : ∃ t p, W.cell? ⟨6, 0, none⟩ = some (.iface t p) := by
  obtain rfl := Option.some.inj (g_syn.symm.trans hg0)
  obtain rfl := Option.some.inj (t_syn.symm.trans ht0)
  obtain ⟨u, v, e⟩ := iface_of Tryd.underlying94 hd0
  refine ⟨u, v, ?_⟩
  rw [World.var?_cell g_syn hv0 0, ← Array.getElem?_toList, e]; rfl
theorem g_rng : Tryd.prog.globalNamed "strconv.ErrRange" = some 7 := by kernel_rfl
theorem t_rng : (Tryd.prog.globals[7]?).map (·.type) = some 94 := by kernel_rfl
theorem rng_of {W : World} {g0 : Nat} {t0 : TypeId} {cs0 : Array Value} {f0 : Nat} {p0 : List MemPlace} (hg0 : Tryd.prog.globalNamed "strconv.ErrRange" = some g0) (ht0 : (Tryd.prog.globals[g0]?).map (·.type) = some t0) (hv0 : W.var? Tryd.prog "strconv.ErrRange" = some cs0)
    (hd0 : DataW.trod (fun _ => ()) Tryd.prog W 0 (fun _ => true) false f0 t0 cs0.toList = some (Rows.laid_strconv_ErrRange, p0)) : ∃ t p, W.cell? ⟨7, 0, none⟩ = some (.iface t p) := by
  obtain rfl := Option.some.inj (g_rng.symm.trans hg0)
  obtain rfl := Option.some.inj (t_rng.symm.trans ht0)
  obtain ⟨u, v, e⟩ := iface_of Tryd.underlying94 hd0
  refine ⟨u, v, ?_⟩
  rw [World.var?_cell g_rng hv0 0, ← Array.getElem?_toList, e]; rfl
theorem of_laid15 {W : World} (h : laidMetH Tryd.prog listed15 W) : G15 W := by
  rw [MakeChecks.laidMetH_plain _ _ _ (by kernel_rfl)] at h
  obtain ⟨ps, ⟨g0, t0, cs0, f0, p0, q0, hg0, ht0, hv0, hd0, ⟨g1, t1, cs1, f1, p1, q1, hg1, ht1, hv1, hd1, ⟨g2, t2, cs2, f2, p2, q2, hg2, ht2, hv2, hd2, ⟨g3, t3, cs3, f3, p3, q3, hg3, ht3, hv3, hd3, ⟨g4, t4, cs4, f4, p4, q4, hg4, ht4, hv4, hd4, ⟨g5, t5, cs5, f5, p5, q5, hg5, ht5, hv5, hd5, ⟨g6, t6, cs6, f6, p6, q6, hg6, ht6, hv6, hd6, _, _⟩, _⟩, _⟩, _⟩, _⟩, _⟩, _⟩, _, _⟩ := h
  exact { gn := { errs := laidAt_of (g := 1) (t := 61) (by kernel_rfl) (by kernel_rfl) hg5 ht5 hv5 hd5 4 flat_errs, pow := pow_of hg2 ht2 hv2 hd2, rng := rng_of hg3 ht3 hv3 hd3, syn := syn_of hg4 ht4 hv4 hd4 },
           boo := laidAt_of (g := 0) (t := 51) (by kernel_rfl) (by kernel_rfl) hg6 ht6 hv6 hd6 4 flat_boo }
/-- The heap that the program's own start leaves meets the conditions. -/
theorem door_met15 (os : Os) (args : Array Value) : laidMetH Tryd.prog listed15 ((World.doorLaid Tryd.prog 4000 os).forCall (fun _ _ => 0) ⟨#[], args, []⟩).memory :=
  laidMetH_of_parts3 (fuel := 8) (laidMet_of_run' 8 (by kernel_rfl) (by kernel_rfl)) (by kernel_rfl) (by kernel_rfl)
end Go.Proofs.YtfmfjnnbldmdlaaDoor
