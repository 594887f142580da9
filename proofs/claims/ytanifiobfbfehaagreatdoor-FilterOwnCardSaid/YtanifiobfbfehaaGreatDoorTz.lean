/- The variables that the statements list, as their conditions give them: the tables of names and words, the library's table and two errors. And a world that meets the conditions. -/
import Derived.Test.YtanifiobfbfehaaGreatDoorFC
import Derived.Lib.LaidTab
import Derived.ProofKit
import Derived.LaidMore
import Derived.OpenShut
import Derived.Stop.Joined
import Derived.MakeChecks
import Derived.Test.YtanifiobfbfehaaGreatDoorRows
namespace Go.Proofs.YtanifiobfbfehaaGreatDoor
open Go.ChangeShapes Go.WideShapes Go.ChangeAt Go.RowKit
set_option linter.unusedVariables false

abbrev listed16 : List (String × DataW Unit) := [("math/bits.deBruijn32tab", Rows.laid_math_bits_deBruijn32tab), ("math/bits.deBruijn64tab", Rows.laid_math_bits_deBruijn64tab), ("internal/strconv.uint64pow10", Rows.laid_internal_strconv_uint64pow10), ("strconv.ErrRange", Rows.laid_strconv_ErrRange), ("strconv.ErrSyntax", Rows.laid_strconv_ErrSyntax), ("vestibule/names.errnos", Rows.laid_vestibule_names_errnos)]
theorem flat_errs : flatD Tryz.prog 4 94 (Rows.laid_vestibule_names_errnos : DataW Unit) = some (cellsT .u32 errnoT) := by kernel_rfl
theorem pow_datum : (Rows.laid_internal_strconv_uint64pow10 : DataW Unit) = Lib.tabData .u64 Lib.pow10Tab := rfl
theorem gPow : Tryz.prog.globalNamed "internal/strconv.uint64pow10" = some 4 := by kernel_rfl
theorem tPow : (Tryz.prog.globals[4]?).map (·.type) = some 222 := by kernel_rfl
theorem pow_of {W : World} {g0 : Nat} {t0 : TypeId} {cs0 : Array Value} {f0 : Nat} {p0 : List MemPlace} (hg0 : Tryz.prog.globalNamed "internal/strconv.uint64pow10" = some g0) (ht0 : (Tryz.prog.globals[g0]?).map (·.type) = some t0) (hv0 : W.var? Tryz.prog "internal/strconv.uint64pow10" = some cs0)
    (hd0 : DataW.trod (fun _ => ()) Tryz.prog W 0 (fun _ => true) false f0 t0 cs0.toList = some (Rows.laid_internal_strconv_uint64pow10, p0)) : Lib.TabIs Tryz.prog W "internal/strconv.uint64pow10" .u64 Lib.pow10Tab := by
  obtain rfl := Option.some.inj (gPow.symm.trans hg0)
  obtain rfl := Option.some.inj (tPow.symm.trans ht0)
  rw [pow_datum] at hd0
  unfold Lib.TabIs
  rw [hv0, ← Lib.cells_of_tab Tryz.underlying222 Tryz.underlying28 (by kernel_rfl) (by kernel_rfl) hd0]
theorem iface_of {enc : TypeId × Value → Unit} {P : Program} {w : World} {base fuel : Nat} {sp : Nat → Bool} {t : TypeId} {cs : List Value} {nm : String} {d : DataW Unit} {p : List MemPlace} {ms : _} (ht : P.underlying t = some (.interface ms))
    (h : DataW.trod enc P w base sp false fuel t cs = some (.iface nm d, p)) : ∃ u v, cs = [.iface u v] := by
  cases fuel with
  | zero => simp [DataW.trod] at h
  | succ fuel =>
    simp only [DataW.trod, ht] at h
    match cs, h with
    | [.iface u v], _ => exact ⟨u, v, rfl⟩
    | [.nilIface], h => simp at h
theorem g_syn : Tryz.prog.globalNamed "strconv.ErrSyntax" = some 1 := by kernel_rfl
theorem t_syn : (Tryz.prog.globals[1]?).map (·.type) = some 120 := by kernel_rfl
theorem syn_of {W : World} {g0 : Nat} {t0 : TypeId} {cs0 : Array Value} {f0 : Nat} {p0 : List MemPlace} (hg0 : Tryz.prog.globalNamed "strconv.ErrSyntax" = some g0) (ht0 : (Tryz.prog.globals[g0]?).map (·.type) = some t0) (hv0 : W.var? Tryz.prog "strconv.ErrSyntax" = some cs0)
    (hd0 : DataW.trod (fun _ => ()) Tryz.prog W 0 (fun _ => true) false f0 t0 cs0.toList = some (Rows.laid_strconv_ErrSyntax, p0)) : ∃ t p, W.cell? ⟨1, 0, none⟩ = some (.iface t p) := by
  obtain rfl := Option.some.inj (g_syn.symm.trans hg0)
  obtain rfl := Option.some.inj (t_syn.symm.trans ht0)
  obtain ⟨u, v, e⟩ := iface_of Tryz.underlying120 hd0
  refine ⟨u, v, ?_⟩
  rw [World.var?_cell g_syn hv0 0, ← Array.getElem?_toList, e]; rfl
theorem g_rng : Tryz.prog.globalNamed "strconv.ErrRange" = some 2 := by kernel_rfl
theorem t_rng : (Tryz.prog.globals[2]?).map (·.type) = some 120 := by kernel_rfl
theorem rng_of {W : World} {g0 : Nat} {t0 : TypeId} {cs0 : Array Value} {f0 : Nat} {p0 : List MemPlace} (hg0 : Tryz.prog.globalNamed "strconv.ErrRange" = some g0) (ht0 : (Tryz.prog.globals[g0]?).map (·.type) = some t0) (hv0 : W.var? Tryz.prog "strconv.ErrRange" = some cs0)
    (hd0 : DataW.trod (fun _ => ()) Tryz.prog W 0 (fun _ => true) false f0 t0 cs0.toList = some (Rows.laid_strconv_ErrRange, p0)) : ∃ t p, W.cell? ⟨2, 0, none⟩ = some (.iface t p) := by
  obtain rfl := Option.some.inj (g_rng.symm.trans hg0)
  obtain rfl := Option.some.inj (t_rng.symm.trans ht0)
  obtain ⟨u, v, e⟩ := iface_of Tryz.underlying120 hd0
  refine ⟨u, v, ?_⟩
  rw [World.var?_cell g_rng hv0 0, ← Array.getElem?_toList, e]; rfl
theorem of_laid16 {W : World} (h : laidMetH Tryz.prog listed16 W) : GN W := by
  rw [MakeChecks.laidMetH_plain _ _ _ (by kernel_rfl)] at h
  obtain ⟨ps, ⟨g0, t0, cs0, f0, p0, q0, hg0, ht0, hv0, hd0, ⟨g1, t1, cs1, f1, p1, q1, hg1, ht1, hv1, hd1, ⟨g2, t2, cs2, f2, p2, q2, hg2, ht2, hv2, hd2, ⟨g3, t3, cs3, f3, p3, q3, hg3, ht3, hv3, hd3, ⟨g4, t4, cs4, f4, p4, q4, hg4, ht4, hv4, hd4, ⟨g5, t5, cs5, f5, p5, q5, hg5, ht5, hv5, hd5, _, _⟩, _⟩, _⟩, _⟩, _⟩, _⟩, _, _⟩ := h
  exact { errs := laidAt_of (g := 0) (t := 94) (by kernel_rfl) (by kernel_rfl) hg5 ht5 hv5 hd5 4 flat_errs, pow := pow_of hg2 ht2 hv2 hd2, rng := rng_of hg3 ht3 hv3 hd3, syn := syn_of hg4 ht4 hv4 hd4 }
/-- The heap that the program's own start leaves meets the conditions. -/
theorem door_met16 (os : Os) (args : Array Value) : laidMetH Tryz.prog listed16 ((World.doorLaid Tryz.prog 4000 os).forCall (fun _ _ => 0) ⟨#[], args, []⟩).memory :=
  laidMetH_of_parts3 (fuel := 8) (laidMet_of_run' 8 (by kernel_rfl) (by kernel_rfl)) (by kernel_rfl) (by kernel_rfl)
end Go.Proofs.YtanifiobfbfehaaGreatDoor
