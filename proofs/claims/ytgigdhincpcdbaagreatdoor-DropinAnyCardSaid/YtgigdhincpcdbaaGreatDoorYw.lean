/- A file (a name, a number, bytes) that came in. No condition. -/
import Derived.Test.YtgigdhincpcdbaaGreatDoorWd
import Derived.ChangeArms
namespace Go.Proofs.YtgigdhincpcdbaaGreatDoor
open Go.ChangeShapes Go.WideShapes Go.ChangeAt Go.RowKit
set_option linter.unusedVariables false

set_option maxRecDepth 100000 in
theorem file_open {H : Type} {enc : TypeId × Value → H} {W : World} {r : Reach} {b0 : Nat} {v : Value} {x : DataW H} {p : List MemPlace} (hv : Value.okWide Tryz.prog W r b0 24 v)
    (h : DataW.Trod enc Tryz.prog W 0 (fun _ => true) true 24 v x p) (lt : ∀ y ∈ p, y.block < W.heap.size) : ∃ (f0 : ByteArray) (d0 : Int) (a : Option Addr) (len cap : Nat) (z : List Int), f0.size ≤ maxLen ∧ IsBytes W a len cap z ∧ v = .agg #[.string f0, .int .i64 d0, .slice a len cap] := by
  obtain ⟨cs, rfl, hsz⟩ := okWide_struct Tryz.underlying24 hv
  have hsz' : cs.size = 3 := hsz.trans (by kernel_rfl)
  obtain ⟨l⟩ := cs
  obtain ⟨fuel, hf⟩ := h
  obtain ⟨ys, n, rfl, hy, hlen, hyl, hel⟩ := DataW.trod_struct Tryz.underlying24 hf
  match l, hsz', ys, hyl with
  | [v0, v1, v2], _, [y0, y1, y2], _ =>
    have f0 : DataW.trod enc Tryz.prog W 0 (fun _ => true) true n 9 [v0] = some y0 := by have := hel 0 _ rfl; exact this
    have f1 : DataW.trod enc Tryz.prog W 0 (fun _ => true) true n 3 [v1] = some y1 := by have := hel 1 _ rfl; exact this
    have f2 : DataW.trod enc Tryz.prog W 0 (fun _ => true) true n 22 [v2] = some y2 := by have := hel 2 _ rfl; exact this
    obtain ⟨z0, e0, _, w0⟩ := DataW.trod_string Tryz.underlying9 f0
    obtain ⟨z1, e1, _, w1⟩ := DataW.trod_int Tryz.underlying3 f1
    simp at e0 e1
    subst e0 e1
    have hp : ∀ y ∈ y2.2, y.block < W.heap.size := fun y hy2 => lt y (by
      have := congrArg Prod.snd hy
      simp only at this
      rw [this]
      simp [hy2])
    have shape : ∃ a len cap, v2 = .slice a len cap := by
      rcases DataW.trod_slice Tryz.underlying22 f2 with ⟨e, _⟩ | ⟨a, len, cap, _, _, _, _, e, _⟩
      · simp at e; exact ⟨none, 0, 0, e⟩
      · simp at e; exact ⟨some a, len, cap, e⟩
    obtain ⟨a, len, cap, rfl⟩ := shape
    obtain ⟨z, hz⟩ := bytes_open (enc := enc) (W := W) (a := a) (len := len) (cap := cap) (d := y2.1) (p := y2.2) ⟨n, by simpa [Value.cells] using f2⟩ hp
    exact ⟨z0, z1, a, len, cap, z, w0, hz, rfl⟩
end Go.Proofs.YtgigdhincpcdbaaGreatDoor
