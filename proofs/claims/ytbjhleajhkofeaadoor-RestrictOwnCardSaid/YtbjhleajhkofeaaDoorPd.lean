/- A policy, an assignment that came in. No condition. -/
import Derived.Test.YtbjhleajhkofeaaDoorP8
namespace Go.Proofs.YtbjhleajhkofeaaDoor
open Go.ChangeShapes Go.WideShapes Go.ChangeAt Go.RowKit
set_option linter.unusedVariables false
set_option linter.unusedSimpArgs false

theorem ints_open17 {H : Type} {enc : TypeId × Value → H} {W : World} {a : Option Addr} {len cap : Nat} {d : DataW H} {p : List MemPlace}
    (h : DataW.Trod enc Tryd.prog W 0 (fun _ => true) true 24 (.slice a len cap) d p) : ∃ l : List Int, l.length = len ∧ NumsAt .i64 W a l ∧ ∀ y ∈ l, (Lit.int .i64 y).wf = true := by
  obtain ⟨fuel, hf⟩ := h
  rcases open_ints Tryd.underlying24 Tryd.underlying3 (by kernel_rfl) hf with ⟨hcs, _⟩ | ⟨x, l, c, zs, hcs, _, hl, hm, hz, _, hcell, hwz⟩
  · simp [Value.cells] at hcs
    obtain ⟨rfl, rfl, rfl⟩ := hcs
    exact ⟨[], rfl, fun i x hx => by simp at hx, fun y hy => absurd hy (by simp)⟩
  · simp [Value.cells] at hcs
    obtain ⟨rfl, rfl, rfl⟩ := hcs
    have hz : zs.length = cap := by simpa using hz
    have hlt : ((zs.take len).length) = len := by rw [List.length_take]; omega
    refine ⟨zs.take len, hlt, fun i y hy => ?_, fun y hy => hwz y (List.mem_of_mem_take hy)⟩
    have hi : i < len := by have := (List.getElem?_eq_some_iff.1 hy).1; omega
    obtain ⟨b, o, s⟩ := x
    have hc := hcell 0 (by omega)
    have hs : s = none := by simpa [Addr.add] using World.cell?_spot hc
    subst hs
    refine ⟨b, o, rfl, ?_⟩
    have h1 := hcell i (by omega)
    rw [Addr.add_lit] at h1
    rw [h1]
    rw [List.getElem?_take, if_pos hi] at hy
    simp [List.getD_eq_getElem?_getD, hy]
theorem u32s_open17 {H : Type} {enc : TypeId × Value → H} {W : World} {a : Option Addr} {len cap : Nat} {d : DataW H} {p : List MemPlace}
    (h : DataW.Trod enc Tryd.prog W 0 (fun _ => true) true 29 (.slice a len cap) d p) : ∃ l : List Int, l.length = len ∧ NumsAt .u32 W a l ∧ ∀ y ∈ l, (Lit.int .u32 y).wf = true := by
  obtain ⟨fuel, hf⟩ := h
  rcases open_ints Tryd.underlying29 Tryd.underlying28 (by kernel_rfl) hf with ⟨hcs, _⟩ | ⟨x, l, c, zs, hcs, _, hl, hm, hz, _, hcell, hwz⟩
  · simp [Value.cells] at hcs
    obtain ⟨rfl, rfl, rfl⟩ := hcs
    exact ⟨[], rfl, fun i x hx => by simp at hx, fun y hy => absurd hy (by simp)⟩
  · simp [Value.cells] at hcs
    obtain ⟨rfl, rfl, rfl⟩ := hcs
    have hz : zs.length = cap := by simpa using hz
    have hlt : ((zs.take len).length) = len := by rw [List.length_take]; omega
    refine ⟨zs.take len, hlt, fun i y hy => ?_, fun y hy => hwz y (List.mem_of_mem_take hy)⟩
    have hi : i < len := by have := (List.getElem?_eq_some_iff.1 hy).1; omega
    obtain ⟨b, o, s⟩ := x
    have hc := hcell 0 (by omega)
    have hs : s = none := by simpa [Addr.add] using World.cell?_spot hc
    subst hs
    refine ⟨b, o, rfl, ?_⟩
    have h1 := hcell i (by omega)
    rw [Addr.add_lit] at h1
    rw [h1]
    rw [List.getElem?_take, if_pos hi] at hy
    simp [List.getD_eq_getElem?_getD, hy]
theorem plV_open (p : Pls) (P : Pol) : plV p P = .agg #[.slice p.aq p.an p.ac, .int .u8 (P.fl.1 : Nat), .slice p.fq p.fn p.fc, .int .u32 (P.dn : Nat), .int .u8 (P.lg.1 : Nat), .slice p.lq p.ln p.lc, .slice p.mq p.mn p.mc, .int .u8 (P.fm : Nat), .int .u64 (P.sp : Nat), .bool P.b1, .bool P.b2, .bool P.b3, .bool P.b4] := rfl
set_option maxRecDepth 100000 in
theorem list_cells17 {H : Type} {enc : TypeId × Value → H} {W : World} {n : Nat} {v1 v2 : Value} {y : DataW H × List MemPlace} (f : DataW.trod enc Tryd.prog W 0 (fun _ => true) true n 27 [v1, v2] = some y) (lt : ∀ x ∈ y.2, x.block < W.heap.size) : ∃ (m : Nat) (a : Option Addr) (len cap : Nat) (z : List Cl), m < 256 ∧ IsCalls W a len cap z ∧ v1 = .int .u8 (m : Nat) ∧ v2 = .slice a len cap := by
  obtain ⟨ys, n, rfl, hy, hlen, hyl, hel⟩ := DataW.trod_struct Tryd.underlying27 f
  match ys, hyl with
  | [y0, y1], _ =>
    have f0 : DataW.trod enc Tryd.prog W 0 (fun _ => true) true n 5 [v1] = some y0 := by have := hel 0 _ rfl; exact this
    have f1 : DataW.trod enc Tryd.prog W 0 (fun _ => true) true n 25 [v2] = some y1 := by have := hel 1 _ rfl; exact this
    obtain ⟨z0, e0, _, w0⟩ := DataW.trod_int Tryd.underlying5 f0
    simp at e0
    subst e0
    have hb : 0 ≤ z0 ∧ z0 ≤ 255 := bounds_u8 w0
    have hp : ∀ x ∈ y1.2, x.block < W.heap.size := fun x hx => lt x (by
      have := congrArg Prod.snd hy
      simp only at this
      rw [this]
      simp [hx])
    have shape : ∃ a len cap, v2 = .slice a len cap := by
      rcases DataW.trod_slice Tryd.underlying25 f1 with ⟨e, _⟩ | ⟨a, len, cap, _, _, _, _, e, _⟩
      · simp at e; exact ⟨none, 0, 0, e⟩
      · simp at e; exact ⟨some a, len, cap, e⟩
    obtain ⟨a, len, cap, rfl⟩ := shape
    obtain ⟨z, hz⟩ := calls_open (enc := enc) (W := W) (a := a) (len := len) (cap := cap) (d := y1.1) (p := y1.2) ⟨n, by simpa [Value.cells] using f1⟩ hp
    exact ⟨z0.toNat, a, len, cap, z, by omega, hz, by rw [Int.toNat_of_nonneg hb.1], rfl⟩
set_option maxRecDepth 100000 in
set_option maxHeartbeats 8000000 in
theorem policy_open {H : Type} {enc : TypeId × Value → H} {W : World} {r : Reach} {b0 : Nat} {v : Value} {x : DataW H} {p : List MemPlace} (hv : Value.okWide Tryd.prog W r b0 32 v)
    (h : DataW.Trod enc Tryd.prog W 0 (fun _ => true) true 32 v x p) (lt : ∀ y ∈ p, y.block < W.heap.size) : ∃ (q : Pls) (P : Pol), PolAt W q P ∧ P.Ok ∧ v = plV q P := by
  obtain ⟨cs, rfl, hsz⟩ := okWide_struct Tryd.underlying32 hv
  have hsz' : cs.size = 13 := hsz.trans (by kernel_rfl)
  obtain ⟨l⟩ := cs
  obtain ⟨fuel, hf⟩ := h
  obtain ⟨ys, n, rfl, hy, hlen, hyl, hel⟩ := DataW.trod_struct Tryd.underlying32 hf
  match l, hsz', ys, hyl with
  | [v0, v1, v2, v3, v4, v5, v6, v7, v8, v9, va, vb, vc], _, [y0, y1, y2, y3, y4, y5, y6, y7, y8, y9, y10], _ =>
    have f0 : DataW.trod enc Tryd.prog W 0 (fun _ => true) true n 24 [v0] = some y0 := by have := hel 0 _ rfl; exact this
    have f1 : DataW.trod enc Tryd.prog W 0 (fun _ => true) true n 27 [v1, v2] = some y1 := by have := hel 1 _ rfl; exact this
    have f2 : DataW.trod enc Tryd.prog W 0 (fun _ => true) true n 28 [v3] = some y2 := by have := hel 2 _ rfl; exact this
    have f3 : DataW.trod enc Tryd.prog W 0 (fun _ => true) true n 27 [v4, v5] = some y3 := by have := hel 3 _ rfl; exact this
    have f4 : DataW.trod enc Tryd.prog W 0 (fun _ => true) true n 29 [v6] = some y4 := by have := hel 4 _ rfl; exact this
    have f5 : DataW.trod enc Tryd.prog W 0 (fun _ => true) true n 5 [v7] = some y5 := by have := hel 5 _ rfl; exact this
    have f6 : DataW.trod enc Tryd.prog W 0 (fun _ => true) true n 30 [v8] = some y6 := by have := hel 6 _ rfl; exact this
    have f7 : DataW.trod enc Tryd.prog W 0 (fun _ => true) true n 4 [v9] = some y7 := by have := hel 7 _ rfl; exact this
    have f8 : DataW.trod enc Tryd.prog W 0 (fun _ => true) true n 4 [va] = some y8 := by have := hel 8 _ rfl; exact this
    have f9 : DataW.trod enc Tryd.prog W 0 (fun _ => true) true n 4 [vb] = some y9 := by have := hel 9 _ rfl; exact this
    have f10 : DataW.trod enc Tryd.prog W 0 (fun _ => true) true n 4 [vc] = some y10 := by have := hel 10 _ rfl; exact this
    have sh0 : ∃ a len cap, v0 = .slice a len cap := by
      rcases DataW.trod_slice Tryd.underlying24 f0 with ⟨e, _⟩ | ⟨a, len, cap, _, _, _, _, e, _⟩
      · simp at e; exact ⟨none, 0, 0, e⟩
      · simp at e; exact ⟨some a, len, cap, e⟩
    obtain ⟨a0, n0, c0, rfl⟩ := sh0
    obtain ⟨l0, hl0, hn0, hw0⟩ := ints_open17 (enc := enc) (W := W) (a := a0) (len := n0) (cap := c0) (d := y0.1) (p := y0.2) ⟨n, by simpa [Value.cells] using f0⟩
    obtain ⟨m1, a1, n1, c1, l1, hm1, hc1, rfl, rfl⟩ := list_cells17 f1 (fun y hy2 => lt y (by
      have := congrArg Prod.snd hy
      simp only at this
      rw [this]
      simp [hy2]))
    obtain ⟨z2, e2, _, w2⟩ := DataW.trod_int Tryd.underlying28 f2
    simp at e2
    subst e2
    have r2 := bounds_u32 w2
    obtain ⟨m3, a3, n3, c3, l3, hm3, hc3, rfl, rfl⟩ := list_cells17 f3 (fun y hy2 => lt y (by
      have := congrArg Prod.snd hy
      simp only at this
      rw [this]
      simp [hy2]))
    have sh4 : ∃ a len cap, v6 = .slice a len cap := by
      rcases DataW.trod_slice Tryd.underlying29 f4 with ⟨e, _⟩ | ⟨a, len, cap, _, _, _, _, e, _⟩
      · simp at e; exact ⟨none, 0, 0, e⟩
      · simp at e; exact ⟨some a, len, cap, e⟩
    obtain ⟨a4, n4, c4, rfl⟩ := sh4
    obtain ⟨l4, hl4, hn4, hw4⟩ := u32s_open17 (enc := enc) (W := W) (a := a4) (len := n4) (cap := c4) (d := y4.1) (p := y4.2) ⟨n, by simpa [Value.cells] using f4⟩
    obtain ⟨z5, e5, _, w5⟩ := DataW.trod_int Tryd.underlying5 f5
    simp at e5
    subst e5
    have r5 := bounds_u8 w5
    obtain ⟨z6, e6, _, w6⟩ := DataW.trod_int Tryd.underlying30 f6
    simp at e6
    subst e6
    have r6 := bounds_u64 w6
    obtain ⟨z7, e7, _⟩ := DataW.trod_bool Tryd.underlying4 f7
    simp at e7
    subst e7
    obtain ⟨z8, e8, _⟩ := DataW.trod_bool Tryd.underlying4 f8
    simp at e8
    subst e8
    obtain ⟨z9, e9, _⟩ := DataW.trod_bool Tryd.underlying4 f9
    simp at e9
    subst e9
    obtain ⟨z10, e10, _⟩ := DataW.trod_bool Tryd.underlying4 f10
    simp at e10
    subst e10
    have hu : ∀ y ∈ l4, 0 ≤ y ∧ y ≤ 4294967295 := fun y hy => bounds_u32 (hw4 y hy)
    have hfa : (l4.map Int.toNat).map (fun (x : Nat) => (x : Int)) = l4 := by
      rw [List.map_map]
      exact (List.map_congr_left fun y hy => Int.toNat_of_nonneg (hu y hy).1).trans (List.map_id _)
    refine ⟨⟨a0, n0, c0, a1, n1, c1, a3, n3, c3, a4, n4, c4⟩, ⟨l0, (m1, l1), z2.toNat, (m3, l3), l4.map Int.toNat, z5.toNat, z6.toNat, z7, z8, z9, z10⟩, ⟨hl0.symm, hc1.size.symm, hc3.size.symm, ?_, hn0, hc1.rd, hc3.rd, ?_⟩, ⟨hm1, hm3, ?_, ?_, ?_, fun e he => (hc1.rng e he).2, fun e he => (hc3.rng e he).2, hw0, ?_⟩, ?_⟩
    · rw [List.length_map]; exact hl4.symm
    · rw [hfa]; exact hn4
    · show z5.toNat < 256; omega
    · show z2.toNat < 4294967296; omega
    · show z6.toNat < 18446744073709551616; omega
    · intro x hx
      obtain ⟨y, hy, rfl⟩ := List.mem_map.1 hx
      have := hu y hy
      omega
    · rw [plV_open]
      simp only
      rw [Int.toNat_of_nonneg r2.1, Int.toNat_of_nonneg r5.1, Int.toNat_of_nonneg r6.1]
set_option maxRecDepth 100000 in
theorem assign_open {H : Type} {enc : TypeId × Value → H} {W : World} {r : Reach} {b0 : Nat} {v : Value} {x : DataW H} {p : List MemPlace} (hv : Value.okWide Tryd.prog W r b0 34 v)
    (h : DataW.Trod enc Tryd.prog W 0 (fun _ => true) true 34 v x p) : ∃ a : As, (a.file.size ≤ maxLen ∧ a.sec.size ≤ maxLen ∧ a.key.size ≤ maxLen ∧ a.val.size ≤ maxLen ∧ (Lit.int .i64 a.line).wf = true) ∧ v = asV a := by
  obtain ⟨cs, rfl, hsz⟩ := okWide_struct Tryd.underlying34 hv
  have hsz' : cs.size = 5 := hsz.trans (by kernel_rfl)
  obtain ⟨l⟩ := cs
  obtain ⟨fuel, hf⟩ := h
  obtain ⟨ys, n, rfl, hy, hlen, hyl, hel⟩ := DataW.trod_struct Tryd.underlying34 hf
  match l, hsz', ys, hyl with
  | [v0, v1, v2, v3, v4], _, [y0, y1, y2, y3, y4], _ =>
    have f0 : DataW.trod enc Tryd.prog W 0 (fun _ => true) true n 9 [v0] = some y0 := by have := hel 0 _ rfl; exact this
    have f1 : DataW.trod enc Tryd.prog W 0 (fun _ => true) true n 3 [v1] = some y1 := by have := hel 1 _ rfl; exact this
    have f2 : DataW.trod enc Tryd.prog W 0 (fun _ => true) true n 9 [v2] = some y2 := by have := hel 2 _ rfl; exact this
    have f3 : DataW.trod enc Tryd.prog W 0 (fun _ => true) true n 9 [v3] = some y3 := by have := hel 3 _ rfl; exact this
    have f4 : DataW.trod enc Tryd.prog W 0 (fun _ => true) true n 9 [v4] = some y4 := by have := hel 4 _ rfl; exact this
    obtain ⟨z0, e0, _, w0⟩ := DataW.trod_string Tryd.underlying9 f0
    simp at e0
    subst e0
    obtain ⟨z1, e1, _, w1⟩ := DataW.trod_int Tryd.underlying3 f1
    simp at e1
    subst e1
    obtain ⟨z2, e2, _, w2⟩ := DataW.trod_string Tryd.underlying9 f2
    simp at e2
    subst e2
    obtain ⟨z3, e3, _, w3⟩ := DataW.trod_string Tryd.underlying9 f3
    simp at e3
    subst e3
    obtain ⟨z4, e4, _, w4⟩ := DataW.trod_string Tryd.underlying9 f4
    simp at e4
    subst e4
    exact ⟨⟨z0, z1, z2, z3, z4⟩, ⟨w0, w2, w3, w4, w1⟩, rfl⟩
end Go.Proofs.YtbjhleajhkofeaaDoor
