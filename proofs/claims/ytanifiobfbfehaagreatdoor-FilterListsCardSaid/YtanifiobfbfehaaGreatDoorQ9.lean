/- What the walk of FilterLists stands on: a row of assignments as pairs of a key and a value; its state in memory. No condition. -/
import Derived.Test.YtanifiobfbfehaaGreatDoorQ6
import Derived.Test.YtanifiobfbfehaaGreatDoorTu
namespace Go.Proofs.YtanifiobfbfehaaGreatDoor
open Go.RowKit
set_option linter.unusedVariables false
set_option linter.unusedSimpArgs false

/-- The row: keys by numbers, values. -/
def itm (z0 : List ByteArray) (z1 : List Int) : List (Nat × ByteArray) := (z0.zip z1).map fun e => (e.2.toNat % 4, e.1)
theorem itm_get {z0 : List ByteArray} {z1 : List Int} {i : Nat} {s : ByteArray} {b : Int} (h0 : z0[i]? = some s) (h1 : z1[i]? = some b) : (itm z0 z1)[i]? = some (b.toNat % 4, s) := by
  unfold itm
  rw [List.getElem?_map, (List.getElem?_zip_eq_some (z := (s, b))).2 ⟨h0, h1⟩]
  rfl
theorem itm_lt (z0 : List ByteArray) (z1 : List Int) : ∀ x ∈ itm z0 z1, x.1 < 4 := fun x hx => by
  obtain ⟨y, _, rfl⟩ := List.mem_map.1 hx
  exact Nat.mod_lt _ (by decide)
theorem keyAt_size {j : Nat} (h : j < 4) : (keyAt j).size ≤ 200 := by
  match j, h with
  | 0, _ => decide
  | 1, _ => decide
  | 2, _ => decide
  | 3, _ => decide
theorem denyK_lt (l : List (Nat × ByteArray)) : ∀ k, denyK l k < 4294967296
  | 0 => by show 2147483648 < 4294967296; decide
  | k + 1 => by
    cases hx : l[k]? with
    | none =>
      have ht : l.take (k + 1) = l.take k := by rw [List.take_add_one, hx]; simp
      have := denyK_lt l k
      unfold denyK at *
      rw [ht]; exact this
    | some x =>
      rw [denyK_step hx]
      split
      · exact errnoF_ok _
      · exact denyK_lt l k
/-- What a row of assignments leaves within its bounds. -/
theorem run_good (l : List (Nat × ByteArray)) (hl : ∀ x ∈ l, x.1 < 4) (k : Nat) : (runK l k).1.Ok ∧ (runK l k).1.ar = [] ∧ (runK l k).1.fa = [] ∧ (runK l k).1.fl.2.length ≤ 100 ∧ (runK l k).1.lg.2.length ≤ 100 := by
  have h := (run_is l hl k).1
  have o1 : Okl knownR (foldT true (valsK 0 l k)).1.1 (foldT true (valsK 0 l k)).1.2 := foldK_ok _ _ _
  have o2 : Okl knownR (foldT false (valsK 1 l k)).1.1 (foldT false (valsK 1 l k)).1.2 := foldK_ok _ _ _
  have m1 := o1.mode
  have m2 := o2.mode
  have d := denyK_lt l k
  rw [h]
  refine ⟨⟨?_, ?_, ?_, d, ?_, okl_lt o1, okl_lt o2, fun x hx => (by cases hx), fun x hx => (by cases hx)⟩, rfl, rfl, ?_, ?_⟩
  · show (foldT true (valsK 0 l k)).1.1 < 256; omega
  · show (foldT false (valsK 1 l k)).1.1 < 256; omega
  · show 0 < 256; decide
  · show 0 < 18446744073709551616; decide
  · have := okl_le o1; show (foldT true (valsK 0 l k)).1.2.length ≤ 100; omega
  · have := okl_le o2; show (foldT false (valsK 1 l k)).1.2.length ≤ 100; omega
theorem run_nts (l : List (Nat × ByteArray)) (hl : ∀ x ∈ l, x.1 < 4) : ∀ k, (∀ i x, i < k → l[i]? = some x → x.2.size ≤ 1000) → (runK l k).2.length ≤ 1000 * k
  | 0, _ => by show 0 ≤ 0; decide
  | k + 1, hs => by
    have ih := run_nts l hl k (fun i x hi => hs i x (by omega))
    cases hx : l[k]? with
    | none =>
      have ht : l.take (k + 1) = l.take k := by rw [List.take_add_one, hx]; simp
      unfold runK at *
      rw [ht]; omega
    | some x =>
      rw [runK_step hx]
      obtain ⟨_, _, _, h4, h5⟩ := run_good l hl k
      have := (setF_len (runK l k).1 (keyAt x.1) x.2 (hs k x (by omega) hx) h4 h5).2.2.2.2
      show ((runK l k).2 ++ _).length ≤ _
      rw [List.length_append]
      omega
theorem vals_mem {j : Nat} {l : List (Nat × ByteArray)} {k : Nat} {v : ByteArray} (h : v ∈ valsK j l k) : ∃ i x, i < k ∧ l[i]? = some x ∧ x.2 = v := by
  unfold valsK at h
  obtain ⟨x, hx, rfl⟩ := List.mem_map.1 h
  have hm := (List.mem_filter.1 hx).1
  obtain ⟨i, hi, he⟩ := List.mem_iff_getElem.1 hm
  rw [List.length_take] at hi
  refine ⟨i, x, by omega, ?_, rfl⟩
  rw [List.getElem_take] at he
  rw [← he]
  exact List.getElem?_eq_getElem _
theorem vals_len (j : Nat) (l : List (Nat × ByteArray)) (k : Nat) : (valsK j l k).length ≤ k := by
  unfold valsK
  rw [List.length_map]
  exact Nat.le_trans (List.length_filter_le _ _) (by rw [List.length_take]; omega)
theorem strs_of_own17 {w : World} {B n c : Nat} {q : Option Addr} {V : List ByteArray} (h : w.ownsRow B 9 1 (.slice q n c) n (sG V)) (hn : n = V.length) : StrsAt w (.slice q n c) V := by
  refine ⟨q, c, by rw [hn], fun k s hs => ?_⟩
  have hk := (List.getElem?_eq_some_iff.1 hs).1
  obtain ⟨g, cap, hv, hB, hl⟩ := h.form (by omega)
  injection hv with h1 h2 h3
  subst h1 h3
  refine ⟨g, 0, rfl, ?_⟩
  rw [Nat.zero_add]
  exact (h.cellAt k (by omega)).trans (sG_get hs)
theorem own_low17 {B B' : Nat} {w : World} {p : Pls} {P : Pol} (h : OwnP B w p P) (hb : B' ≤ B) : OwnP B' w p P := ⟨h.al, h.fl, h.ll, h.ml, owns_low16 h.ar hb, owns_low16 h.fi hb, owns_low16 h.lo hb, owns_low16 h.fa hb⟩
theorem own_box17 {B b : Nat} {w : World} {p : Pls} {P : Pol} {cs : Array Value} {fz : Nat × Nat} (h : OwnP B w p P) (hb : w.heap[b]? = some (.cells cs 30 fz)) (i : Nat) (l : List Value) : OwnP B (w.setCells b i l) p P :=
  ⟨h.al, h.fl, h.ll, h.ml, rows_box17 hb (by decide) h.ar l, rows_box17 hb (by decide) h.fi l, rows_box17 hb (by decide) h.lo l, rows_box17 hb (by decide) h.fa l⟩
/-- What leaves all blocks of other types than notes and strings leaves a policy's rows. -/
theorem own_typ17 {B : Nat} {w w' : World} {p : Pls} {P : Pol} (h : OwnP B w p P) (hk : ∀ (k : Nat) (cs : Array Value) (t : TypeId) (fz : Nat × Nat), t ≠ 51 → t ≠ 9 → t ≠ 54 → w.heap[k]? = some (.cells cs t fz) → w'.heap[k]? = some (.cells cs t fz)) : OwnP B w' p P :=
  ⟨h.al, h.fl, h.ll, h.ml, owns_same16 h.ar (fun g cs fz _ hg => hk g cs _ fz (by decide) (by decide) (by decide) hg), owns_same16 h.fi (fun g cs fz _ hg => hk g cs _ fz (by decide) (by decide) (by decide) hg), owns_same16 h.lo (fun g cs fz _ hg => hk g cs _ fz (by decide) (by decide) (by decide) hg), owns_same16 h.fa (fun g cs fz _ hg => hk g cs _ fz (by decide) (by decide) (by decide) hg)⟩
/-- As F17, the policy's lists in rows of its own. -/
def F18 (V : World) (P : Pol) (N : List Nte) (X : World) (g : Nat) (p : Pls) (v : Value) : Prop := Below V.heap.size V X ∧ V.heap.size ≤ g ∧ X.heap[g]? = some (.cells (plC p P).toArray 30 (0, 0)) ∧ OwnP V.heap.size X p P ∧ X.ownsRow V.heap.size 51 4 v N.length (rowC encN N)
theorem fin18 {V W : World} {b : Nat} {p : Pls} {P : Pol} {v : Value} {N : List Nte} {cs : List Value} (hB : Below V.heap.size V W) (hb : V.heap.size ≤ b) (Z : W.heap[b]? = some (.cells cs.toArray 30 (0, 0))) (hl : cs.length = 13) (o : OwnP V.heap.size W p P) (r : W.ownsRow V.heap.size 51 4 v N.length (rowC encN N)) : F18 V P N (W.setCells b 0 (plC p P)) b p v :=
  ⟨below_setCells16 hb _ 0 _ hB, hb, set_fresh17 Z hl, own_box17 o Z 0 _, rows_box17 Z (by decide) r _⟩
/-- The state of the row's loop in memory, but for the policy: keys, values, notes. -/
structure FV (w : World) (gK gV B0 : Nat) (VA VB : List ByteArray) (n9 : Nat) (v9 : Value) (q0 : Option Addr) (n0 c0 : Nat) (q1 : Option Addr) (n1 c1 : Nat) (X : World) : Prop where
  bel : Below w.heap.size w X
  hi : B0 ≤ X.heap.size
  keys : X.heap[gK]? = some (.cells #[.string kFil, .string kLog, .string kErr, .string kOth] 9 (0, 0))
  vals : X.heap[gV]? = some (.cells #[.slice q0 n0 c0, .slice q1 n1 c1] 54 (0, 0))
  l0 : n0 = VA.length
  l1 : n1 = VB.length
  r0 : X.ownsRow B0 9 1 (.slice q0 n0 c0) n0 (sG VA)
  r1 : X.ownsRow B0 9 1 (.slice q1 n1 c1) n1 (sG VB)
  ap : ∀ g, (Value.slice q0 n0 c0).ownBlock = some g → (Value.slice q1 n1 c1).ownBlock ≠ some g
  nts : ∃ xs, X.ownsRow B0 51 4 v9 n9 xs
theorem size_setCells17 (W : World) (b : Nat) : ∀ (l : List Value) (i : Nat), (W.setCells b i l).heap.size = W.heap.size := fun l => by
  induction l generalizing W with
  | nil => intro i; rfl
  | cons v r ih => intro i; show ((W.setCell _ v).setCells b (i + 1) r).heap.size = _; rw [ih]; simp [World.setCell]
section
variable {w : World} {gK gV B0 : Nat} {VA VB : List ByteArray} {n9 : Nat} {v9 : Value} {q0 : Option Addr} {n0 c0 : Nat} {q1 : Option Addr} {n1 c1 : Nat} {X Y : World}
theorem FV.on (h : FV w gK gV B0 VA VB n9 v9 q0 n0 c0 q1 n1 c1 X) (b : Below X.heap.size X Y) : FV w gK gV B0 VA VB n9 v9 q0 n0 c0 q1 n1 c1 Y :=
  ⟨thn16 h.bel b, Nat.le_trans h.hi b.size, blk_on h.keys b, blk_on h.vals b, h.l0, h.l1, owns_on16 h.r0 b, owns_on16 h.r1 b, h.ap, h.nts.imp fun xs r => owns_on16 r b⟩
theorem FV.box (h : FV w gK gV B0 VA VB n9 v9 q0 n0 c0 q1 n1 c1 X) {b : Nat} {cs : Array Value} {fz : Nat × Nat} (hb : X.heap[b]? = some (.cells cs 30 fz)) (hw : w.heap.size ≤ b) (i : Nat) (l : List Value) : FV w gK gV B0 VA VB n9 v9 q0 n0 c0 q1 n1 c1 (X.setCells b i l) :=
  ⟨below_setCells16 hw _ _ _ h.bel, by rw [size_setCells17]; exact h.hi, (heap_setCells16 X _ _ (ne_type16 h.keys hb (by decide)) _ _).trans h.keys, (heap_setCells16 X _ _ (ne_type16 h.vals hb (by decide)) _ _).trans h.vals, h.l0, h.l1, rows_box17 hb (by decide) h.r0 l, rows_box17 hb (by decide) h.r1 l, h.ap, h.nts.imp fun xs r => rows_box17 hb (by decide) r l⟩
theorem FV.note (h : FV w gK gV B0 VA VB n9 v9 q0 n0 c0 q1 n1 c1 X) (hw : w.heap.size ≤ B0) (hg : X.grownBy Y v9.ownBlock) {m : Nat} {v' : Value} {xs : List Value} (r : Y.ownsRow B0 51 4 v' m xs) : FV w gK gV B0 VA VB m v' q0 n0 c0 q1 n1 c1 Y := by
  obtain ⟨ys, ry⟩ := h.nts
  have hk : ∀ (k : Nat) (cs : Array Value) (t : TypeId) (fz : Nat × Nat), t ≠ 51 → X.heap[k]? = some (.cells cs t fz) → Y.heap[k]? = some (.cells cs t fz) := fun k cs t fz ht hk => by
    refine (hg.block k (blk_lt hk) (fun e => ?_)).trans hk
    rcases ry.2 with ⟨hv, _⟩ | ⟨g, cap, cur, hv, hB, hg2, _⟩
    · rw [hv] at e; cases e
    · rw [hv] at e
      exact ne_type16 hk hg2 ht (Option.some.inj e)
  exact ⟨h.bel.grown hg (Nat.le_trans hw h.hi) (fun k e => Nat.le_trans hw (ry.lt k e).1), Nat.le_trans h.hi hg.size, hk _ _ _ _ (by decide) h.keys, hk _ _ _ _ (by decide) h.vals, h.l0, h.l1, owns_same16 h.r0 (fun g cs fz _ hg => hk g cs _ fz (by decide) hg), owns_same16 h.r1 (fun g cs fz _ hg => hk g cs _ fz (by decide) hg), h.ap, ⟨xs, r⟩⟩
theorem FV.note_keep (h : FV w gK gV B0 VA VB n9 v9 q0 n0 c0 q1 n1 c1 X) (hg : X.grownBy Y v9.ownBlock) {k : Nat} {cs : Array Value} {t : TypeId} {fz : Nat × Nat} (ht : t ≠ 51) (hk : X.heap[k]? = some (.cells cs t fz)) : Y.heap[k]? = some (.cells cs t fz) := by
  obtain ⟨ys, ry⟩ := h.nts
  refine (hg.block k (blk_lt hk) (fun e => ?_)).trans hk
  rcases ry.2 with ⟨hv, _⟩ | ⟨g, cap, cur, hv, hB, hg2, _⟩
  · rw [hv] at e; cases e
  · rw [hv] at e
    exact ne_type16 hk hg2 ht (Option.some.inj e)
theorem row_keep17 {B n : Nat} {v : Value} {xs : List Value} (r : X.ownsRow B 9 1 v n xs) (hg : X.grownBy Y v.ownBlock) {k : Nat} {cs : Array Value} {t : TypeId} {fz : Nat × Nat} (ht : t ≠ 9) (hk : X.heap[k]? = some (.cells cs t fz)) : Y.heap[k]? = some (.cells cs t fz) := by
  refine (hg.block k (blk_lt hk) (fun e => ?_)).trans hk
  rcases r.2 with ⟨hv, _⟩ | ⟨g, cap, cur, hv, hB, hg2, _⟩
  · rw [hv] at e; cases e
  · rw [hv] at e
    exact ne_type16 hk hg2 ht (Option.some.inj e)
theorem FV.val0 (h : FV w gK gV B0 VA VB n9 v9 q0 n0 c0 q1 n1 c1 X) (hw : w.heap.size ≤ B0) (hK : gK < B0) (hV : w.heap.size ≤ gV) (hg : X.grownBy Y (Value.slice q0 n0 c0).ownBlock) {g m c : Nat} {VA' : List ByteArray} (o : Y.ownsRow B0 9 1 (.slice (some ⟨g, 0, none⟩) m c) m (sG VA')) (hm : m = VA'.length) (l : (Value.slice q0 n0 c0).ownBlock = some g ∨ g = X.heap.size) : FV w gK gV B0 VA' VB n9 v9 (some ⟨g, 0, none⟩) m c q1 n1 c1 (Y.setCell ⟨gV, 0, none⟩ (.slice (some ⟨g, 0, none⟩) m c)) := by
  have hk : ∀ {k : Nat} {cs : Array Value} {t : TypeId} {fz : Nat × Nat}, t ≠ 9 → X.heap[k]? = some (.cells cs t fz) → Y.heap[k]? = some (.cells cs t fz) := fun ht hk => row_keep17 h.r0 hg ht hk
  have vY := hk (by decide) h.vals
  have kY : Y.heap[gK]? = some (.cells #[.string kFil, .string kLog, .string kErr, .string kOth] 9 (0, 0)) := (hg.block gK (blk_lt h.keys) (fun e => by have := (h.r0.lt gK e.symm).1; omega)).trans h.keys
  have rY : Y.ownsRow B0 9 1 (.slice q1 n1 c1) n1 (sG VB) := h.r1.kept hg (by
    cases e : (Value.slice q1 n1 c1).ownBlock with
    | none => exact Or.inl rfl
    | some k => exact Or.inr (fun e2 => h.ap k e2.symm e))
  have hs : ∀ {k : Nat} {cs : Array Value} {t : TypeId} {fz : Nat × Nat}, t ≠ 54 → Y.heap[k]? = some (.cells cs t fz) → (Y.setCell ⟨gV, 0, none⟩ (.slice (some ⟨g, 0, none⟩) m c)).heap[k]? = some (.cells cs t fz) := fun ht hk => (heap_setCell_other Y ⟨gV, 0, none⟩ _ _ (ne_type16 hk vY ht)).trans hk
  refine ⟨(h.bel.grown hg (Nat.le_trans hw h.hi) (fun k e => Nat.le_trans hw (h.r0.lt k e).1)).setCell (p := ⟨gV, 0, none⟩) hV _, ?_, hs (by decide) kY, ?_, hm, h.l1, ?_, ?_, fun k e e2 => ?_, ?_⟩
  · have := hg.size; have := h.hi; simp [World.setCell]; omega
  · have hz2 := vY
    simp [World.setCell, Array.getElem?_modify, hz2]
  · exact owns_same16 o (fun g cs fz _ hg => hs (by decide) hg)
  · exact owns_same16 rY (fun g cs fz _ hg => hs (by decide) hg)
  · have e3 : g = k := Option.some.inj e
    rcases l with l | l
    · exact h.ap k (e3 ▸ l) e2
    · have := (h.r1.lt k e2).2; omega
  · obtain ⟨ys, ry⟩ := h.nts
    exact ⟨ys, owns_same16 (owns_same16 ry (fun g cs fz _ hg => hk (by decide) hg)) (fun g cs fz _ hg => hs (by decide) hg)⟩
theorem FV.val1 (h : FV w gK gV B0 VA VB n9 v9 q0 n0 c0 q1 n1 c1 X) (hw : w.heap.size ≤ B0) (hK : gK < B0) (hV : w.heap.size ≤ gV) (hg : X.grownBy Y (Value.slice q1 n1 c1).ownBlock) {g m c : Nat} {VB' : List ByteArray} (o : Y.ownsRow B0 9 1 (.slice (some ⟨g, 0, none⟩) m c) m (sG VB')) (hm : m = VB'.length) (l : (Value.slice q1 n1 c1).ownBlock = some g ∨ g = X.heap.size) : FV w gK gV B0 VA VB' n9 v9 q0 n0 c0 (some ⟨g, 0, none⟩) m c (Y.setCell ⟨gV, 1, none⟩ (.slice (some ⟨g, 0, none⟩) m c)) := by
  have hk : ∀ {k : Nat} {cs : Array Value} {t : TypeId} {fz : Nat × Nat}, t ≠ 9 → X.heap[k]? = some (.cells cs t fz) → Y.heap[k]? = some (.cells cs t fz) := fun ht hk => row_keep17 h.r1 hg ht hk
  have vY := hk (by decide) h.vals
  have kY : Y.heap[gK]? = some (.cells #[.string kFil, .string kLog, .string kErr, .string kOth] 9 (0, 0)) := (hg.block gK (blk_lt h.keys) (fun e => by have := (h.r1.lt gK e.symm).1; omega)).trans h.keys
  have rY : Y.ownsRow B0 9 1 (.slice q0 n0 c0) n0 (sG VA) := h.r0.kept hg (by
    cases e : (Value.slice q0 n0 c0).ownBlock with
    | none => exact Or.inl rfl
    | some k => exact Or.inr (fun e2 => h.ap k e e2.symm))
  have hs : ∀ {k : Nat} {cs : Array Value} {t : TypeId} {fz : Nat × Nat}, t ≠ 54 → Y.heap[k]? = some (.cells cs t fz) → (Y.setCell ⟨gV, 1, none⟩ (.slice (some ⟨g, 0, none⟩) m c)).heap[k]? = some (.cells cs t fz) := fun ht hk => (heap_setCell_other Y ⟨gV, 1, none⟩ _ _ (ne_type16 hk vY ht)).trans hk
  refine ⟨(h.bel.grown hg (Nat.le_trans hw h.hi) (fun k e => Nat.le_trans hw (h.r1.lt k e).1)).setCell (p := ⟨gV, 1, none⟩) hV _, ?_, hs (by decide) kY, ?_, h.l0, hm, ?_, ?_, fun k e e2 => ?_, ?_⟩
  · have := hg.size; have := h.hi; simp [World.setCell]; omega
  · have hz2 := vY
    simp [World.setCell, Array.getElem?_modify, hz2]
  · exact owns_same16 rY (fun g cs fz _ hg => hs (by decide) hg)
  · exact owns_same16 o (fun g cs fz _ hg => hs (by decide) hg)
  · have e3 : g = k := Option.some.inj e2
    rcases l with l | l
    · exact h.ap k e (e3 ▸ l)
    · have := (h.r0.lt k e).2; omega
  · obtain ⟨ys, ry⟩ := h.nts
    exact ⟨ys, owns_same16 (owns_same16 ry (fun g cs fz _ hg => hk (by decide) hg)) (fun g cs fz _ hg => hs (by decide) hg)⟩
end
end Go.Proofs.YtanifiobfbfehaaGreatDoor
