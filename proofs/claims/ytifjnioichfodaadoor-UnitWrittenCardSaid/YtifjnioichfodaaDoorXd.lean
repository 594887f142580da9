/- What the landed reader has come to, as it lies in memory; the closure that records a fault. Condition: a line of at most 2^27 bytes, at most 1000 notes. -/
import Derived.Test.YtifjnioichfodaaDoorXc
import Derived.Test.YtifjnioichfodaaDoorYf
import Derived.Test.YtifjnioichfodaaDoorZj
import Derived.RangeFuncBox
namespace Go.Proofs.YtifjnioichfodaaDoor
open Go.RowKit Go.Shelf
set_option linter.unusedVariables false
set_option linter.unusedSimpArgs false
attribute [local go_sem ↓] Go.wp_at_zero Go.wp_at_succ

/-- The closure that records a fault. -/
abbrev cloU (c b0 : Nat) : Value := (.func (.func 20) #[] #[.pointer (some ⟨c, 0, none⟩), .pointer (some ⟨b0, 0, none⟩)])
/-- What the reader has come to: the notes' box at c, the reader's own block behind it, rows behind both. -/
structure UAt (c b0 : Nat) (fn : ByteArray) (vN vA : Value) (st : US) (W : World) : Prop where
  box : Boxed W c 27 vN
  nts : W.ownsRow (c + 2) 47 4 vN st.nts.length (rowC encN st.nts)
  rdr : W.heap[c + 1]? = some (.cells #[.string fn, .string (bs st.sec), vA, cloU c b0] 52 (0, 0))
  asl : W.ownsRow (c + 2) 39 5 vA st.asl.length (rowC encA st.asl)
section
variable {c b0 : Nat} {fn : ByteArray} {vN vA : Value} {st : US} {W : World}
theorem UAt.size (h : UAt c b0 fn vN vA st W) : c + 2 ≤ W.heap.size := (Array.getElem?_eq_some_iff.1 h.rdr).1
theorem UAt.x0 (h : UAt c b0 fn vN vA st W) : W.cell? ⟨c + 1, 0, none⟩ = some (.string fn) := (cell_of_row W (c + 1) 0 _ _ (0, 0) h.rdr).trans rfl
theorem UAt.x1 (h : UAt c b0 fn vN vA st W) : W.cell? ⟨c + 1, 1, none⟩ = some (.string (bs st.sec)) := (cell_of_row W (c + 1) 1 _ _ (0, 0) h.rdr).trans rfl
theorem UAt.x2 (h : UAt c b0 fn vN vA st W) : W.cell? ⟨c + 1, 2, none⟩ = some vA := (cell_of_row W (c + 1) 2 _ _ (0, 0) h.rdr).trans rfl
theorem UAt.x3 (h : UAt c b0 fn vN vA st W) : W.cell? ⟨c + 1, 3, none⟩ = some (cloU c b0) := (cell_of_row W (c + 1) 3 _ _ (0, 0) h.rdr).trans rfl
theorem UAt.frz (h : UAt c b0 fn vN vA st W) (j : Nat) : W.frozen? ⟨c + 1, j, none⟩ = false := frozen_of_row W (c + 1) j _ _ h.rdr
theorem UAt.on {W' : World} (h : UAt c b0 fn vN vA st W) (b : Below W.heap.size W W') : UAt c b0 fn vN vA st W' :=
  ⟨boxed_below h.box b, owns_same h.nts fun g cs fz hg => (b.block g (Array.getElem?_eq_some_iff.1 hg).1).trans hg, (b.block _ (Array.getElem?_eq_some_iff.1 h.rdr).1).trans h.rdr, owns_same h.asl fun g cs fz hg => (b.block g (Array.getElem?_eq_some_iff.1 hg).1).trans hg⟩
theorem UAt.sec_set (h : UAt c b0 fn vN vA st W) (s : List UInt8) : UAt c b0 fn vN vA ⟨s, st.asl, st.nts⟩ (W.setCell ⟨c + 1, 1, none⟩ (.string (bs s))) := by
  have hs : ∀ (k : Nat) (cs : Array Value) (ty : TypeId) (fz : Nat × Nat), W.heap[k]? = some (.cells cs ty fz) → ty ≠ 52 → (W.setCell ⟨c + 1, 1, none⟩ (.string (bs s))).heap[k]? = some (.cells cs ty fz) := fun k cs ty fz hk hne =>
    (heap_setCell_other W ⟨c + 1, 1, none⟩ k _ (fun e => by subst e; exact obj_ne hk h.rdr hne)).trans hk
  refine ⟨hs _ _ _ _ h.box (by decide), owns_same h.nts fun g cs fz hg => hs g cs _ fz hg (by decide), ?_, owns_same h.asl fun g cs fz hg => hs g cs _ fz hg (by decide)⟩
  have hr := h.rdr
  simp [World.setCell, Array.getElem?_modify, hr]
theorem UAt.put_note {wA : World} {v' : Value} {O' : List Nte} (h : UAt c b0 fn vN vA st W) (hg : W.grownBy wA vN.ownBlock) (hO : wA.ownsRow (c + 2) 47 4 v' O'.length (rowC encN O')) :
    Boxed wA c 27 vN ∧ UAt c b0 fn v' vA ⟨st.sec, st.asl, O'⟩ (wA.setCell ⟨c, 0, none⟩ v') ∧ Below c W (wA.setCell ⟨c, 0, none⟩ v') := by
  have ka := ks_app h.nts hg
  have hb := ks_box ka h.box (notT (by decide))
  have hs : ∀ (k : Nat) (cs : Array Value) (ty : TypeId) (fz : Nat × Nat), W.heap[k]? = some (.cells cs ty fz) → ty ≠ 47 → ty ≠ 27 → (wA.setCell ⟨c, 0, none⟩ v').heap[k]? = some (.cells cs ty fz) := fun k cs ty fz hk h1 h2 =>
    (heap_setCell_other wA ⟨c, 0, none⟩ k _ (fun e => by subst e; exact obj_ne hk h.box h2)).trans (ka.2 k _ hk (notT h1))
  refine ⟨hb, ⟨hb.set v', owns_same hO fun g cs fz hg2 => (heap_setCell_other wA ⟨c, 0, none⟩ g _ (fun e => by subst e; exact obj_ne hg2 hb (by decide))).trans hg2, hs _ _ _ _ h.rdr (by decide) (by decide), owns_same h.asl fun g cs fz hg2 => hs g cs _ fz hg2 (by decide) (by decide)⟩, ?_⟩
  refine ((Below.refl c W).grown hg (by have := h.size; omega) (fun k e => ?_)).setCell (p := ⟨c, 0, none⟩) (Nat.le_refl _) _
  have := (h.nts.lt k e).1
  omega
theorem UAt.put_asn {wA : World} {v' : Value} {O' : List Asn} (h : UAt c b0 fn vN vA st W) (hg : W.grownBy wA vA.ownBlock) (hO : wA.ownsRow (c + 2) 39 5 v' O'.length (rowC encA O')) :
    wA.heap[c + 1]? = some (.cells #[.string fn, .string (bs st.sec), vA, cloU c b0] 52 (0, 0)) ∧ UAt c b0 fn vN v' ⟨st.sec, O', st.nts⟩ (wA.setCell ⟨c + 1, 2, none⟩ v') ∧ Below c W (wA.setCell ⟨c + 1, 2, none⟩ v') := by
  have ka := ks_app h.asl hg
  have hb := ka.2 _ _ h.rdr (notT (by decide))
  have hs : ∀ (k : Nat) (cs : Array Value) (ty : TypeId) (fz : Nat × Nat), W.heap[k]? = some (.cells cs ty fz) → ty ≠ 39 → ty ≠ 52 → (wA.setCell ⟨c + 1, 2, none⟩ v').heap[k]? = some (.cells cs ty fz) := fun k cs ty fz hk h1 h2 =>
    (heap_setCell_other wA ⟨c + 1, 2, none⟩ k _ (fun e => by subst e; exact obj_ne hk h.rdr h2)).trans (ka.2 k _ hk (notT h1))
  refine ⟨hb, ⟨hs _ _ _ _ h.box (by decide) (by decide), owns_same h.nts fun g cs fz hg2 => hs g cs _ fz hg2 (by decide) (by decide), ?_, owns_same hO fun g cs fz hg2 => (heap_setCell_other wA ⟨c + 1, 2, none⟩ g _ (fun e => by subst e; exact obj_ne hg2 hb (by decide))).trans hg2⟩, ?_⟩
  · simp [World.setCell, Array.getElem?_modify, hb]
  · refine ((Below.refl c W).grown hg (by have := h.size; omega) (fun k e => ?_)).setCell (p := ⟨c + 1, 2, none⟩) (show c ≤ c + 1 by omega) _
    have := (h.asl.lt k e).1
    omega
end
set_option maxRecDepth 100000 in
set_option maxHeartbeats 8000000 in
theorem fault_call (c b0 : Nat) (fn : ByteArray) (vN vA : Value) (st : US) (V : World) (nr : Int) (t : List UInt8) (ht : t.length ≤ 134217728) (hO : st.nts.length ≤ 1000) (hF : V.cell? ⟨b0, 0, none⟩ = some (.string fn)) (h : UAt c b0 fn vN vA st V) :
    Calls Tryd.prog 20 #[.agg #[.int .i64 nr, .string (bs t)], .pointer (some ⟨c, 0, none⟩), .pointer (some ⟨b0, 0, none⟩)] V fun e V' => e = .returned (.tuple #[]) ∧ (∃ v', UAt c b0 fn v' vA ⟨st.sec, st.asl, st.nts ++ [⟨fn, nr, 130, bs (t.take 60)⟩]⟩ V') ∧ Below c V V' := by
  obtain ⟨j0, hj0, hy0, hy1, hy2⟩ := info_parts nte_info
  have JI := Lib.hid hj0
  have JZ0 := Lib.hid hy0
  have JZ1 := Lib.hid hy1
  have JZ2 := Lib.hid hy2
  obtain ⟨k, hk⟩ : ∃ k, k = min t.length 60 := ⟨_, rfl⟩
  have HTK := Lib.hid (show (bs t).extract 0 k = bs (t.take 60) by
    rw [bs_sub13, List.drop_zero, Nat.sub_zero, hk]
    congr 1
    rw [List.take_eq_take_iff]
    omega)
  obtain ⟨S, hS⟩ : ∃ S, S = bs t := ⟨_, rfl⟩
  have hsz : S.size = t.length := by rw [hS, bs_size]
  rw [← hS] at HTK ⊢
  have hmin : min (S.size : Int) 60 = k := by omega
  have k0 : (0 : Int) ≤ k := by omega
  have k1 : (k : Int) ≤ S.size := by omega
  have cb := h.box.cell
  have fb := h.box.frozen
  have HU := Lib.hid (h.on (ball V (.cells #[.int .i64 nr, .string S] 49)))
  have hz : c < V.heap.size := by have := h.size; omega
  have hbz : b0 < V.heap.size := World.block_lt_of_cell? V _ hF
  have HZ := Lib.hid h.size
  have HO := Lib.hid hO
  have HB1 := Lib.hid (ball V (.cells #[.int .i64 nr, .string S] 49))
  obtain ⟨X, hX⟩ : ∃ X, X = bs (t.take 60) := ⟨_, rfl⟩
  rw [← hX] at HTK ⊢
  have HN := Lib.hid (news_row (V.alloc (.cells #[.int .i64 nr, .string S] 49)) (encN ⟨fn, nr, 130, S.extract 0 k⟩) 47)
  rw [World.size_alloc] at HN
  obtain ⟨nN, hnN⟩ : ∃ n, n = st.nts.length := ⟨_, rfl⟩
  have HNN := Lib.hid hnN
  clear hj0 hy0 hy1 hy2 hk hS hsz ht hO h hX hnN
  go_enter Tryd.func20, Tryd.ntmps20
  go_wp2_with (first
    | (at_builtin
       go_loud (refine wpList_append_own _ rfl _ _ 27 rfl (c + 2) 47 j0 _ 4 48 Tryd.underlying27 JI.out JZ0.out JZ1.out JZ2.out rfl (by omega) vN _ _ rfl (HU.out.nts.alloc _) ⟨V.heap.size + 1, 0, none⟩ 1 1 (encN ⟨fn, nr, 130, S.extract 0 k⟩) rfl rfl HN.out (encN_one _) (by have := HO.out; unfold maxLen; omega) (by have := HO.out; omega) (by have := HZ.out; simp; omega) ?_)
       intro v' wA oA hA _
       obtain ⟨qA, cpA, rfl⟩ := own_form12 oA
       rw [HTK.out] at oA
       obtain ⟨q1, q2, q3⟩ := UAt.put_note (O' := st.nts ++ [⟨fn, nr, 130, X⟩]) (HU.out.on (ball _ _)) hA (by rw [List.length_append, List.length_singleton, rowC_app, rowC_one1]; exact oA)
       have cA := q1.cell
       have fA := q1.frozen
       have Q2 := Lib.hid q2
       have Q3 := Lib.hid q3
       clear oA hA q1 q2 q3))
  go_end0
  exact ⟨rfl, ⟨_, Q2.out⟩, ((HB1.out.mono (by omega)).trans ((ball _ _).mono (by simp; omega))).trans Q3.out⟩
end Go.Proofs.YtifjnioichfodaaDoor
