/- The landed Count: how many lines a file has. Condition: a file of at most 2^47 bytes. -/
import Derived.Test.YtifjnioichfodaaDoorZh
namespace Go.Proofs.YtifjnioichfodaaDoor
open Go.RowKit Go.Shelf
set_option linter.unusedVariables false
set_option linter.unusedSimpArgs false
attribute [local go_sem] Oper.semAt_some

theorem keepY_set {Ty : TypeId → Prop} {B z : Nat} (V : World) (u : Value) (h : z < B) : KeepY Ty B V (V.setCell ⟨z, 0, none⟩ u) :=
  ⟨by simp, fun k c t fz hk hc _ => (heap_setCell_other V ⟨z, 0, none⟩ k _ (show k ≠ z by omega)).trans hc⟩
set_option maxRecDepth 100000 in
set_option maxHeartbeats 8000000 in
theorem count12 (a0 : Option Addr) (n cap : Nat) (l : List UInt8) (w : World) (hl : l.length = n) (hn : n ≤ 140737488355328) (hR : RdB w w.heap.size a0 l) :
    Calls Tryd.prog 34 #[.slice a0 n cap] w fun e w' => e = .returned (.int .i64 ((linL l).length : Nat)) ∧ Below w.heap.size w w' := by
  have HNC := Lib.hid (fun W => numbered_call a0 n cap W)
  have HNG := Lib.hid (fun z W0 (hz : Boxed W0 z 22 (.slice a0 n cap)) (b : Below w.heap.size w W0) => numbered_gives z a0 n cap l W0 hz hl hn (hR.on b))
  obtain ⟨ls, hls⟩ : ∃ ls, ls = linL l := ⟨_, rfl⟩
  rw [← hls] at HNG ⊢
  clear hl hn hR hls
  refine (callsIn_wide (n := 4)).1 ?_
  refine callsIn_of_wp_marks Tryd.func34 rfl trivial ?_ rfl
  simp only [Tryd.ntmps34, List.size_toArray, List.length_cons, List.length_nil, Nat.reduceAdd, Nat.reduceSub, Array.replicate_succ, Array.replicate_zero, List.push_toArray, List.append_toArray, List.nil_append, List.cons_append]
  gi_wp2_with (first
    | (refine ⟨trivial, ?_⟩
       gi_at_call 50
       refine (callsIn_wide.2 (HNC.out _)).mono ?_
       rintro e w2 ⟨rfl, rfl⟩))
  obtain ⟨W0, hW0⟩ : ∃ W0, W0 = (w.alloc (.cells #[.int .i64 0] 3)).alloc (.cells #[.slice a0 n cap] 22) := ⟨_, rfl⟩
  have z0 : W0.heap.size = w.heap.size + 2 := by rw [hW0]; simp
  have B0 : Below w.heap.size w W0 := by rw [hW0]; exact ((Below.refl _ _).alloc (Nat.le_refl _) _).alloc (by simp) _
  have x0 : Boxed W0 w.heap.size 3 (.int .i64 ((0 : Nat) : Int)) := by rw [hW0]; exact (Boxed.new w _ _).alloc _
  have x1 : Boxed W0 (w.heap.size + 1) 22 (.slice a0 n cap) := by
    have h := Boxed.new (w.alloc (.cells #[.int .i64 0] 3)) 22 (.slice a0 n cap)
    rw [World.size_alloc] at h
    rw [hW0]; exact h
  rw [← hW0]
  have hg := HNG.out _ _ x1 B0
  clear hW0 HNC HNG x1
  refine wp_givesP (w0 := W0) (gf := 66) (lb := #[.pointer (some ⟨w.heap.size + 1, 0, none⟩)]) (Ty := TyN) (xs := pairV ls)
    rfl (enters_of Tryd.func66 (by kernel_rfl) rfl) hg (Below.refl _ _)
    (fun k V => Boxed V w.heap.size 3 (.int .i64 ((k : Nat) : Int)) ∧ Below w.heap.size w V) (fun _ _ => False)
    (fun k A C row ⟨h1, h2⟩ hg hr => ⟨boxed_grown h1 hg (fun r e => (hr r e).2), h2.grown hg h2.size (fun k e => by have := (hr k e).1; omega)⟩)
    (fun _ _ _ _ h _ _ => h)
    (fun k z V v c t fz hz hc ht ⟨h1, h2⟩ => ⟨boxed_set h1 (by omega), h2.setCell (p := ⟨z, 0, none⟩) (by show w.heap.size ≤ z; omega) v⟩)
    ⟨x0, B0⟩ ?after ?assign ?body ?done ?stop
  case assign =>
    intro lp x V K hK
    gi_wp2
    exact hK
  case body =>
    rintro lp k x V hx ⟨h1, h2⟩ hz
    obtain ⟨s, hs, rfl⟩ := pairV_at hx
    have c1 := h1.cell
    have f1 := h1.frozen
    have H1 := Lib.hid h1
    have H2 := Lib.hid h2
    clear hx hs h1 h2 hg x0
    gi_wp2
    exact ⟨(KeepsOthers.setCell _ _ _).from _, keepY_set _ _ (by omega), H1.out.set _, H2.out.setCell (p := ⟨w.heap.size, 0, none⟩) (Nat.le_refl _) _⟩
  case done =>
    rintro V ⟨h1, h2⟩ hK
    rw [pairV_len] at h1
    have c1 := h1.cell
    have HK := Lib.hid hK
    clear hg x0 h1 hK
    gi_wp2
    refine ⟨by simp, .inl ⟨_, _, rfl, run_takeDeferred HK.out, ?_⟩⟩
    exact ⟨_, results_tmp rfl _ _ _, rfl, h2.grown (grownBy_putObj' _ _ _) h2.size (fun k e => by cases e; omega)⟩
  case stop =>
    rintro k V h _
    exact h.elim
end Go.Proofs.YtifjnioichfodaaDoor
