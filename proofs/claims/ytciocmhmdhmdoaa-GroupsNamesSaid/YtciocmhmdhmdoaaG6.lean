/- The landed groups.Expand: what a group has; and that the landed package's calls return what the chapter says. No condition. -/
import Derived.Test.YtciocmhmdhmdoaaG5
import Derived.Laws.EntriesVeiled
namespace Go.Proofs.Ytciocmhmdhmdoaa
open Go.RowKit
set_option linter.unusedVariables false
set_option linter.unusedSimpArgs false
attribute [local go_sem ↓] Go.wp_at_zero Go.wp_at_succ

theorem exp_world (W : World) (s : ByteArray) (B : Nat) (t1 t3 t4 : TypeId) (u : Value) (hT : TabH W B) (hu : u = .func (.func 21) #[] #[.pointer (some ⟨W.heap.size + 1, 0, none⟩), .pointer (some ⟨W.heap.size + 1 + 1, 0, none⟩), .pointer (some ⟨W.heap.size, 0, none⟩)]) :
    XBox ((((W.alloc (.cells #[.slice (some ⟨B + 18, 0, none⟩) 18 18] t1)).alloc (.cells #[.slice none 0 0] 22)).alloc (.cells #[u] t3)).alloc (.cells #[.string s] t4)) (W.heap.size + 1 + 1 + 1 + 1) B (W.heap.size + 1) (W.heap.size + 1 + 1) W.heap.size [] ∧ NamesIn (W.heap.size + 1 + 1 + 1 + 1) (W.heap.size + 1) ((((W.alloc (.cells #[.slice (some ⟨B + 18, 0, none⟩) 18 18] t1)).alloc (.cells #[.slice none 0 0] 22)).alloc (.cells #[u] t3)).alloc (.cells #[.string s] t4)) (.slice (some ⟨W.heap.size + 1 + 1 + 1, 0, none⟩) 1 1) [s] ∧ Below W.heap.size W ((((W.alloc (.cells #[.slice (some ⟨B + 18, 0, none⟩) 18 18] t1)).alloc (.cells #[.slice none 0 0] 22)).alloc (.cells #[u] t3)).alloc (.cells #[.string s] t4)) := by
  obtain ⟨X, hX⟩ : ∃ X, X = W.alloc (.cells #[.slice (some ⟨B + 18, 0, none⟩) 18 18] t1) := ⟨_, rfl⟩
  obtain ⟨Y, hY⟩ : ∃ Y, Y = X.alloc (.cells #[.slice none 0 0] 22) := ⟨_, rfl⟩
  obtain ⟨Z, hZ⟩ : ∃ Z, Z = Y.alloc (.cells #[u] t3) := ⟨_, rfl⟩
  obtain ⟨U, hU⟩ : ∃ U, U = Z.alloc (.cells #[.string s] t4) := ⟨_, rfl⟩
  rw [← hX, ← hY, ← hZ, ← hU]
  have sX : X.heap.size = W.heap.size + 1 := by rw [hX, World.size_alloc]
  have sY : Y.heap.size = W.heap.size + 1 + 1 := by rw [hY, World.size_alloc, sX]
  have sZ : Z.heap.size = W.heap.size + 1 + 1 + 1 := by rw [hZ, World.size_alloc, sY]
  have sU : U.heap.size = W.heap.size + 1 + 1 + 1 + 1 := by rw [hU, World.size_alloc, sZ]
  have b1 : Below W.heap.size W X := by rw [hX]; exact (Below.refl _ W).alloc (Nat.le_refl _) _
  have b2 : Below X.heap.size X Y := by rw [hY]; exact (Below.refl _ X).alloc (Nat.le_refl _) _
  have b3 : Below Y.heap.size Y Z := by rw [hZ]; exact (Below.refl _ Y).alloc (Nat.le_refl _) _
  have b4 : Below Z.heap.size Z U := by rw [hU]; exact (Below.refl _ Z).alloc (Nat.le_refl _) _
  have r1 : X.heap[W.heap.size]? = some (.cells #[.slice (some ⟨B + 18, 0, none⟩) 18 18] t1 (0, 0)) := by rw [hX]; exact heap_alloc_new W _
  have r2 : Y.heap[W.heap.size + 1]? = some (.cells #[.slice none 0 0] 22 (0, 0)) := by rw [hY, ← sX]; exact heap_alloc_new X _
  have r3 : Z.heap[W.heap.size + 1 + 1]? = some (.cells #[u] t3 (0, 0)) := by rw [hZ, ← sY]; exact heap_alloc_new Y _
  have r4 : U.heap[W.heap.size + 1 + 1 + 1]? = some (.cells #[.string s] t4 (0, 0)) := by rw [hU, ← sZ]; exact heap_alloc_new Z _
  have b34 : Below Y.heap.size Y U := thnH b3 b4
  have b24 : Below X.heap.size X U := thnH b2 b34
  have b0 : Below W.heap.size W U := thnH b1 b24
  have hlt := hT.lt
  refine ⟨⟨hT.next b0, by omega, ?_, ?_, .slice none 0 0, (b34.block _ (by omega)).trans r2, World.ownsRow_nil _ _ _ _⟩, ⟨_, _, rfl, fun k x hk => ⟨_, _, rfl, ?_, by omega, by omega⟩⟩, b0⟩
  · rw [cell_of_row U _ _ _ _ (0, 0) ((b24.block _ (by omega)).trans r1)]; rfl
  · rw [cell_of_row U _ _ _ _ (0, 0) ((b4.block _ (by omega)).trans r3), hu]; rfl
  · rw [cell_of_row U _ _ _ _ (0, 0) r4]
    cases k with
    | zero => have := Option.some.inj hk; subst this; rfl
    | succ k => simp at hk
theorem exp_tab : (grpT.all fun e => decide (4 < deepR e.1) || (decide ((isortS ((exF 8 [e.1]).map bL)).Pairwise fun a b => leS a b = true) && decide (Lib.compact (isortS ((exF 8 [e.1]).map bL)) = (expL e.1).map bL) && decide (0 < (exF 8 [e.1]).length) && decide ((exF 8 [e.1]).length ≤ 900))) = true := by kernel_rfl
theorem exp_at {s : ByteArray} (h : memR s ≠ []) (hd : ¬ 4 < deepR s) : Lib.compact (((exF 8 [s]).map bL).mergeSort leS) = (expL s).map bL ∧ 0 < (exF 8 [s]).length ∧ (exF 8 [s]).length ≤ 900 := by
  obtain ⟨e, he, rfl⟩ := mem_some h
  have := List.all_eq_true.1 exp_tab e he
  simp only [Bool.or_eq_true, Bool.and_eq_true, decide_eq_true_eq] at this
  rcases this with h1 | h1
  · exact absurd h1 hd
  · rw [sorted_S h1.1.1.1]; exact ⟨h1.1.1.2, h1.1.2, h1.2⟩
theorem KX.below {f base : Nat} {w w' : World} {b : Nat} (h : KX base f w w') (h1 : b ≤ base) (h2 : b ≤ f) : Below b w w' := ⟨h.os, h.tape, h.output, h.size, fun k hk => h.block k (by omega) (by omega)⟩
theorem own_form {w : World} {B n : Nat} {t : TypeId} {v : Value} {xs : List Value} (h : w.ownsRow B t 1 v n xs) (h0 : 0 < n) : ∃ g cap, v = .slice (some ⟨g, 0, none⟩) n cap ∧ n ≤ cap ∧ B ≤ g := by
  rcases h.2 with ⟨_, e⟩ | ⟨g, cap, cur, hv, hg, _, hc, _⟩
  · omega
  · exact ⟨g, cap, hv, hc, hg⟩
abbrev Holds11 (V : World) (g : Nat) (s : ByteArray) : Prop := Sort.Holds encStr V g 0 (((exF 8 [s]).map bL).mergeSort leS).toArray
theorem comp_at (s : ByteArray) (hx : Lib.compact (((exF 8 [s]).map bL).mergeSort leS) = (expL s).map bL) (V : World) (B g cap n : Nat) (hn : n = (exF 8 [s]).length) (hH : Holds11 V g s) (hg : B ≤ g) (hV : g < V.heap.size) (hcap : n ≤ cap) (hl : n ≤ 900) :
    Calls Try.prog 24 #[.slice (some ⟨g, 0, none⟩) n cap] V fun e w' => ∃ m, e = .returned (.slice (some ⟨g, 0, none⟩) m cap) ∧ StrsAt w' (.slice (some ⟨g, 0, none⟩) m cap) (expL s) ∧ Below B V w' := by
  refine (comp_S V B g cap n (((exF 8 [s]).map bL).mergeSort leS) (by rw [List.length_mergeSort, List.length_map, hn]) hH hg hV hcap (by omega)).mono ?_
  rintro e w' ⟨rfl, hc, b⟩
  rw [hx] at hc
  refine ⟨_, rfl, ⟨_, _, by rw [hx, List.length_map], fun k x hk => ⟨g, 0, rfl, ?_⟩⟩, b⟩
  rw [hc k (bL x) (by rw [List.getElem?_map, hk]; rfl), enc_bL]
theorem deep_pos {s : ByteArray} (h : memR s ≠ []) : 0 < deepR s := by have := dp_at h; omega
set_option maxHeartbeats 4000000 in
theorem exp_none (s : ByteArray) (w : World) (h : memR s = []) : Calls Try.prog 7 #[.string s] w fun e w' => ∃ v, e = .returned (.tuple #[v, .int .i64 110]) ∧ StrsAt w' v [] ∧ Below w.heap.size w w' := by
  have HD := Lib.hid (deep_l s w)
  rw [deep_none h] at HD
  clear h
  go_enter Try.func7, Try.ntmps7
  go_wp2_with (go_at_call 13; ((with_reducible refine (HD.out).mono ?_); rintro e W ⟨rfl, b1⟩))
  go_ret2
  exact ⟨_, rfl, StrsAt.nil _, b1⟩
set_option maxHeartbeats 4000000 in
theorem exp_deep (s : ByteArray) (w : World) (h : memR s ≠ []) (hd : 4 < deepR s) : Calls Try.prog 7 #[.string s] w fun e w' => ∃ v, e = .returned (.tuple #[v, .int .i64 111]) ∧ StrsAt w' v [] ∧ Below w.heap.size w w' := by
  have HD := Lib.hid (deep_l s w)
  obtain ⟨d, hdd⟩ : ∃ d, d = deepR s := ⟨_, rfl⟩
  rw [← hdd] at HD hd
  have i1 : (4 : Int) < d := by omega
  have i2 : (d : Int) > 4 := by omega
  have i3 : ((d : Int) == 0) = false := beq_eq_false_iff_ne.2 (by omega)
  have i4 : ¬ (d : Int) = 0 := by omega
  clear h hd hdd
  go_enter Try.func7, Try.ntmps7
  go_wp2_with (go_at_call 13; ((with_reducible refine (HD.out).mono ?_); rintro e W ⟨rfl, b1⟩))
  go_ret2
  exact ⟨_, rfl, StrsAt.nil _, b1⟩
set_option maxHeartbeats 8000000 in
theorem exp_all (s : ByteArray) (w : World) (h : memR s ≠ []) (hd : ¬ 4 < deepR s) : Calls Try.prog 7 #[.string s] w fun e w' => ∃ v, e = .returned (.tuple #[v, .int .i64 0]) ∧ StrsAt w' v (expL s) ∧ Below w.heap.size w w' := by
  obtain ⟨hx1, hx2, hx3⟩ := exp_at h hd
  have HD := Lib.hid (deep_l s w)
  have HT := Lib.hid (fun W => tableH W)
  have HE := Lib.hid (fun (base B f e t : Nat) (W : World) (l : List ByteArray) (v : Value) (hX : XBox W base B f e t l) (hN : NamesIn base f W v [s]) (hl : l.length + (exF 8 [s]).length ≤ 1000) => expand_all11 base B f e t 7 [s] (fun x _ => by have := deep_le x; omega) (by show 1 ≤ 8; decide) W l v hX hN hl)
  have HS := Lib.hid (fun (V : World) (B g cap n : Nat) (hn : n = (exF 8 [s]).length) (h : V.ownsRow B 9 1 (.slice (some ⟨g, 0, none⟩) n cap) n (sG (exF 8 [s]))) (hl : n ≤ 1000000) (hB : B ≤ V.heap.size) => sort_S V B g cap n (exF 8 [s]) hn h hl hB)
  have HO := Lib.hid (fun (V : World) (B g cap n : Nat) (hn : n = (exF 8 [s]).length) (hH : Holds11 V g s) (hg : B ≤ g) (hV : g < V.heap.size) (hcap : n ≤ cap) (hl : n ≤ 900) => comp_at s hx1 V B g cap n hn hH hg hV hcap hl)
  obtain ⟨n, hn⟩ : ∃ n, n = (exF 8 [s]).length := ⟨_, rfl⟩
  have HN := Lib.hid hn
  rw [← hn] at hx2 hx3
  have H2 := Lib.hid hx2
  have HL0 := Lib.hid (show ([] : List ByteArray).length + (exF 8 [s]).length ≤ 1000 by show 0 + _ ≤ 1000; rw [← hn]; omega)
  have HM := Lib.hid (show n ≤ 1000000 by omega)
  have H3 := Lib.hid hx3
  have hp := deep_pos h
  obtain ⟨d, hdd⟩ : ∃ d, d = deepR s := ⟨_, rfl⟩
  rw [← hdd] at HD hd hp
  have i2 : ¬ (d : Int) > 4 := by omega
  have i3 : ((d : Int) == 0) = false := beq_eq_false_iff_ne.2 (by omega)
  have i4 : ¬ (d : Int) = 0 := by omega
  have i5 : (d : Int) ≤ 4 := by omega
  clear h hd hdd hx1 hx2 hx3 hn hp
  go_enter Try.func7, Try.ntmps7
  go_wp2_with (first
    | (go_at_call 13; ((with_reducible refine (HD.out).mono ?_); rintro e W0 ⟨rfl, b0⟩); have B0 := Lib.hid b0; clear b0)
    | (go_at_call 20; ((with_reducible refine (HT.out _).mono ?_); rintro e W ⟨rfl, t1, b1⟩); have T1 := Lib.hid t1; have B1 := Lib.hid (thnH B0.out b1); clear t1 b1)
    | (go_at_call 21; obtain ⟨dx, nx, bx⟩ := exp_world W s W0.heap.size _ _ _ _ T1.out rfl; ((with_reducible refine (HE.out _ _ _ _ _ _ _ _ dx nx HL0.out).mono ?_); rintro r Y ⟨rfl, x3, k3⟩); rw [List.nil_append] at x3; obtain ⟨fv, hf1, hf2⟩ := x3.found; rw [← HN.out] at hf2; obtain ⟨g, cap, rfl, hcap, hg⟩ := own_form hf2 H2.out; have y1 := (cell_of_row Y (W.heap.size + 1) 0 _ _ (0, 0) hf1).trans (show _ = some _ from rfl); have BY := Lib.hid (thnH B1.out (bx.trans (k3.below (by omega) (by omega)))); have XY := Lib.hid x3; have OY := Lib.hid hf2; have GC := Lib.hid (And.intro hcap hg); have HW := Lib.hid (show w.heap.size ≤ (W.heap.size + 1 + 1 + 1 + 1) by have := B1.out.size; omega); clear x3 hf1 hf2 hcap hg k3 bx dx nx)
    | (go_at_call 23; ((with_reducible refine (HS.out Y (W.heap.size + 1 + 1 + 1 + 1) g cap n HN.out OY.out HM.out XY.out.lt.2.2.2.2).mono ?_); rintro r Z ⟨rfl, hh, hg, bz⟩); have y2 := (bz.cell (p := ⟨W.heap.size + 1, 0, none⟩) (show W.heap.size + 1 < (W.heap.size + 1 + 1 + 1 + 1) by omega)).trans y1; have HZ := Lib.hid hh; have GZ := Lib.hid hg; have BZ := Lib.hid (BY.out.trans (bz.mono HW.out)); clear hh hg bz)
    | (go_at_call 24; ((with_reducible refine (HO.out Z (W.heap.size + 1 + 1 + 1 + 1) g cap n HN.out HZ.out GC.out.2 GZ.out GC.out.1 H3.out).mono ?_); rintro r U ⟨m, rfl, s5, b5⟩); have S5 := Lib.hid s5; have B5 := Lib.hid (BZ.out.trans (b5.mono HW.out)); clear s5 b5))
  go_ret2
  exact ⟨_, rfl, S5.out, B5.out⟩
theorem expand_l (s : ByteArray) (w : World) : Calls Try.prog 7 #[.string s] w fun e w' => ∃ v, e = .returned (.tuple #[v, .int .i64 (expE s)]) ∧ StrsAt w' v (expL s) ∧ Below w.heap.size w w' := by
  unfold expE expL
  by_cases h : memR s = []
  · rw [if_pos h, if_pos (Or.inl h)]
    exact exp_none s w h
  · rw [if_neg h]
    by_cases hd : 4 < deepR s
    · rw [if_pos hd, if_pos (Or.inr hd)]
      exact exp_deep s w h hd
    · rw [if_neg hd, if_neg (by rintro (h1 | h1); exact h h1; exact hd h1)]
      have h2 := exp_all s w h hd
      unfold expL at h2
      rw [if_neg (by rintro (h1 | h1); exact h h1; exact hd h1)] at h2
      exact h2
/-- The landed package's calls return what the chapter says. -/
theorem groupsC : GroupsC (fun _ => True) knownR where
  on := fun _ _ => trivial
  names := fun w _ => names_l w
  known := fun s w _ _ => known_l s w
  members := fun s w _ _ => members_l s w
  deep := fun s w _ _ => deep_l s w
  expand := fun s w _ _ => expand_l s w
  isCall := fun s w _ _ => known9 s w
theorem knownR_groups : ∀ k, k < 18 → knownR (gN k) = false := by decide +kernel
theorem knownR_has : ∀ j, j < 18 → expE (gN j) = 0 → ∀ x ∈ expL (gN j), knownR x = true := by decide +kernel
end Go.Proofs.Ytciocmhmdhmdoaa
