/- What the document's own Of, Known, WithX and Code of a code and of a name return. No condition. -/
import Derived.Test.YthhfpehngdohhaaDoorIf
namespace Go.Proofs.YthhfpehngdohhaaDoor
open Go.RowKit
set_option linter.unusedVariables false

theorem onesC_get : ∀ {l : List One} {i : Nat} (h : i < l.length) (j : Nat) (hj : j < 3), (onesC l)[i * 3 + j]? = (oneC l[i])[j]?
  | a :: r, 0, _, j, hj => by
    show (oneC a ++ onesC r)[0 * 3 + j]? = _
    rw [Nat.zero_mul, Nat.zero_add, List.getElem?_append_left (by show j < 3; exact hj)]; rfl
  | a :: r, i + 1, h, j, hj => by
    show (oneC a ++ onesC r)[(i + 1) * 3 + j]? = _
    have e : (i + 1) * 3 + j = (oneC a).length + (i * 3 + j) := by show _ = 3 + _; omega
    rw [e, List.getElem?_append_right (by omega), Nat.add_sub_cancel_left]
    exact onesC_get (l := r) (i := i) (by simpa using h) j hj
/-- The three cells of an entry. -/
structure OneAt (w : World) (b o : Nat) (x : One) : Prop where
  a0 : w.cell? ⟨b, o, none⟩ = some (.int .u16 x.code)
  a1 : w.cell? ⟨b, o + 1, none⟩ = some (.string x.name)
  a2 : w.cell? ⟨b, o + 2, none⟩ = some (.int .u8 x.cls)
theorem one_at {w : World} {B g n c : Nat} {e : TypeId} {l : List One} (h : w.ownsRow B e 3 (.slice (some ⟨g, 0, none⟩) n c) n (onesC l)) {i : Nat} (hi : i < l.length) : OneAt w g (i * 3) l[i] := by
  have hl : l.length = n := by have := h.1; rw [onesC_length] at this; omega
  exact ⟨by rw [h.cellAt (i * 3) (by omega)]; exact onesC_get hi 0 (by omega), by rw [h.cellAt (i * 3 + 1) (by omega)]; exact onesC_get hi 1 (by omega), by rw [h.cellAt (i * 3 + 2) (by omega)]; exact onesC_get hi 2 (by omega)⟩
def noOne : One := ⟨0, ⟨#[]⟩, 0⟩
/-- The entry of a code; one without a name, if there is none. -/
def ofL : List One → Int → One
  | [], _ => noOne
  | o :: r, c => if o.code = c then o else ofL r c
theorem ofL_skip : ∀ {l : List One} {k : Nat} {c : Int}, (∀ o ∈ l.take k, o.code ≠ c) → ofL l c = ofL (l.drop k) c
  | l, 0, c, _ => by simp
  | [], k + 1, c, _ => by simp
  | o :: r, k + 1, c, h => by
    have h1 : o.code ≠ c := h o (by simp)
    show (if o.code = c then o else ofL r c) = _
    rw [if_neg h1]
    exact ofL_skip (l := r) (k := k) (fun x hx => h x (by simp [hx]))
theorem ofL_hit {l : List One} {k : Nat} {c : Int} (h : ∀ o ∈ l.take k, o.code ≠ c) (hk : k < l.length) (e : l[k].code = c) : ofL l c = l[k] := by
  rw [ofL_skip h, List.drop_eq_getElem_cons hk]
  show (if l[k].code = c then _ else _) = _
  rw [if_pos e]
theorem ofL_miss {l : List One} {c : Int} (h : ∀ o ∈ l, o.code ≠ c) : ofL l c = noOne := by
  rw [ofL_skip (k := l.length) (by simpa using h)]; simp [ofL]
theorem miss_step {l : List One} {k : Nat} {c : Int} (h : ∀ o ∈ l.take k, o.code ≠ c) (hk : k < l.length) (e : l[k].code ≠ c) : ∀ o ∈ l.take (k + 1), o.code ≠ c := by
  intro o ho
  rw [List.take_add_one, List.getElem?_eq_getElem hk] at ho
  rcases List.mem_append.1 ho with ho | ho
  · exact h o ho
  · simp at ho; subst ho; exact e
theorem allL_length : allL.length = 41 := by
  unfold allL
  rw [List.length_append, List.length_append, List.length_append, numP_length, jmpP_length]; rfl
theorem set3 {w : World} {b : Nat} {u0 u1 u2 v0 v1 v2 : Value} (q0 : w.cell? ⟨b, 0, none⟩ = some u0) (q1 : w.cell? ⟨b, 1, none⟩ = some u1) (q2 : w.cell? ⟨b, 2, none⟩ = some u2) :
    (((w.setCell ⟨b, 0, none⟩ v0).setCell ⟨b, 1, none⟩ v1).setCell ⟨b, 2, none⟩ v2).cell? ⟨b, 0, none⟩ = some v0 ∧
    (((w.setCell ⟨b, 0, none⟩ v0).setCell ⟨b, 1, none⟩ v1).setCell ⟨b, 2, none⟩ v2).cell? ⟨b, 1, none⟩ = some v1 ∧
    (((w.setCell ⟨b, 0, none⟩ v0).setCell ⟨b, 1, none⟩ v1).setCell ⟨b, 2, none⟩ v2).cell? ⟨b, 2, none⟩ = some v2 := by
  have n01 : (⟨b, 0, none⟩ : Addr) ≠ ⟨b, 1, none⟩ := by simp
  have n02 : (⟨b, 0, none⟩ : Addr) ≠ ⟨b, 2, none⟩ := by simp
  have n12 : (⟨b, 1, none⟩ : Addr) ≠ ⟨b, 2, none⟩ := by simp
  have s1 : (w.setCell ⟨b, 0, none⟩ v0).cell? ⟨b, 1, none⟩ = some u1 := (World.cell?_setCell_other w _ _ v0 n01).trans q1
  have s2 : ((w.setCell ⟨b, 0, none⟩ v0).setCell ⟨b, 1, none⟩ v1).cell? ⟨b, 2, none⟩ = some u2 := (World.cell?_setCell_other _ _ _ v1 n12).trans ((World.cell?_setCell_other w _ _ v0 n02).trans q2)
  refine ⟨?_, ?_, ?_⟩
  · rw [World.cell?_setCell_other _ _ _ v2 n02.symm, World.cell?_setCell_other _ _ _ v1 n01.symm]
    exact World.cell?_setCell_same w _ v0 q0
  · rw [World.cell?_setCell_other _ _ _ v2 n12.symm]
    exact World.cell?_setCell_same _ _ v1 s1
  · exact World.cell?_setCell_same _ _ v2 s2
set_option maxHeartbeats 1600000 in
theorem refOf_any (c : Int) (w : World) : Calls Tryd.prog 26 #[.int .u16 c] w fun e w' =>
    e = .returned (.agg #[.int .u16 (ofL allL c).code, .string (ofL allL c).name, .int .u8 (ofL allL c).cls]) ∧ Below w.heap.size w w' := by
  go_enter Tryd.func26, Tryd.ntmps26
  go_wp2_with (go_at_call 36
               ((with_reducible refine (refAll_any _).mono ?_); rintro e w1 ⟨g, cap, rfl, o1, b1⟩)
               have q0 := box_cells b1 0 (.int .u16 0) rfl
               have q1 := box_cells b1 1 (.string ⟨#[]⟩) rfl
               have q2 := box_cells b1 2 (.int .u8 0) rfl
               have f0 : w1.frozen? ⟨w.heap.size, 0, none⟩ = false := (b1.frozen (p := ⟨w.heap.size, 0, none⟩) (by simp)).trans (frozen_of_row _ w.heap.size 0 _ _ (heap_alloc_new w _))
               have f1 : w1.frozen? ⟨w.heap.size, 1, none⟩ = false := (b1.frozen (p := ⟨w.heap.size, 1, none⟩) (by simp)).trans (frozen_of_row _ w.heap.size 1 _ _ (heap_alloc_new w _))
               have f2 : w1.frozen? ⟨w.heap.size, 2, none⟩ = false := (b1.frozen (p := ⟨w.heap.size, 2, none⟩) (by simp)).trans (frozen_of_row _ w.heap.size 2 _ _ (heap_alloc_new w _)))
  have hb := (((Below.refl w.heap.size w).alloc (Nat.le_refl _) _).trans (b1.mono (by simp)))
  have HO := Lib.hid o1
  clear o1 b1
  go_loop [4] (fun i => ∃ k : Nat, k ≤ 41 ∧ i = .int .i64 k ∧ Hid (∀ o ∈ allL.take k, o.code ≠ c)) (fun i => 41 - (intOf i).toNat)
  case atStart => exact ⟨0, by omega, rfl, fun o ho => by simp at ho⟩
  case round =>
    obtain ⟨k, hk, rfl, hm⟩ := hrel
    by_cases hlt : k < 41
    · have hkl : k < allL.length := by rw [allL_length]; exact hlt
      have hat := one_at HO.out hkl
      obtain ⟨x, hx⟩ : ∃ x, x = allL[k] := ⟨_, rfl⟩
      have hhit := Lib.hid (show x.code = c → ofL allL c = x from fun e => by rw [hx]; exact ofL_hit hm.out hkl (by rw [← hx]; exact e))
      have hmiss := Lib.hid (show x.code ≠ c → ∀ o ∈ allL.take (k + 1), o.code ≠ c from fun e => miss_step hm.out hkl (by rw [← hx]; exact e))
      rw [← hx] at hat
      obtain ⟨a0, a1, a2⟩ := hat
      clear hx hkl
      obtain ⟨xc, xn, xk⟩ := x
      by_cases hc : xc = c
      · subst hc
        have hh := Lib.hid (hhit.out rfl)
        clear hhit hmiss hm
        go_wp2
        rw [hh.out]
        obtain ⟨r0, r1, r2⟩ := set3 (v0 := .int .u16 xc) (v1 := .string xn) (v2 := .int .u8 xk) q0 q1 q2
        refine bodyPost_ret (v := .agg #[.int .u16 xc, .string xn, .int .u8 xk]) (by simp [results, Tryd.results26, go_sem, r0, r1, r2]) rfl ⟨rfl, ?_⟩
        exact ((hb.setCell (Nat.le_refl _) _).setCell (Nat.le_refl _) _).setCell (Nat.le_refl _) _
      · have hh := Lib.hid (hmiss.out hc)
        have hcb := beq_eq_false_iff_ne.2 hc
        clear hhit hmiss hc
        go_wp2
        go_round
        case rel => exact ⟨k + 1, by omega, by go_num, hh.out⟩
        case measure => simp [intOf]; omega
    · obtain rfl : k = 41 := by omega
      have hh := Lib.hid (ofL_miss (l := allL) (c := c) (by have := hm.out; rwa [List.take_of_length_le (by rw [allL_length]; exact Nat.le_refl _)] at this))
      go_wp2
      rw [hh.out]
      obtain ⟨r0, r1, r2⟩ := set3 (v0 := .int .u16 0) (v1 := .string ⟨#[]⟩) (v2 := .int .u8 0) q0 q1 q2
      refine bodyPost_ret (v := .agg #[.int .u16 0, .string ⟨#[]⟩, .int .u8 0]) (by simp [results, Tryd.results26, go_sem, r0, r1, r2]) rfl ⟨rfl, ?_⟩
      exact ((hb.setCell (Nat.le_refl _) _).setCell (Nat.le_refl _) _).setCell (Nat.le_refl _) _
end Go.Proofs.YthhfpehngdohhaaDoor
