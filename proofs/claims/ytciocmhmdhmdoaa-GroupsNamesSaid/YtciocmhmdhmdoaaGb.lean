/- What a group names, how deep it is, and the document's own Members, Deep. No condition. -/
import Derived.Test.YtciocmhmdhmdoaaGa
namespace Go.Proofs.Ytciocmhmdhmdoaa
open Go.RowKit
set_option linter.unusedVariables false
set_option linter.unusedSimpArgs false
attribute [local go_sem ↓] Go.wp_at_zero Go.wp_at_succ

def memIn : List Gp → ByteArray → List ByteArray
  | [], _ => []
  | e :: r, s => if e.1 = s then e.2 else memIn r s
/-- What a group names. -/
def memR (s : ByteArray) : List ByteArray := memIn grpT s
theorem gT_at {k : Nat} (hk : k < 18) : grpT[k]? = some (gN k, gL k) := by
  have h : k < grpT.length := hk
  unfold gN gL
  rw [List.getElem?_eq_getElem h, List.getD_eq_getElem?_getD, List.getElem?_eq_getElem h]; rfl
theorem mem_at {k : Nat} (hk : k < 18) (s : ByteArray) : memIn (grpT.drop k) s = if gN k = s then gL k else memIn (grpT.drop (k + 1)) s := by
  obtain ⟨h, e⟩ := List.getElem?_eq_some_iff.1 (gT_at hk)
  rw [List.drop_eq_getElem_cons h, e]; rfl
theorem mem_from : ∀ (l : List Gp) (s : ByteArray), memIn l s = [] ∨ ∃ e ∈ l, memIn l s = e.2
  | [], s => Or.inl rfl
  | e :: r, s => by
    unfold memIn
    split
    · exact Or.inr ⟨e, List.mem_cons_self .., rfl⟩
    · rcases mem_from r s with h | ⟨x, hx, h⟩
      · exact Or.inl h
      · exact Or.inr ⟨x, List.mem_cons_of_mem _ hx, h⟩
/-- Names lie in memory, as a slice says it. -/
def StrsAt (w : World) (v : Value) (l : List ByteArray) : Prop := ∃ q c, v = .slice q l.length c ∧ ∀ k s, l[k]? = some s → ∃ g o, q = some ⟨g, o, none⟩ ∧ w.cell? ⟨g, o + k, none⟩ = some (.string s)
theorem StrsAt.on {w w' : World} {v : Value} {l : List ByteArray} (h : StrsAt w v l) (hb : Below w.heap.size w w') : StrsAt w' v l := by
  obtain ⟨q, c, rfl, hr⟩ := h
  refine ⟨q, c, rfl, fun k s hk => ?_⟩
  obtain ⟨g, o, rfl, hc⟩ := hr k s hk
  exact ⟨g, o, rfl, (hb.cell (World.block_lt_of_cell? w _ hc)).trans hc⟩
theorem StrsAt.nil (w : World) : StrsAt w (.slice none 0 0) [] := ⟨none, 0, rfl, fun k s h => by simp at h⟩
theorem StrsAt.form {w : World} {v : Value} {l : List ByteArray} (h : StrsAt w v l) (h0 : 0 < l.length) : ∃ g o c, v = .slice (some ⟨g, o, none⟩) l.length c ∧ ∀ k s, l[k]? = some s → w.cell? ⟨g, o + k, none⟩ = some (.string s) := by
  obtain ⟨q, c, rfl, hr⟩ := h
  obtain ⟨g, o, rfl, _⟩ := hr 0 l[0] (List.getElem?_eq_getElem h0)
  refine ⟨g, o, c, rfl, fun k s hk => ?_⟩
  obtain ⟨g', o', e, hc⟩ := hr k s hk
  cases e
  exact hc
theorem list_of_bytes11 {a b : ByteArray} (h : a.toList = b.toList) : a = b := by
  apply ByteArray.ext
  have h2 := congrArg List.toArray h
  simpa [ByteArray.toList_eq] using h2
set_option maxHeartbeats 4000000 in
theorem refMembers (s : ByteArray) (w : World) : Calls Try.prog 16 #[.string s] w fun e w' => ∃ v, e = .returned v ∧ StrsAt w' v (memR s) ∧ Below w.heap.size w w' ∧ (∀ g, v.ownBlock = some g → w.heap.size ≤ g) := by
  have HT := Lib.hid (table_g w)
  have HD := Lib.hid (show memIn (grpT.drop 0) s = memR s from rfl)
  obtain ⟨r, hr⟩ : ∃ r, r = memR s := ⟨_, rfl⟩
  rw [← hr] at HD ⊢
  clear hr
  go_enter Try.func16, Try.ntmps16
  go_wp2_with (go_at_call 11; ((with_reducible refine (HT.out).mono ?_); rintro e W ⟨rfl, t1, b1⟩); have HC := Lib.hid t1; have B1 := Lib.hid b1; clear t1 b1)
  clear HT
  go_loop [4] (fun i => ∃ k : Nat, k ≤ 18 ∧ i = .int .i64 k ∧ Hid (memIn (grpT.drop k) s = r)) (fun i => 18 - (intOf i).toNat)
  case atStart => exact ⟨0, by omega, rfl, HD⟩
  case round =>
    obtain ⟨k, hk, rfl, hm⟩ := hrel
    by_cases hlt : k < 18
    · have c0 := HC.out.name k hlt
      have c1 := HC.out.row k hlt
      have HX := Lib.hid (HC.out.has k hlt)
      have HA := Lib.hid (mem_at hlt s)
      have k1 : (k : Int) < 18 := by omega
      have k0 : (0 : Int) ≤ k := by omega
      obtain ⟨x, hx⟩ : ∃ x, x = gN k := ⟨_, rfl⟩
      obtain ⟨y, hy⟩ : ∃ y, y = gL k := ⟨_, rfl⟩
      rw [← hx] at c0 HA
      rw [← hy] at c1 HA HX
      obtain ⟨n, hn⟩ : ∃ n, n = y.length := ⟨_, rfl⟩
      have HN := Lib.hid hn
      rw [← hn] at c1
      clear hx hy hn
      by_cases hs : x = s
      · subst hs
        have hv := Lib.hid (show r = y by rw [← hm.out, HA.out, if_pos rfl])
        have t1 : (x.toList == x.toList) = true := by simp
        clear HA hm
        go_wp2
        go_ret
        refine ⟨_, rfl, ?_, B1.out, fun g hg => Option.some.inj hg ▸ Nat.le_add_right _ _⟩
        rw [hv.out, HN.out]
        exact ⟨_, _, rfl, fun i z hi => ⟨_, _, rfl, by rw [Nat.zero_add]; exact HX.out i z hi⟩⟩
      · have hv := Lib.hid (show memIn (grpT.drop (k + 1)) s = r by rw [← hm.out, HA.out, if_neg hs])
        have hb : (x.toList == s.toList) = false := beq_eq_false_iff_ne.2 (fun e => hs (list_of_bytes11 e))
        clear HA hm hs
        go_wp2
        go_round
        case rel => exact ⟨k + 1, by omega, by go_num, hv⟩
        case measure => simp [intOf]; omega
    · obtain rfl : k = 18 := by omega
      have hv := Lib.hid (show r = [] from hm.out.symm)
      go_wp2
      go_ret
      exact ⟨_, rfl, by rw [hv.out]; exact StrsAt.nil _, B1.out, fun g hg => by cases hg⟩

def upD (f : ByteArray → Nat) (n : Nat) (t : ByteArray) : Nat := if n < f t + 1 then f t + 1 else n
def deepF : Nat → ByteArray → Nat
  | 0, _ => 0
  | k + 1, s => (memR s).foldl (upD (deepF k)) 0
/-- How deep a group is. -/
def deepR (s : ByteArray) : Nat := deepF 6 s
theorem up_le (f : ByteArray → Nat) (b : Nat) : ∀ (l : List ByteArray), (∀ t ∈ l, f t + 1 ≤ b) → ∀ a, a ≤ b → l.foldl (upD f) a ≤ b
  | [], _, a, h => h
  | t :: r, hl, a, h => up_le f b r (fun t ht => hl t (List.mem_cons_of_mem _ ht)) _ (by
      unfold upD
      split
      · exact hl t (List.mem_cons_self ..)
      · exact h)
theorem deepF_le : ∀ k s, deepF k s ≤ k
  | 0, _ => Nat.le_refl _
  | k + 1, s => up_le _ _ _ (fun t _ => Nat.succ_le_succ (deepF_le k t)) 0 (Nat.zero_le _)
theorem deep_le (s : ByteArray) : deepR s ≤ 6 := deepF_le 6 s
theorem up_congr {f g : ByteArray → Nat} : ∀ {l : List ByteArray}, (∀ t ∈ l, f t = g t) → ∀ a, l.foldl (upD f) a = l.foldl (upD g) a
  | [], _, _ => rfl
  | t :: r, h, a => by
    rw [List.foldl_cons, List.foldl_cons, up_congr (fun t ht => h t (List.mem_cons_of_mem _ ht))]
    unfold upD
    rw [h t (List.mem_cons_self ..)]
theorem deep_tab : (grpT.all fun e => e.2.all fun t => decide (deepF 6 t = deepF 5 t) && decide (deepF 6 t < e.2.foldl (upD (deepF 6)) 0)) = true := by kernel_rfl
theorem deep_step (s : ByteArray) : deepR s = (memR s).foldl (upD deepR) 0 := by
  show (memR s).foldl (upD (deepF 5)) 0 = _
  refine up_congr (fun t ht => ?_) 0
  rcases mem_from grpT s with h | ⟨e, he, h⟩
  · rw [show memR s = [] from h] at ht; cases ht
  · rw [show memR s = e.2 from h] at ht
    have := List.all_eq_true.1 (List.all_eq_true.1 deep_tab e he) t ht
    simp only [Bool.and_eq_true, decide_eq_true_eq] at this
    exact this.1.symm
theorem deep_lt {s t : ByteArray} (ht : t ∈ memR s) : deepR t < deepR s := by
  rw [deep_step s]
  rcases mem_from grpT s with h | ⟨e, he, h⟩
  · rw [show memR s = [] from h] at ht; cases ht
  · rw [show memR s = e.2 from h] at ht ⊢
    have := List.all_eq_true.1 (List.all_eq_true.1 deep_tab e he) t ht
    simp only [Bool.and_eq_true, decide_eq_true_eq] at this
    exact this.2
theorem deep_none {s : ByteArray} (h : memR s = []) : deepR s = 0 := by rw [deep_step, h]; rfl
def deepTo (l : List ByteArray) (k : Nat) : Nat := (l.take k).foldl (upD deepR) 0
theorem deepTo_step {l : List ByteArray} {k : Nat} {t : ByteArray} (h : l[k]? = some t) : deepTo l (k + 1) = upD deepR (deepTo l k) t := by
  unfold deepTo
  rw [List.take_add_one, h, List.foldl_append]; rfl
theorem deepTo_le (l : List ByteArray) (k : Nat) : deepTo l k ≤ 7 := up_le _ _ _ (fun t _ => Nat.succ_le_succ (deep_le t)) 0 (Nat.zero_le _)
set_option maxHeartbeats 4000000 in
theorem refDeep_at (s : ByteArray) (w : World) (ih : ∀ t ∈ memR s, ∀ W, Calls Try.prog 14 #[.string t] W fun e w' => e = .returned (.int .i64 (deepR t : Nat)) ∧ Below W.heap.size W w') :
    Calls Try.prog 14 #[.string s] w fun e w' => e = .returned (.int .i64 (deepR s : Nat)) ∧ Below w.heap.size w w' := by
  have HM := Lib.hid (refMembers s w)
  have HI := Lib.hid ih
  have HV := Lib.hid (show deepTo (memR s) (memR s).length = deepR s by rw [deep_step]; unfold deepTo; rw [List.take_length])
  obtain ⟨dp, hdp⟩ : ∃ d, d = deepR s := ⟨_, rfl⟩
  rw [← hdp] at HV ⊢
  obtain ⟨L, hL⟩ : ∃ L, L = memR s := ⟨_, rfl⟩
  rw [← hL] at HM HI HV
  obtain ⟨n, hn⟩ : ∃ n, n = L.length := ⟨_, rfl⟩
  have HN := Lib.hid hn
  have hn2 : L.length ≤ 8 := by
    rw [hL]
    rcases mem_from grpT s with h | ⟨e, he, h⟩
    · rw [show memR s = [] from h]; exact Nat.zero_le _
    · rw [show memR s = e.2 from h]
      exact of_decide_eq_true (List.all_eq_true.1 (show (grpT.all fun e => decide (e.2.length ≤ 8)) = true by kernel_rfl) e he)
  rw [← hn] at HV hn2
  clear ih hdp hL hn
  go_enter Try.func14, Try.ntmps14
  go_wp2_with (go_at_call 16; ((with_reducible refine (HM.out).mono ?_); rintro e W ⟨v, rfl, t1, b1, _⟩); obtain ⟨q, c, rfl, t2⟩ := t1; rw [← HN.out]; have HC := Lib.hid t2; have B1 := Lib.hid b1; clear t2 b1)
  clear HM
  go_loopw [4, 5] (fun v4 v5 wr => ∃ k : Nat, k ≤ n ∧ v5 = .int .i64 k ∧ v4 = .int .i64 (deepTo L k : Nat) ∧ Hid (Below W.heap.size W wr)) (fun _ v5 _ => n - (intOf v5).toNat)
  case atStart => exact ⟨0, by omega, rfl, rfl, Lib.hid (Below.refl _ _)⟩
  case round =>
    obtain ⟨k, hk, rfl, rfl, PB⟩ := hrel
    obtain ⟨V, rfl⟩ : ∃ wo : World, wo = wr := ⟨_, rfl⟩
    by_cases hlt : k < n
    · have hx : L[k]? = some (L[k]'(by rw [← HN.out]; exact hlt)) := List.getElem?_eq_getElem _
      obtain ⟨t, ht⟩ : ∃ t, t = L[k]'(by rw [← HN.out]; exact hlt) := ⟨_, rfl⟩
      rw [← ht] at hx
      obtain ⟨g, o, rfl, hc⟩ := HC.out k t hx
      have c0 := (PB.out.cell (World.block_lt_of_cell? W _ hc)).trans hc
      have HR := Lib.hid (HI.out t (List.mem_of_getElem? hx))
      have HS := Lib.hid (deepTo_step hx)
      have d1 := deep_le t
      have d2 := deepTo_le L k
      obtain ⟨d, hd⟩ : ∃ d, d = deepR t := ⟨_, rfl⟩
      obtain ⟨m, hm⟩ : ∃ m, m = deepTo L k := ⟨_, rfl⟩
      have HS2 := Lib.hid (show deepTo L (k + 1) = if m < d + 1 then d + 1 else m by rw [hm, hd]; exact HS.out)
      rw [← hd] at HR d1
      rw [← hm] at d2 ⊢
      have k1 : (k : Int) < n := by omega
      have k0 : (0 : Int) ≤ k := by omega
      have u1 : IntKind.i64.wrap ((d : Int) + 1) = d + 1 := by rw [IntKind.wrap_i64]; omega
      have hsz := PB.out.size
      clear hx ht hc hd hm HS
      by_cases hc : m < d + 1
      · have hv := Lib.hid (show deepTo L (k + 1) = d + 1 by rw [HS2.out, if_pos hc])
        have c2 : (m : Int) < d + 1 := by omega
        clear HS2 hc
        go_wp2_with (go_at_call 14; ((with_reducible refine (HR.out _).mono ?_); rintro e X ⟨rfl, b2⟩); have B2 := Lib.hid (PB.out.trans (b2.mono hsz)); clear b2)
        go_roundw
        case rel => exact ⟨k + 1, by omega, by go_num, by rw [hv.out]; rfl, B2⟩
        case measure => simp [intOf]; omega
      · have hv := Lib.hid (show deepTo L (k + 1) = m by rw [HS2.out, if_neg hc])
        have c2 : ¬ (m : Int) < d + 1 := by omega
        clear HS2 hc
        go_wp2_with (go_at_call 14; ((with_reducible refine (HR.out _).mono ?_); rintro e X ⟨rfl, b2⟩); have B2 := Lib.hid (PB.out.trans (b2.mono hsz)); clear b2)
        go_roundw
        case rel => exact ⟨k + 1, by omega, by go_num, by rw [hv.out], B2⟩
        case measure => simp [intOf]; omega
    · obtain rfl : k = n := by omega
      have k1 : ¬ (k : Int) < k := by omega
      go_wp2
      go_ret
      exact ⟨by rw [HV.out]; rfl, B1.out.trans (PB.out.mono B1.out.size)⟩
theorem refDeep (s : ByteArray) (w : World) : Calls Try.prog 14 #[.string s] w fun e w' => e = .returned (.int .i64 (deepR s : Nat)) ∧ Below w.heap.size w w' := by
  have key : ∀ n s, deepR s ≤ n → ∀ w, Calls Try.prog 14 #[.string s] w fun e w' => e = .returned (.int .i64 (deepR s : Nat)) ∧ Below w.heap.size w w' := by
    intro n
    induction n with
    | zero => exact fun s h w => refDeep_at s w fun t ht => absurd (deep_lt ht) (by omega)
    | succ n ih => exact fun s h w => refDeep_at s w fun t ht W => ih t (by have := deep_lt ht; omega) W
  exact key _ s (Nat.le_refl _) w
end Go.Proofs.Ytciocmhmdhmdoaa
