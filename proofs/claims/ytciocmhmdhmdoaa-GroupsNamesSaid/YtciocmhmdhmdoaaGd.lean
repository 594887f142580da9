/- A queue of names that one owns: read off the front, appended to behind; what Expand makes of a group, as a function. No condition. -/
import Derived.Test.YtciocmhmdhmdoaaGc
import Derived.ArgAppend
namespace Go.Proofs.Ytciocmhmdhmdoaa
open Go.RowKit
set_option linter.unusedVariables false
set_option linter.unusedSimpArgs false

/-- A queue: names in a block of one's own, room behind them. -/
def QAt (B : Nat) (w : World) (v : Value) (l : List ByteArray) : Prop := ∃ g o c, v = .slice (some ⟨g, o, none⟩) l.length c ∧ B ≤ g ∧ g < w.heap.size ∧ l.length ≤ c ∧ c ≤ maxLen ∧
  (∀ k s, l[k]? = some s → w.cell? ⟨g, o + k, none⟩ = some (.string s)) ∧
  (∀ j, j < c - l.length → (w.cell? ⟨g, o + l.length + j, none⟩).isSome = true ∧ w.frozen? ⟨g, o + l.length + j, none⟩ = false)
theorem QAt.kept {B : Nat} {w w' : World} {v : Value} {l : List ByteArray} (h : QAt B w v l) (hs : w.heap.size ≤ w'.heap.size) (hb : ∀ g, v.ownBlock = some g → w'.heap[g]? = w.heap[g]?) : QAt B w' v l := by
  obtain ⟨g, o, c, rfl, h1, h2, h3, h4, h5, h6⟩ := h
  have hg := hb g rfl
  refine ⟨g, o, c, rfl, h1, Nat.lt_of_lt_of_le h2 hs, h3, h4, fun k s hk => ?_, fun j hj => ?_⟩
  · exact (World.cell?_of_block (a := ⟨g, o + k, none⟩) hg).trans (h5 k s hk)
  · rw [World.cell?_of_block (a := ⟨g, o + l.length + j, none⟩) hg, World.frozen?_of_block (a := ⟨g, o + l.length + j, none⟩) hg]
    exact h6 j hj
theorem QAt.lt {B : Nat} {w : World} {v : Value} {l : List ByteArray} (h : QAt B w v l) : ∀ g, v.ownBlock = some g → B ≤ g ∧ g < w.heap.size := by
  obtain ⟨g, o, c, rfl, h1, h2, _⟩ := h
  intro g' e
  have := Option.some.inj e
  subst this
  exact ⟨h1, h2⟩
theorem QAt.on {B : Nat} {w w' : World} {v : Value} {l : List ByteArray} (h : QAt B w v l) (hb : Below w.heap.size w w') : QAt B w' v l :=
  h.kept hb.size fun g hg => hb.block g (h.lt g hg).2
theorem QAt.own {B : Nat} {w : World} {v : Value} {l : List ByteArray} {t : TypeId} {n : Nat} (h : w.ownsRow B t 1 v n (sG l)) (hn : n = l.length) (h0 : 0 < n) : QAt B w v l := by
  subst hn
  rcases h.2 with ⟨_, h0'⟩ | ⟨g, cap, cur, rfl, hgB, hg, hc, hm, hs, ht⟩
  · omega
  · refine ⟨g, 0, cap, rfl, hgB, (Array.getElem?_eq_some_iff.1 hg).1, hc, hm, fun k s hk => ?_, fun j hj => ?_⟩
    · have hl : k < l.length := (List.getElem?_eq_some_iff.1 hk).1
      rw [Nat.zero_add, h.cellAt k (by omega)]
      exact sG_get hk
    · rw [Nat.zero_add, cell_of_row w g _ cur t (0, 0) hg]
      refine ⟨?_, h.frozenAt _⟩
      rw [Array.getElem?_eq_getElem (by omega)]; rfl
/-- The front taken off. -/
theorem QAt.tail {B : Nat} {w : World} {x : ByteArray} {l : List ByteArray} {g o c : Nat} (h : QAt B w (.slice (some ⟨g, o, none⟩) (l.length + 1) c) (x :: l)) : 1 ≤ c ∧ QAt B w (.slice (if c = 1 then some ⟨g, o, none⟩ else some ⟨g, o + 1, none⟩) l.length (c - 1)) l := by
  obtain ⟨g', o', c', e, h1, h2, h3, h4, h5, h6⟩ := h
  cases e
  rw [List.length_cons] at h3 h6
  refine ⟨by omega, ?_⟩
  by_cases hc : c = 1
  · rw [if_pos hc]
    have hl : l = [] := List.eq_nil_of_length_eq_zero (by omega)
    subst hl
    refine ⟨g, o, c - 1, rfl, h1, h2, Nat.zero_le _, by omega, fun k s hk => by simp at hk, fun j hj => ?_⟩
    simp only [List.length_nil] at hj
    omega
  · rw [if_neg hc]
    refine ⟨g, o + 1, c - 1, rfl, h1, h2, by omega, by omega, fun k s hk => ?_, fun j hj => ?_⟩
    · rw [show o + 1 + k = o + (k + 1) by omega]
      exact h5 (k + 1) s (by simpa using hk)
    · rw [show o + 1 + l.length + j = o + (l.length + 1) + j by omega]
      exact h6 j (by omega)
theorem grow_sz {w w' : World} {row : Option Nat} (h : w.grownBy w' row) : w.heap.size ≤ w'.heap.size := h.size
/-- append behind a queue: whatever room there is. -/
theorem wpList_append_q {P : Program} (w : World) {ops : Array Oper} {rest : List Oper} {op : Oper} {a : Act} {Q : Exit → Act → World → Prop}
    (hg : op.guard = none) (s x : Operand) (t e : TypeId) (hop : op.op = Op.call { callee := Callee.builtin Builtin.append, args := #[s, x], argTypes := #[t, t] })
    (i : TypeInfo) (z : Value) (h1 : P.underlying t = some (.slice e)) (h2 : P.info? e = some i) (h3 : i.zero = some z) (h4 : i.size = 1) (h5 : i.bytes = 16) (h6 : z.cells.size = 1)
    (B : Nat) (v : Value) (l : List ByteArray) (hq : QAt B w v l) (hs : a.eval s = v)
    (y : ByteArray) (ad : Addr) (c : Nat) (hx : a.eval x = .slice (some ad) 1 c) (hc : ∀ j u, (sG [y])[j]? = some u → w.cell? (ad.add j) = some u) (hl : l.length ≤ 1000) (hB : B ≤ w.heap.size)
    (h : ∀ v' w', QAt B w' v' (l ++ [y]) → w.heap.size ≤ w'.heap.size → Below B w w' → (∀ b, b < w.heap.size → v.ownBlock ≠ some b → w'.heap[b]? = w.heap[b]?) → (v'.ownBlock = v.ownBlock ∨ ∀ b, v'.ownBlock = some b → w.heap.size ≤ b) → wpList P ops Q rest (a.put op.dst v') w') :
    wpList P ops Q (op :: rest) a w := by
  obtain ⟨g, o, cap, rfl, q1, q2, q3, q4, q5, q6⟩ := hq
  have hlen : (sG l).length = l.length * 1 := by rw [sG_length, Nat.mul_one]
  refine wpList_append_arg w hg s x t hop e i z 1 16 h1 h2 h3 h4 h5 h6 (by omega) g o l.length cap (sG l) hs hlen (fun j u hj => ?_) ad 1 c (sG [y]) hx rfl hc (sG_one _) (fun hr j hj => ?_) (by unfold maxLen; omega) (by omega) (fun hr => ?_) (fun hr v' w' ho hgr => ?_)
  · unfold sG at hj
    rw [List.getElem?_map] at hj
    cases hk : l[j]? with
    | none => rw [hk] at hj; cases hj
    | some s' => rw [hk] at hj; cases hj; exact q5 j s' hk
  · have hj0 : j = 0 := by have : (sG [y]).length = 1 := rfl; omega
    subst hj0
    rw [Nat.mul_one]
    exact q6 0 (by omega)
  · have q60 := q6 0 (by omega)
    rw [Nat.mul_one]
    have hout : ∀ p : Addr, (p.block = g → p.spot = none → p.off < o + l.length ∨ o + l.length + 1 ≤ p.off) → (w.setCells g (o + l.length) (sG [y])).cell? p = w.cell? p := fun p hp => World.cell?_setCells_out g (sG [y]) (o + l.length) w p hp
    have hin := World.cell?_setCells_in g (sG [y]) (o + l.length) w (fun j hj => by
      have hj0 : j = 0 := by have : (sG [y]).length = 1 := rfl; omega
      subst hj0; exact q60.1) 0 (show 0 < (sG [y]).length from Nat.zero_lt_one)
    have hsz : w.heap.size ≤ (w.setCells g (o + l.length) (sG [y])).heap.size := ((Below.refl g w).setCell (p := ⟨g, o + l.length, none⟩) (Nat.le_refl _) (.string y)).size
    refine h _ _ ⟨g, o, cap, by rw [List.length_append]; rfl, q1, Nat.lt_of_lt_of_le q2 hsz, by rw [List.length_append]; exact hr, q4, fun k s' hk => ?_, fun j hj => ?_⟩ hsz ((Below.refl B w).setCell (p := ⟨g, o + l.length, none⟩) q1 (.string y)) (fun b hb hne => Below.heap_setCell w ⟨g, o + l.length, none⟩ (.string y) b (fun e => hne (by rw [e]; rfl))) (Or.inl rfl)
    · by_cases hkl : k < l.length
      · rw [hout ⟨g, o + k, none⟩ (fun _ _ => Or.inl (by show o + k < _; omega))]
        rw [List.getElem?_append_left hkl] at hk
        exact q5 k s' hk
      · have hk2 := (List.getElem?_eq_some_iff.1 hk).1
        rw [List.length_append, List.length_singleton] at hk2
        obtain rfl : k = l.length := by omega
        rw [List.getElem?_append_right (Nat.le_refl _), Nat.sub_self] at hk
        cases hk
        exact hin
    · rw [List.length_append, List.length_singleton] at hj ⊢
      have := q6 (j + 1) (by omega)
      rw [show o + l.length + (j + 1) = o + (l.length + 1) + j by omega] at this
      rw [hout ⟨g, o + (l.length + 1) + j, none⟩ (fun _ _ => Or.inr (by show _ ≤ o + (l.length + 1) + j; omega)), World.frozen?_setCells]
      exact this
  · rw [← sG_app] at ho
    have hgr2 : Below B w w' := (Below.refl B w).grown hgr hB (fun k hk => by cases hk)
    refine h v' w' ?_ (grow_sz hgr) hgr2 (fun b hb _ => hgr.block b hb (by intro e; cases e)) (Or.inr fun b hb => (ho.lt b hb).1)
    obtain ⟨g', o', c', r1, r2, r3⟩ := QAt.own ho (by rw [List.length_append]; rfl) (by omega)
    exact ⟨g', o', c', r1, Nat.le_trans hB r2, r3⟩

/-- One name of a group: a call goes into the list, a group behind the queue. -/
def inE (p : List ByteArray × List ByteArray) (t : ByteArray) : List ByteArray × List ByteArray := if memR t = [] then (p.1, putR p.2 t) else (p.1 ++ [t], p.2)
def stepE : List ByteArray × List ByteArray → List ByteArray × List ByteArray
  | ([], o) => ([], o)
  | (x :: r, o) => (memR x).foldl inE (r, o)
def iterE (s : ByteArray) : Nat → List ByteArray × List ByteArray
  | 0 => ([s], [])
  | k + 1 => stepE (iterE s k)
def expL (s : ByteArray) : List ByteArray := if memR s = [] ∨ 4 < deepR s then [] else (iterE s 24).2
def expE (s : ByteArray) : Int := if memR s = [] then 110 else if 4 < deepR s then 111 else 0
theorem exp_ends : (grpT.all fun e => (iterE e.1 24).1.isEmpty) = true := by kernel_rfl
theorem mem_some {l : List Gp} {s : ByteArray} (h : memIn l s ≠ []) : ∃ e ∈ l, e.1 = s := by
  induction l with
  | nil => exact absurd rfl h
  | cons e r ih =>
    unfold memIn at h
    split at h
    · rename_i hh; exact ⟨e, List.mem_cons_self .., hh⟩
    · obtain ⟨x, hx, p⟩ := ih h; exact ⟨x, List.mem_cons_of_mem _ hx, p⟩
theorem exp_end {s : ByteArray} (h : memR s ≠ []) : (iterE s 24).1 = [] := by
  obtain ⟨e, he, rfl⟩ := mem_some h
  exact List.isEmpty_iff.1 (List.all_eq_true.1 exp_ends e he)
theorem iter_done {s : ByteArray} {k : Nat} (h : (iterE s k).1 = []) : ∀ m, iterE s (k + m) = iterE s k
  | 0 => rfl
  | m + 1 => by
    show stepE (iterE s (k + m)) = _
    rw [iter_done h m]
    cases hp : iterE s k with
    | mk a b => rw [hp] at h; cases h; rfl
theorem putTo_le1 (l : List ByteArray) (s : ByteArray) : ∀ k, (putTo l s k).2.length ≤ k + 1 ∧ ((putTo l s k).1 = false → (putTo l s k).2.length ≤ k)
  | 0 => ⟨by simp [putTo], fun _ => by simp [putTo]⟩
  | k + 1 => by
    obtain ⟨h1, h2⟩ := putTo_le1 l s k
    unfold putTo
    simp only
    split
    · rename_i hh
      have := h2 hh.1
      refine ⟨?_, fun h => by cases h⟩
      split <;> simp only [List.length_append, List.length_cons, List.length_nil] <;> omega
    · refine ⟨by simp only [List.length_append, List.length_cons, List.length_nil]; omega, fun h => ?_⟩
      have := h2 h
      simp only [List.length_append, List.length_cons, List.length_nil]; omega
theorem putR_le (l : List ByteArray) (s : ByteArray) : (putR l s).length ≤ l.length + 1 := by
  obtain ⟨h1, h2⟩ := putTo_le1 l s l.length
  unfold putR
  split
  · exact h1
  · rename_i hh
    rw [List.length_append]
    exact Nat.succ_le_succ (h2 (by simpa using hh))
def szE (p : List ByteArray × List ByteArray) : Nat := p.1.length + p.2.length
theorem in_le (p : List ByteArray × List ByteArray) (t : ByteArray) : szE (inE p t) ≤ szE p + 1 := by
  unfold inE szE
  split
  · have := putR_le p.2 t; show p.1.length + (putR p.2 t).length ≤ _; omega
  · show (p.1 ++ [t]).length + p.2.length ≤ _; rw [List.length_append, List.length_singleton]; omega
theorem ins_le : ∀ (l : List ByteArray) (p), szE (l.foldl inE p) ≤ szE p + l.length
  | [], p => Nat.le_refl _
  | t :: r, p => by
    have h1 := ins_le r (inE p t)
    have h2 := in_le p t
    rw [List.foldl_cons, List.length_cons]; omega
theorem mem_le (s : ByteArray) : (memR s).length ≤ 8 := by
  rcases mem_from grpT s with h | ⟨e, he, h⟩
  · rw [show memR s = [] from h]; exact Nat.zero_le _
  · rw [show memR s = e.2 from h]
    exact of_decide_eq_true (List.all_eq_true.1 (show (grpT.all fun e => decide (e.2.length ≤ 8)) = true by kernel_rfl) e he)
theorem iter_le (s : ByteArray) : ∀ k, szE (iterE s k) ≤ 1 + 8 * k
  | 0 => Nat.le_refl _
  | k + 1 => by
    have ih := iter_le s k
    show szE (stepE (iterE s k)) ≤ _
    cases hp : iterE s k with
    | mk a b =>
      rw [hp] at ih
      cases a with
      | nil => show szE ([], b) ≤ _; unfold szE at ih ⊢; simp only at ih ⊢; omega
      | cons x r =>
        have h1 := ins_le (memR x) (r, b)
        have h2 := mem_le x
        show szE ((memR x).foldl inE (r, b)) ≤ _
        unfold szE at ih h1 ⊢
        simp only [List.length_cons] at ih h1 ⊢
        omega
/-- A round as far as so many names. -/
def midE (r o M : List ByteArray) (k : Nat) : List ByteArray × List ByteArray := (M.take k).foldl inE (r, o)
theorem mid_step {r o M : List ByteArray} {k : Nat} {t : ByteArray} (h : M[k]? = some t) : midE r o M (k + 1) = inE (midE r o M k) t := by
  unfold midE
  rw [List.take_add_one, h, List.foldl_append]; rfl
theorem mid_le (r o M : List ByteArray) (k : Nat) (hM : M.length ≤ 8) : szE (midE r o M k) ≤ r.length + o.length + 8 := by
  have := ins_le (M.take k) (r, o)
  rw [List.length_take] at this
  unfold midE
  unfold szE at this ⊢
  simp only at this
  omega
end Go.Proofs.Ytciocmhmdhmdoaa
