/- A text that is cut into parts, each but the last one continued, with comments between: one logical line. Plain lists, no program. -/
import Derived.Test.YtagmlphhmjdaiaaDoorLq
namespace Go.Proofs.YtagmlphhmjdaiaaDoor
set_option linter.unusedVariables false

theorem com_bs {t : List UInt8} (h : comL t = false) : comL (t ++ [92]) = false := by
  obtain ⟨A, e, hA, h0⟩ := split_while (p := blkB) t
  obtain ⟨D, hD⟩ : ∃ D, D = t.dropWhile blkB := ⟨_, rfl⟩
  have h1 : (t ++ [92]).dropWhile blkB = (D ++ [92]).dropWhile blkB := by
    conv => lhs; rw [e, List.append_assoc]
    rw [drop_blank hA, hD]
  unfold comL at h ⊢
  rw [h1]
  rw [← hD] at h h0
  cases D with
  | nil => rfl
  | cons c X =>
    rw [List.cons_append, drop_head (h0 c X rfl)]
    exact h
theorem con_bs (t : List UInt8) : conL (t ++ [92]) = true := by
  unfold conL
  rw [List.getLast?_concat]; rfl
theorem join_part {t : List UInt8} {r : List (List UInt8)} (h : comL t = false) : joinL ((t ++ [92]) :: r) = (t ++ [32] ++ (joinL r).1, (joinL r).2) := by
  conv => lhs; unfold joinL
  rw [com_bs h, if_neg (by decide), con_bs, if_pos rfl, List.dropLast_concat]
theorem join_com {s : List UInt8} {r : List (List UInt8)} (h : comL s = true) : joinL (s :: r) = joinL r := by
  conv => lhs; unfold joinL
  rw [if_pos h]
theorem join_last {t : List UInt8} {r : List (List UInt8)} (h : comL t = false) (h2 : conL t = false) : joinL (t :: r) = (t, r) := by
  conv => lhs; unfold joinL
  rw [h, if_neg (by decide), h2, if_neg (by decide)]
/-- Empty lines. -/
def repL (a : Nat) : List (List UInt8) := List.replicate a []
theorem repL_succ (a : Nat) : flatL (repL (a + 1)) = flatL (repL a) ++ [10] := by
  unfold repL
  rw [List.replicate_succ', flatL_app, flatL_one]; rfl
theorem repL_len (a : Nat) : (flatL (repL a)).length = a := by
  induction a with
  | zero => rfl
  | succ a ih => rw [repL_succ, List.length_append, ih]; rfl
theorem log_rep (N : Nat) : ∀ (a : Nat) (R : List (List UInt8)), logR N (repL a ++ R) = logR N R
  | 0, R => rfl
  | a + 1, R => by
    have e : repL (a + 1) ++ R = [] :: (repL a ++ R) := rfl
    have hj : joinL ([] :: (repL a ++ R)) = ([], repL a ++ R) := join_last rfl rfl
    rw [e, logR_none rfl (by rw [hj]; rfl), hj]
    exact log_rep N a R
/-- The lines of the parts so far, all of which are continued: B; what they come to: T. -/
structure JoinB (k : Nat) (B : List (List UInt8)) (T : List UInt8) : Prop where
  join : ∀ X, joinL (B ++ X) = (T ++ (joinL X).1, (joinL X).2)
  head : B = [] ∨ ∃ h r, B = h :: r ∧ comL h = false
  ten : ∀ s ∈ B, ∀ c ∈ s, c ≠ 10
  len : ∀ s ∈ B, s.length ≤ 61
  many : B.length ≤ 2 * k
  text : T.length ≤ 61 * k
theorem JoinB.zero : JoinB 0 [] [] := ⟨(fun X => rfl), .inl rfl, (fun s hs => by cases hs), (fun s hs => by cases hs), Nat.le_refl _, Nat.le_refl _⟩
theorem JoinB.more {k : Nat} {B : List (List UInt8)} {T t : List UInt8} (h : JoinB k B T) (ht : PlainT t) : JoinB (k + 1) (B ++ [t ++ [92]]) (T ++ (t ++ [32])) := by
  refine ⟨fun X => ?_, ?_, fun s hs => ?_, fun s hs => ?_, ?_, ?_⟩
  · rw [List.append_assoc, h.join, List.singleton_append, join_part ht.com]
    simp only [List.append_assoc]
  · rcases h.head with e | ⟨x, r, e, hx⟩
    · exact .inr ⟨t ++ [92], [], by rw [e]; rfl, com_bs ht.com⟩
    · exact .inr ⟨x, r ++ [t ++ [92]], by rw [e]; rfl, hx⟩
  · rcases List.mem_append.1 hs with hs | hs
    · exact h.ten s hs
    · rw [List.mem_singleton.1 hs]
      intro c hc
      rcases List.mem_append.1 hc with hc | hc
      · exact ht.ten c hc
      · rw [List.mem_singleton.1 hc]; decide
  · rcases List.mem_append.1 hs with hs | hs
    · exact h.len s hs
    · rw [List.mem_singleton.1 hs, List.length_append]; have := ht.len; simp; omega
  · rw [List.length_append]; have := h.many; simp; omega
  · rw [List.length_append, List.length_append]; have := h.text; have := ht.len; simp; omega
theorem JoinB.cmt {k : Nat} {B : List (List UInt8)} {T t : List UInt8} (h : JoinB k B T) (ht : PlainT t) : JoinB (k + 1) (B ++ [t ++ [92], [59]]) (T ++ (t ++ [32])) := by
  have h2 := h.more ht
  have e : B ++ [t ++ [92], [59]] = (B ++ [t ++ [92]]) ++ [[59]] := by rw [List.append_assoc]; rfl
  rw [e]
  refine ⟨fun X => ?_, ?_, fun s hs => ?_, fun s hs => ?_, ?_, h2.text⟩
  · rw [List.append_assoc, h2.join, List.singleton_append, join_com (by kernel_rfl)]
  · rcases h2.head with e | ⟨x, r, e, hx⟩
    · exact absurd e (by simp)
    · exact .inr ⟨x, r ++ [[59]], by rw [e]; rfl, hx⟩
  · rcases List.mem_append.1 hs with hs | hs
    · exact h2.ten s hs
    · rw [List.mem_singleton.1 hs]; decide
  · rcases List.mem_append.1 hs with hs | hs
    · exact h2.len s hs
    · rw [List.mem_singleton.1 hs]; decide
  · rw [List.length_append, List.length_append]; have := h.many; simp; omega
theorem JoinB.flat {k : Nat} {B : List (List UInt8)} {T : List UInt8} (h : JoinB k B T) (a : Nat) : (flatL (repL a ++ B)).length ≤ a + 124 * k := by
  rw [flatL_app, List.length_append, repL_len]
  have h1 := flatL_len 61 h.len
  have h2 : 62 * B.length ≤ 62 * (2 * k) := Nat.mul_le_mul_left _ h.many
  omega
/-- The whole text's logical line. -/
theorem spl_join {k a : Nat} {B : List (List UInt8)} {T t : List UInt8} (h : JoinB k B T) (ht : PlainT t) (hk : k ≤ 20) (ha : a < 50) : splE (flatL (repL a ++ B) ++ t) = 0 ∧ splL (flatL (repL a ++ B) ++ t) = if trimL (T ++ t) = [] then [] else [(a + 1, trimL (T ++ t))] := by
  obtain ⟨X, hX⟩ : ∃ X, X = if t = [] then [] else [t] := ⟨_, rfl⟩
  have hXl : X.length ≤ 1 := by rw [hX]; split <;> simp
  have e : linL (flatL (repL a ++ B) ++ t) = repL a ++ (B ++ X) := by
    rw [lin_flat (repL a ++ B) t (fun s hs => by
      rcases List.mem_append.1 hs with hs | hs
      · intro c hc
        have : s = [] := (List.mem_replicate.1 hs).2
        rw [this] at hc; cases hc
      · exact h.ten s hs) ht.ten, List.append_assoc, hX]
  have hl : (flatL (repL a ++ B) ++ t).length ≤ 65536 := by
    rw [List.length_append]; have := h.flat a; have := ht.len; omega
  have hr : (repL a).length = a := List.length_replicate ..
  have hN : (repL a ++ (B ++ X)).length ≤ 1000 := by
    rw [List.length_append, List.length_append, hr]; have := h.many; omega
  have hj : joinL (B ++ X) = (T ++ t, []) := by
    rw [h.join, hX]
    split
    · rename_i h0; rw [h0]; rfl
    · rw [join_last ht.com ht.con]
  refine ⟨by unfold splE; rw [if_neg (by omega), e, if_neg (by omega)], ?_⟩
  unfold splL
  rw [if_neg (by omega), e, if_neg (by omega), log_rep]
  cases hR : B ++ X with
  | nil =>
    rw [hR] at hj
    have : T ++ t = [] := (congrArg Prod.fst hj).symm
    rw [this]; rfl
  | cons s r =>
    have hc : comL s = false := by
      rcases h.head with e | ⟨x, q, e, hx⟩
      · rw [e, List.nil_append, hX] at hR
        split at hR
        · cases hR
        · injection hR with h1 _; rw [← h1]; exact ht.com
      · rw [e] at hR
        injection hR with h1 _; rw [← h1]; exact hx
    rw [hR] at hj
    by_cases h0 : trimL (T ++ t) = []
    · rw [if_pos h0, logR_none hc (by rw [hj]; exact h0), hj]; rfl
    · rw [if_neg h0, logR_some hc (by rw [hj]; exact h0), hj, List.length_append, hr, List.length_cons]
      rw [show a + (r.length + 1) - r.length = a + 1 by omega]; rfl
end Go.Proofs.YtagmlphhmjdaiaaDoor
