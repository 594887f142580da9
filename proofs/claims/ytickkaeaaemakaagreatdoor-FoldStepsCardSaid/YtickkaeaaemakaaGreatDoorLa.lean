/- Lines as the chapter says them, on lists of bytes: white space, comments, physical lines, logical lines. Plain lists and numbers, no program. What the document's own blank, Trim, Comment return. Condition: a string that lies in memory. What the document's own Lines returns: a file's lines. Condition: bytes that lie in memory, at most a million. -/
import Derived.Test.YtickkaeaaemakaaGreatDoorWd
import Derived.Laws.Strings2
import Derived.Laws.Strings3
import Derived.Laws.DeepStrings4
import Derived.Laws.IdiomStrings
import Derived.Deep.AppendLies
import Derived.Deep.DrawnRows
import Derived.RegionTactic
import Derived.BigRegion
import Derived.Laws.Concat
import Derived.Laws.Cover1
import Derived.Maps.AppendAt
import Derived.WalkSmall
namespace Go.Proofs.YtickkaeaaemakaaGreatDoor
set_option linter.unusedVariables false

/-- A string of these bytes. -/
def bs (l : List UInt8) : ByteArray := ⟨l.toArray⟩
theorem bs_app (a b : List UInt8) : bs a ++ bs b = bs (a ++ b) := by
  unfold bs
  apply ByteArray.ext
  simp [ByteArray.data_append]
theorem bs_size (l : List UInt8) : (bs l).size = l.length := by unfold bs; simp [ByteArray.size]
theorem bs_self (s : ByteArray) : bs s.data.toList = s := by unfold bs; rfl
theorem bs_list (l : List UInt8) : (bs l).data.toList = l := by unfold bs; rfl
theorem bs_inj {a b : List UInt8} (h : bs a = bs b) : a = b := by rw [← bs_list a, h, bs_list]
theorem bs_toList (l : List UInt8) : (bs l).toList = l := by rw [ByteArray.toList_eq]; unfold bs; rfl
theorem bs_get {l : List UInt8} {k : Nat} (h : k < (bs l).size) : (bs l)[k]'h = l[k]'(by rw [bs_size] at h; exact h) := by
  rfl
/-- White space. -/
def blkB (c : UInt8) : Bool := c == 32 || c == 9 || c == 13
def trimL (l : List UInt8) : List UInt8 := ((l.dropWhile blkB).reverse.dropWhile blkB).reverse
theorem drop_blank {p : UInt8 → Bool} : ∀ {A X : List UInt8}, (∀ c ∈ A, p c = true) → (A ++ X).dropWhile p = X.dropWhile p
  | [], X, _ => rfl
  | a :: A, X, h => by
    rw [List.cons_append, List.dropWhile_cons_of_pos (h a (List.mem_cons_self ..))]
    exact drop_blank fun c hc => h c (List.mem_cons_of_mem _ hc)
theorem drop_head {p : UInt8 → Bool} {a : UInt8} {X : List UInt8} (h : p a = false) : (a :: X).dropWhile p = a :: X := by
  rw [List.dropWhile_cons_of_neg (by rw [h]; decide)]
theorem trim_mid {A M B : List UInt8} (hA : ∀ c ∈ A, blkB c = true) (hB : ∀ c ∈ B, blkB c = true) (h0 : ∀ a X, M = a :: X → blkB a = false) (h1 : ∀ a X, M = X ++ [a] → blkB a = false) : trimL (A ++ (M ++ B)) = M := by
  unfold trimL
  rw [drop_blank hA]
  cases M with
  | nil =>
    have e : ([] ++ B).dropWhile blkB = [] := by
      have := drop_blank (p := blkB) (A := B) (X := []) hB
      rw [List.append_nil] at this
      rw [List.nil_append, this]; rfl
    rw [e]; rfl
  | cons a X =>
    rw [List.cons_append, drop_head (h0 a X rfl), ← List.cons_append, List.reverse_append]
    rw [drop_blank (fun c hc => hB c (List.mem_reverse.1 hc))]
    obtain ⟨Y, b, hY⟩ : ∃ Y b, a :: X = Y ++ [b] := ⟨(a :: X).dropLast, (a :: X).getLast (by simp), (List.dropLast_concat_getLast (by simp)).symm⟩
    rw [hY, List.reverse_append, List.reverse_singleton, List.singleton_append, drop_head (h1 b Y hY), List.reverse_cons, List.reverse_reverse]
/-- Every list is white space, what is trimmed, white space. -/
theorem split_while {p : UInt8 → Bool} : ∀ (l : List UInt8), ∃ A, l = A ++ l.dropWhile p ∧ (∀ c ∈ A, p c = true) ∧ ∀ a X, l.dropWhile p = a :: X → p a = false
  | [] => ⟨[], rfl, (fun c hc => by cases hc), (fun a X h => by cases h)⟩
  | a :: l => by
    by_cases h : p a = true
    · obtain ⟨A, e, hA, h0⟩ := split_while (p := p) l
      rw [List.dropWhile_cons_of_pos h]
      exact ⟨a :: A, by rw [List.cons_append, ← e], fun c hc => by rcases List.mem_cons.1 hc with rfl | hc; exact h; exact hA c hc, h0⟩
    · rw [List.dropWhile_cons_of_neg h]
      exact ⟨[], rfl, (fun c hc => by cases hc), (fun b X e => by injection e with e1 _; rw [← e1]; simpa using h)⟩
theorem trim_parts (l : List UInt8) : ∃ A B, l = A ++ (trimL l ++ B) ∧ (∀ c ∈ A, blkB c = true) ∧ (∀ c ∈ B, blkB c = true) ∧ (∀ a X, trimL l = a :: X → blkB a = false) ∧ (∀ a X, trimL l = X ++ [a] → blkB a = false) := by
  obtain ⟨A, e, hA, h0⟩ := split_while (p := blkB) l
  obtain ⟨B, e2, hB, h1⟩ := split_while (p := blkB) (l.dropWhile blkB).reverse
  have e3 : l.dropWhile blkB = trimL l ++ B.reverse := by
    have := congrArg List.reverse e2
    rw [List.reverse_reverse, List.reverse_append] at this
    exact this
  refine ⟨A, B.reverse, by rw [← e3]; exact e, hA, fun c hc => hB c (List.mem_reverse.1 hc), fun a X h => ?_, fun a X h => ?_⟩
  · exact h0 a (X ++ B.reverse) (by rw [e3, h]; rfl)
  · refine h1 a X.reverse ?_
    have : (trimL l).reverse = (l.dropWhile blkB).reverse.dropWhile blkB := by unfold trimL; rw [List.reverse_reverse]
    rw [← this, h, List.reverse_append]; rfl
theorem trim_twice (l : List UInt8) : trimL (trimL l) = trimL l := by
  obtain ⟨A, B, e, hA, hB, h0, h1⟩ := trim_parts l
  have := trim_mid (A := []) (M := trimL l) (B := []) (fun c hc => by cases hc) (fun c hc => by cases hc) h0 h1
  simpa using this
theorem trim_mem {l : List UInt8} {c : UInt8} (h : c ∈ trimL l) : c ∈ l := by
  obtain ⟨A, B, e, _⟩ := trim_parts l
  rw [e]
  exact List.mem_append_right _ (List.mem_append_left _ h)
/-- The two ends as they are found. -/
theorem trim_cut {l : List UInt8} {a b : Nat} (hab : a ≤ b) (hb : b ≤ l.length) (hA : ∀ j (h : j < l.length), j < a → blkB l[j] = true) (hB : ∀ j (h : j < l.length), b ≤ j → blkB l[j] = true)
    (h0 : a = b ∨ ∃ h : a < l.length, blkB l[a] = false) (h1 : a = b ∨ ∃ h : b - 1 < l.length, blkB l[b - 1] = false) : trimL l = (l.take b).drop a := by
  have e : l = l.take a ++ ((l.take b).drop a ++ l.drop b) := by
    have e1 : l.take a = (l.take b).take a := by rw [List.take_take, Nat.min_eq_left hab]
    rw [← List.append_assoc, e1, List.take_append_drop, List.take_append_drop]
  have := trim_mid (A := l.take a) (M := (l.take b).drop a) (B := l.drop b) (fun c hc => by
    obtain ⟨j, hj, rfl⟩ := List.mem_iff_getElem.1 hc
    rw [List.getElem_take]
    rw [List.length_take] at hj
    exact hA j (by omega) (by omega)) (fun c hc => by
    obtain ⟨j, hj, rfl⟩ := List.mem_iff_getElem.1 hc
    rw [List.getElem_drop]
    rw [List.length_drop] at hj
    exact hB (b + j) (by omega) (by omega)) (fun c X hM => by
    have hl : 0 < ((l.take b).drop a).length := by rw [hM]; simp
    rw [List.length_drop, List.length_take] at hl
    rcases h0 with h0 | ⟨h, h0⟩
    · omega
    · have : ((l.take b).drop a)[0]'(by rw [List.length_drop, List.length_take]; omega) = c := by simp [hM]
      rw [List.getElem_drop, List.getElem_take] at this
      rw [← this]; exact h0) (fun c X hM => by
    have hl : ((l.take b).drop a).length = X.length + 1 := by rw [hM]; simp
    rw [List.length_drop, List.length_take] at hl
    rcases h1 with h1 | ⟨h, h1⟩
    · omega
    · have : ((l.take b).drop a)[X.length]'(by rw [List.length_drop, List.length_take]; omega) = c := by simp [hM]
      rw [List.getElem_drop, List.getElem_take] at this
      rw [← this]
      have e3 : a + X.length = b - 1 := by omega
      simp only [e3]; exact h1)
  rw [← e] at this
  exact this
/-- Is a line a comment? -/
def comL (l : List UInt8) : Bool := match l.dropWhile blkB with | c :: _ => c == 35 || c == 59 | [] => false
theorem com_at {l : List UInt8} {k : Nat} (h : k < l.length) (hA : ∀ j (hj : j < l.length), j < k → blkB l[j] = true) (h0 : blkB l[k] = false) : comL l = (l[k] == 35 || l[k] == 59) := by
  have e : l = l.take k ++ (l[k] :: l.drop (k + 1)) := by rw [List.getElem_cons_drop, List.take_append_drop]
  unfold comL
  have : l.dropWhile blkB = l[k] :: l.drop (k + 1) := by
    conv => lhs; rw [e]
    rw [drop_blank (fun c hc => by
      obtain ⟨j, hj, rfl⟩ := List.mem_iff_getElem.1 hc
      rw [List.getElem_take]
      rw [List.length_take] at hj
      exact hA j (by omega) (by omega)), drop_head h0]
  rw [this]
theorem com_none {l : List UInt8} (hA : ∀ j (hj : j < l.length), blkB l[j] = true) : comL l = false := by
  unfold comL
  have := drop_blank (p := blkB) (A := l) (X := []) (fun c hc => by
    obtain ⟨j, hj, rfl⟩ := List.mem_iff_getElem.1 hc
    exact hA j hj)
  rw [List.append_nil] at this
  rw [this]; rfl
/-- The lines of a file. -/
def linA : List UInt8 → List UInt8 → List (List UInt8)
  | cur, [] => if cur = [] then [] else [cur]
  | cur, c :: r => if c = 10 then cur :: linA [] r else linA (cur ++ [c]) r
def linL (l : List UInt8) : List (List UInt8) := linA [] l
theorem linA_len : ∀ (cur l : List UInt8), (linA cur l).length ≤ l.length + 1
  | cur, [] => by unfold linA; split <;> simp
  | cur, c :: r => by
    unfold linA
    split
    · have := linA_len [] r; simp; omega
    · have := linA_len (cur ++ [c]) r; simp; omega
theorem linL_len (l : List UInt8) : (linL l).length ≤ l.length := by
  unfold linL
  suffices h : ∀ (cur l : List UInt8), (linA cur l).length ≤ l.length + (if cur = [] then 0 else 1) by simpa using h [] l
  intro cur l
  induction l generalizing cur with
  | nil => unfold linA; split <;> simp
  | cons c r ih =>
    unfold linA
    split
    · have := ih []; simp at this; simp; omega
    · have := ih (cur ++ [c]); simp at this; simp; split <;> omega
theorem linA_mem : ∀ (cur l : List UInt8), (∀ c ∈ cur, c ≠ 10) → ∀ s ∈ linA cur l, (∀ c ∈ s, c ≠ 10) ∧ s.length ≤ cur.length + l.length
  | cur, [], h, s, hs => by
    unfold linA at hs
    split at hs
    · cases hs
    · rw [List.mem_singleton.1 hs]; exact ⟨h, by omega⟩
  | cur, c :: r, h, s, hs => by
    unfold linA at hs
    split at hs
    · rcases List.mem_cons.1 hs with rfl | hs
      · exact ⟨h, by omega⟩
      · have := linA_mem [] r (fun c hc => by cases hc) s hs
        exact ⟨this.1, by have := this.2; simp at this; simp; omega⟩
    · rename_i hc
      have := linA_mem (cur ++ [c]) r (fun d hd => by rcases List.mem_append.1 hd with hd | hd; exact h d hd; rw [List.mem_singleton.1 hd]; exact hc) s hs
      exact ⟨this.1, by have := this.2; simp at this; simp; omega⟩
theorem linL_mem {l s : List UInt8} (h : s ∈ linL l) : (∀ c ∈ s, c ≠ 10) ∧ s.length ≤ l.length := by
  have := linA_mem [] l (fun c hc => by cases hc) s h
  exact ⟨this.1, by simpa using this.2⟩
/-- Is a line continued (if it is no comment)? -/
def conL (s : List UInt8) : Bool := s.getLast? == some 92
/-- A logical line's parts, one behind the other, and the lines behind it. -/
def joinL : List (List UInt8) → List UInt8 × List (List UInt8)
  | [] => ([], [])
  | s :: r => if comL s then joinL r else if conL s then (s.dropLast ++ [32] ++ (joinL r).1, (joinL r).2) else (s, r)
theorem join_le : ∀ (R : List (List UInt8)), (joinL R).2.length ≤ R.length
  | [] => by simp [joinL]
  | s :: r => by
    have := join_le r
    unfold joinL
    split
    · simp; omega
    · split
      · simp; omega
      · simp
theorem join_lt {s : List UInt8} {r : List (List UInt8)} (h : comL s = false) : (joinL (s :: r)).2.length ≤ r.length := by
  unfold joinL
  rw [h]
  simp only [Bool.false_eq_true, if_false]
  split
  · exact join_le r
  · exact Nat.le_refl _
/-- The logical lines: their numbers, their texts. N: how many lines there are. -/
def logL (N : Nat) : Nat → List (List UInt8) → List (Nat × List UInt8)
  | 0, _ => []
  | _ + 1, [] => []
  | f + 1, s :: r => if comL s then logL N f r else if trimL (joinL (s :: r)).1 = [] then logL N f (joinL (s :: r)).2 else (N - r.length, trimL (joinL (s :: r)).1) :: logL N f (joinL (s :: r)).2
theorem log_fuel (N : Nat) : ∀ (f g : Nat) (R : List (List UInt8)), R.length ≤ f → R.length ≤ g → logL N f R = logL N g R
  | 0, 0, _, _, _ => rfl
  | 0, g + 1, R, h, _ => by
    obtain rfl : R = [] := List.eq_nil_of_length_eq_zero (by omega)
    rfl
  | f + 1, 0, R, _, h => by
    obtain rfl : R = [] := List.eq_nil_of_length_eq_zero (by omega)
    rfl
  | f + 1, g + 1, [], _, _ => rfl
  | f + 1, g + 1, s :: r, h1, h2 => by
    simp only [List.length_cons] at h1 h2
    unfold logL
    cases hc : comL s with
    | true => simp only [if_true]; exact log_fuel N f g r (by omega) (by omega)
    | false =>
      have hj := join_lt (r := r) hc
      have := log_fuel N f g (joinL (s :: r)).2 (by omega) (by omega)
      simp only [Bool.false_eq_true, if_false, this]
def logR (N : Nat) (R : List (List UInt8)) : List (Nat × List UInt8) := logL N R.length R
theorem logR_nil (N : Nat) : logR N [] = [] := rfl
theorem logR_com {N : Nat} {s : List UInt8} {r : List (List UInt8)} (h : comL s = true) : logR N (s :: r) = logR N r := by
  unfold logR
  rw [List.length_cons]
  conv => lhs; unfold logL
  rw [h]; rfl
theorem logR_none {N : Nat} {s : List UInt8} {r : List (List UInt8)} (h : comL s = false) (ht : trimL (joinL (s :: r)).1 = []) : logR N (s :: r) = logR N (joinL (s :: r)).2 := by
  unfold logR
  rw [List.length_cons]
  conv => lhs; unfold logL
  rw [h, if_neg (by decide), if_pos ht]
  exact log_fuel N _ _ _ (join_lt h) (Nat.le_refl _)
theorem logR_some {N : Nat} {s : List UInt8} {r : List (List UInt8)} (h : comL s = false) (ht : trimL (joinL (s :: r)).1 ≠ []) : logR N (s :: r) = (N - r.length, trimL (joinL (s :: r)).1) :: logR N (joinL (s :: r)).2 := by
  unfold logR
  rw [List.length_cons]
  conv => lhs; unfold logL
  rw [h, if_neg (by decide), if_neg ht]
  exact congrArg _ (log_fuel N _ _ _ (join_lt h) (Nat.le_refl _))
def splE (l : List UInt8) : Int := if 65536 < l.length then 3 else if 1000 < (linL l).length then 4 else 0
def splL (l : List UInt8) : List (Nat × List UInt8) := if 65536 < l.length then [] else if 1000 < (linL l).length then [] else logR (linL l).length (linL l)
theorem logR_len (N : Nat) : ∀ (R : List (List UInt8)), (logR N R).length ≤ R.length := by
  suffices h : ∀ (f : Nat) (R : List (List UInt8)), (logL N f R).length ≤ R.length from fun R => h _ R
  intro f
  induction f with
  | zero => intro R; simp [logL]
  | succ f ih =>
    intro R
    cases R with
    | nil => simp [logL]
    | cons s r =>
      unfold logL
      cases hc : comL s with
      | true => simp only [if_true]; have := ih r; simp; omega
      | false =>
        have hj := join_lt (r := r) hc
        have := ih (joinL (s :: r)).2
        simp only [Bool.false_eq_true, if_false]
        split <;> simp <;> omega
theorem splL_len (l : List UInt8) : (splL l).length ≤ 1000 := by
  unfold splL
  split
  · simp
  · split
    · simp
    · have := logR_len (linL l).length (linL l); omega
end Go.Proofs.YtickkaeaaemakaaGreatDoor
namespace Go.Proofs.YtickkaeaaemakaaGreatDoor
open Go.RowKit
set_option linter.unusedVariables false
attribute [local go_sem ↓] Go.wp_at_zero Go.wp_at_succ

/-- White space, on numbers. -/
def blkI (x : Int) : Bool := x == 32 || x == 9 || x == 13
theorem blkI_nat (c : UInt8) : blkI (c.toNat : Int) = blkB c := by
  unfold blkI blkB
  have h : ∀ n : UInt8, ((c.toNat : Int) == (n.toNat : Int)) = (c == n) := fun n => by
    rw [Bool.eq_iff_iff, beq_iff_eq, beq_iff_eq, Int.ofNat_inj, UInt8.toNat_inj]
  rw [← h 32, ← h 9, ← h 13]; rfl
theorem ext_bs (s : ByteArray) (a b : Nat) : s.extract a b = bs ((s.data.toList.take b).drop a) := by
  have h := ByteArray.extract_mk s.data.toList a b
  have e : ByteArray.mk s.data.toList.toArray = s := rfl
  rw [e] at h
  rw [h, ← List.drop_take]
  rfl
theorem get_list {s : ByteArray} {k : Nat} (h : k < s.size) : s.data.toList[k]'(by simpa using h) = s[k]'h := rfl
end Go.Proofs.YtickkaeaaemakaaGreatDoor
namespace Go.Proofs.YtickkaeaaemakaaGreatDoor
open Go.RowKit
set_option linter.unusedVariables false
set_option linter.unusedSimpArgs false
attribute [local go_sem ↓] Go.wp_at_zero Go.wp_at_succ

/-- A slice of bytes can be read. -/
def RdB (w : World) (B : Nat) (p : Option Addr) (l : List UInt8) : Prop := 0 < l.length → ∃ b o, p = some ⟨b, o, none⟩ ∧ b < B ∧ ∀ i (h : i < l.length), w.cell? ⟨b, o + i, none⟩ = some (.int .u8 (l[i].toNat : Int))
theorem RdB.on {w w' : World} {p : Option Addr} {l : List UInt8} (h : RdB w w.heap.size p l) (hb : Below w.heap.size w w') : RdB w' w'.heap.size p l := fun h0 => by
  obtain ⟨b, o, rfl, hlt, hc⟩ := h h0
  exact ⟨b, o, rfl, Nat.lt_of_lt_of_le hlt hb.size, fun i hi => (hb.cell (p := ⟨b, o + i, none⟩) hlt).trans (hc i hi)⟩
/-- Strings as cells. -/
def sL (ls : List (List UInt8)) : List Value := ls.map fun s => .string (bs s)
theorem sL_length (ls : List (List UInt8)) : (sL ls).length = ls.length := List.length_map _
theorem sL_one (ls : List (List UInt8)) : ∀ u ∈ sL ls, u.oneCell' = true := fun u hu => by
  obtain ⟨s, _, rfl⟩ := List.mem_map.1 hu; rfl
theorem sL_app (a b : List (List UInt8)) : sL (a ++ b) = sL a ++ sL b := List.map_append
theorem sL_get {ls : List (List UInt8)} {k : Nat} {s : List UInt8} (h : ls[k]? = some s) : (sL ls)[k]? = some (.string (bs s)) := by
  unfold sL; rw [List.getElem?_map, h]; rfl
theorem str_info12 : (Tryz.prog.info? 9).map (fun i => (i.zero, i.size, i.bytes)) = some (some (.string ⟨#[]⟩), 1, 16) := by kernel_rfl
theorem news_s (w : World) (x : List UInt8) (t : TypeId) : ∀ j u, (sL [x])[j]? = some u → (w.alloc (.cells #[.string (bs x)] t)).cell? ((⟨w.heap.size, 0, none⟩ : Addr).add j) = some u := fun j u hu => by
  match j, hu with
  | 0, hu =>
    injection hu with hu
    subst hu
    show (w.alloc _).cell? ⟨w.heap.size, 0, none⟩ = _
    rw [cell_of_row _ _ _ _ _ (0, 0) (heap_alloc_new w _)]; rfl
  | j + 1, hu => cases hu
/-- A string of the bytes that lie in memory. -/
theorem wpList_str12 {ops : Array Oper} {rest : List Oper} {op : Oper} {A : Operand} {a : Act} {w : World} {Q : Exit → Act → World → Prop} {l : List UInt8} {p : Addr} {n cap : Nat} (hgd : op.guard = none) (ho : op.op = .convert 183 9 A)
    (hA : a.eval A = .slice (some p) n cap) (hn : n = l.length) (hc : ∀ j (hj : j < l.length), w.cell? (p.add j) = some (.int .u8 (l[j].toNat : Int)))
    (h : wpList Tryz.prog ops Q rest (a.put op.dst (.string (bs l))) w) : wpList Tryz.prog ops Q (op :: rest) a w :=
  wpList_plain hgd fun _ hK => by
    subst hn
    have hr : (execOp a.eval op).run Tryz.prog w = .ok (.value (.string (bs l))) w := by
      have := run_convert_bytes_back (P := Tryz.prog) w 183 9 5 p cap l Tryz.underlying183 Tryz.underlying5 Tryz.underlying9 hc
      unfold execOp
      rw [ho]
      simp [hA, this]
      rfl
    unfold Oper.wp; rw [hr]; exact hK _ _ h
theorem lin_cut {l : List UInt8} {P : List (List UInt8)} {i f : Nat} (hi : i < l.length) (hf : f ≤ i) (h : P ++ linA ((l.take i).drop f) (l.drop i) = linL l) (hc : l[i] = 10) : (P ++ [(l.take i).drop f]) ++ linA ((l.take (i + 1)).drop (i + 1)) (l.drop (i + 1)) = linL l := by
  rw [← h, ← List.getElem_cons_drop hi, hc]
  rw [show linA ((l.take i).drop f) (10 :: l.drop (i + 1)) = (l.take i).drop f :: linA [] (l.drop (i + 1)) from by conv => lhs; unfold linA; rw [if_pos rfl]]
  rw [show (l.take (i + 1)).drop (i + 1) = [] from List.drop_of_length_le (by rw [List.length_take]; omega), List.append_assoc]; rfl
theorem lin_go {l : List UInt8} {P : List (List UInt8)} {i f : Nat} (hi : i < l.length) (hf : f ≤ i) (h : P ++ linA ((l.take i).drop f) (l.drop i) = linL l) (hc : l[i] ≠ 10) : P ++ linA ((l.take (i + 1)).drop f) (l.drop (i + 1)) = linL l := by
  rw [← h, ← List.getElem_cons_drop hi]
  rw [show linA ((l.take i).drop f) (l[i] :: l.drop (i + 1)) = linA ((l.take i).drop f ++ [l[i]]) (l.drop (i + 1)) from by conv => lhs; unfold linA; rw [if_neg hc]]
  rw [List.take_succ_eq_append_getElem hi, List.drop_append_of_le_length (by rw [List.length_take]; omega)]
theorem lin_end {l : List UInt8} {P : List (List UInt8)} {f : Nat} (hf : f ≤ l.length) (h : P ++ linA ((l.take l.length).drop f) (l.drop l.length) = linL l) : linL l = if f < l.length then P ++ [l.drop f] else P := by
  rw [← h, List.take_length, List.drop_length]
  by_cases hl : f < l.length
  · rw [if_pos hl]
    unfold linA
    rw [if_neg (fun e => by have := congrArg List.length e; rw [List.length_drop] at this; simp at this; omega)]
  · rw [if_neg hl]
    unfold linA
    rw [if_pos (List.drop_of_length_le (by omega)), List.append_nil]
theorem own_form12 {w : World} {B n s : Nat} {t : TypeId} {v : Value} {xs : List Value} (h : w.ownsRow B t s v n xs) : ∃ q c, v = .slice q n c := by
  rcases h.2 with ⟨rfl, e⟩ | ⟨g, cap, cur, rfl, _⟩
  · exact ⟨none, 0, by rw [e]⟩
  · exact ⟨_, _, rfl⟩
end Go.Proofs.YtickkaeaaemakaaGreatDoor
