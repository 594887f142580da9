/- What the document's own Known, WithX and Code return. No condition but that a name is at most 2 to the 40th bytes long. -/
import Derived.Test.YthhfpehngdohhaaDoorIf
import Derived.WalkLawsBesides
namespace Go.Proofs.YthhfpehngdohhaaDoor
open Go.RowKit
set_option linter.unusedVariables false

theorem ofL_cases : ∀ (l : List One) (c : Int), ofL l c = noOne ∨ ofL l c ∈ l
  | [], _ => Or.inl rfl
  | o :: r, c => by
    show (if o.code = c then o else ofL r c) = noOne ∨ _
    split
    · rename_i h
      right
      show (if o.code = c then o else ofL r c) ∈ _
      rw [if_pos h]; exact List.mem_cons_self ..
    · rename_i h
      rcases ofL_cases r c with h1 | h1
      · exact Or.inl h1
      · right
        show (if o.code = c then o else ofL r c) ∈ _
        rw [if_neg h]; exact List.mem_cons_of_mem _ h1
/-- Each entry has a name and a class. -/
theorem allL_good : ∀ o ∈ allL, 2 ≤ o.name.size ∧ o.name.size ≤ 6 ∧ 1 ≤ o.cls ∧ o.cls ≤ 6 ∧ 0 ≤ o.code ∧ o.code < 256 := by
  have h : allL.all (fun o => decide (2 ≤ o.name.size ∧ o.name.size ≤ 6 ∧ 1 ≤ o.cls ∧ o.cls ≤ 6 ∧ 0 ≤ o.code ∧ o.code < 256)) = true := by decide +kernel
  intro o ho
  exact of_decide_eq_true (List.all_eq_true.1 h o ho)
/-- Is the code known? -/
def knownB (c : Int) : Bool := decide ((ofL allL c).cls ≠ 0)
theorem known_name (c : Int) : (knownB c = true ∧ 2 ≤ (ofL allL c).name.size ∧ (ofL allL c).name.size ≤ 6) ∨ (knownB c = false ∧ ofL allL c = noOne) := by
  rcases ofL_cases allL c with h | h
  · right
    exact ⟨by unfold knownB; rw [h]; decide, h⟩
  · left
    have := allL_good _ h
    exact ⟨decide_eq_true (by omega), this.1, this.2.1⟩
theorem isEmpty_of_size {s : ByteArray} (h : 0 < s.size) : s.toList.isEmpty = false := by
  rw [ByteArray.toList_eq]
  obtain ⟨⟨l⟩⟩ := s
  match l, h with
  | [], h => exact absurd h (by show ¬ 0 < 0; omega)
  | a :: r, _ => rfl
theorem one_field1 (x : Int) (n : ByteArray) (k : Int) (w : World) : (Instr.field 54 (.agg #[.int .u16 x, .string n, .int .u8 k]) 1).run Tryd.prog w = .ok (.string n) w := by kernel_rfl
theorem last_eq (s : ByteArray) (h : s.size - 1 < s.size) : (((s[s.size - 1]'h).toNat : Int) == 120) = decide (s.toList.getLast? = some 120) := by
  rw [ByteArray.toList_eq]
  obtain ⟨⟨l⟩⟩ := s
  have hl : l.length - 1 < l.length := h
  have e : (⟨⟨l⟩⟩ : ByteArray)[(⟨⟨l⟩⟩ : ByteArray).size - 1]'h = l[l.length - 1] := rfl
  rw [e]
  show _ = decide (l.getLast? = some 120)
  rw [List.getLast?_eq_getElem?, List.getElem?_eq_getElem hl]
  by_cases h1 : l[l.length - 1] = 120
  · rw [h1]; rfl
  · rw [decide_eq_false (by simpa using h1)]
    refine beq_eq_false_iff_ne.2 fun h2 => h1 ?_
    have : (l[l.length - 1]).toNat = 120 := by omega
    exact UInt8.toNat.inj this
/-- Does the code take X? -/
def withXB (c : Int) : Bool := decide (((ofL allL c).cls = 3 ∨ (ofL allL c).cls = 4) ∧ (ofL allL c).name.toList.getLast? = some 120)
/-- The entry of a name. -/
def codeL : List One → ByteArray → Option One
  | [], _ => none
  | o :: r, s => if o.name = s then some o else codeL r s
def codeV (s : ByteArray) : Int := ((codeL allL s).map (·.code)).getD 0
def codeB (s : ByteArray) : Bool := (codeL allL s).isSome
theorem codeL_skip : ∀ {l : List One} {k : Nat} {s : ByteArray}, (∀ o ∈ l.take k, o.name ≠ s) → codeL l s = codeL (l.drop k) s
  | l, 0, s, _ => by simp
  | [], k + 1, s, _ => by simp
  | o :: r, k + 1, s, h => by
    have h1 : o.name ≠ s := h o (by simp)
    show (if o.name = s then some o else codeL r s) = _
    rw [if_neg h1]
    exact codeL_skip (l := r) (k := k) (fun x hx => h x (by simp [hx]))
theorem codeL_hit {l : List One} {k : Nat} {s : ByteArray} (h : ∀ o ∈ l.take k, o.name ≠ s) (hk : k < l.length) (e : l[k].name = s) : codeL l s = some l[k] := by
  rw [codeL_skip h, List.drop_eq_getElem_cons hk]
  show (if l[k].name = s then _ else _) = _
  rw [if_pos e]
theorem codeL_miss {l : List One} {s : ByteArray} (h : ∀ o ∈ l, o.name ≠ s) : codeL l s = none := by
  rw [codeL_skip (k := l.length) (by simpa using h)]; simp [codeL]
theorem name_step {l : List One} {k : Nat} {s : ByteArray} (h : ∀ o ∈ l.take k, o.name ≠ s) (hk : k < l.length) (e : l[k].name ≠ s) : ∀ o ∈ l.take (k + 1), o.name ≠ s := by
  intro o ho
  rw [List.take_add_one, List.getElem?_eq_getElem hk] at ho
  rcases List.mem_append.1 ho with ho | ho
  · exact h o ho
  · simp at ho; subst ho; exact e
theorem list_of_bytes {a b : ByteArray} (h : a.toList = b.toList) : a = b := by
  apply ByteArray.ext
  have h2 := congrArg List.toArray h
  simpa [ByteArray.toList_eq] using h2
end Go.Proofs.YthhfpehngdohhaaDoor
