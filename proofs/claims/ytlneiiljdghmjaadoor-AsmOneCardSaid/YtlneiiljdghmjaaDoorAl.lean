/- A program that can be written is read from its text; texts that are none's. Plain lists, no program. -/
import Derived.Test.YtlneiiljdghmjaaDoorAk
import Derived.Test.YtlneiiljdghmjaaDoorAh
namespace Go.Proofs.YtlneiiljdghmjaaDoor
set_option linter.unusedVariables false

theorem line_not {i : Ins} (h : plainI i = true) {at_ : Int} (ha : 0 ≤ at_) {d : UInt8} (h1 : d.toNat < 48 ∨ 57 < d.toNat) (h2 : d.toNat < 97 ∨ 122 < d.toNat) (h3 : d ≠ 32) (h4 : d ≠ 76) : ∀ c ∈ lineI i at_, c ≠ d := by
  intro c hc
  rw [lineI_plain h ha] at hc
  rcases List.mem_append.1 hc with hc | hc
  · exact nameA_not (plain_known h) h2 c hc
  · unfold opsI at hc
    have hl := fun n (hc : c ∈ (32 :: 76 :: digL n : List UInt8)) => show c ≠ d from by
      rcases List.mem_cons.1 hc with e | hc
      · rw [e]; exact fun e => h3 e.symm
      · exact label_not n h1 h4 c hc
    rcases List.mem_append.1 hc with hc | hc
    · rcases List.mem_append.1 hc with hc | hc
      · split at hc
        · rcases List.mem_cons.1 hc with e | hc
          · rw [e]; exact fun e => h3 e.symm
          · exact digL_not _ h1 c hc
        · exact absurd hc (by simp)
      · split at hc
        · exact hl _ hc
        · exact absurd hc (by simp)
    · split at hc
      · rcases List.mem_append.1 hc with hc | hc
        · exact hl _ hc
        · exact hl _ hc
      · exact absurd hc (by simp)
theorem line_nil {i : Ins} (h : plainI i = true) {at_ : Int} (ha : 0 ≤ at_) : lineI i at_ ≠ [] := by
  rw [lineI_plain h ha]
  intro e
  exact nameA_nil (plain_known h) (List.append_eq_nil_iff.1 e).1
theorem label_byte (k : Nat) {d : UInt8} (h1 : d.toNat < 48 ∨ 57 < d.toNat) (h4 : d ≠ 76) (h5 : d ≠ 58) : ∀ c ∈ labelL k, c ≠ d := by
  intro c hc
  unfold labelL at hc
  rcases List.mem_append.1 hc with hc | hc
  · exact label_not k h1 h4 c hc
  · rw [List.mem_singleton.1 hc]; exact fun e => h5 e.symm
/-- Is a line a label's? -/
def isLab (l : List UInt8) : Bool := l.getLast? == some 58
theorem lab_label (k : Nat) : isLab (labelL k) = true := by
  unfold isLab labelL
  rw [List.getLast?_concat]; rfl
theorem lab_line {i : Ins} (h : plainI i = true) {at_ : Int} (ha : 0 ≤ at_) : isLab (lineI i at_) = false := by
  unfold isLab
  cases hl : (lineI i at_).getLast? with
  | none => rfl
  | some c =>
    have := line_not h ha (d := 58) (by decide) (by decide) (by decide) (by decide) c (List.mem_of_getLast? hl)
    exact beq_eq_false_iff_ne.2 (fun e => this (by injection e))
/-- The lines of a text. -/
def linesTo (p : List Ins) : Nat → List (List UInt8)
  | 0 => []
  | k + 1 => linesTo p k ++ ((if ledB p k = true then [labelL k] else []) ++ (match p[k]? with | none => [] | some x => [lineI x k]))
theorem piece_flat (p : List Ins) (k : Nat) : pieceL p k = flatL ((if ledB p k = true then [labelL k] else []) ++ (match p[k]? with | none => [] | some x => [lineI x k])) := by
  unfold pieceL
  rw [flatL_app]
  congr 1
  · split <;> rfl
  · cases p[k]? <;> rfl
theorem text_flat (p : List Ins) : ∀ k, textTo p k = flatL (linesTo p k)
  | 0 => rfl
  | k + 1 => by
    show textTo p k ++ pieceL p k = flatL (linesTo p k ++ _)
    rw [flatL_app, text_flat p k, piece_flat]
theorem can_plain {p : List Ins} : ∀ {k : Nat}, canTo p k = true → ∀ {j : Nat} {x : Ins}, j < k → p[j]? = some x → plainI x = true ∧ badI x ((p.length : Int) - 1 - j) = false
  | 0, _, j, x, h, _ => absurd h (by omega)
  | k + 1, hc, j, x, h, hx => by
    unfold canTo at hc
    rw [Bool.and_eq_true] at hc
    by_cases e : j = k
    · subst e
      have h2 := hc.2
      rw [hx] at h2
      have h3 : badI x ((p.length : Int) - 1 - j) = false := by
        cases hb : badI x ((p.length : Int) - 1 - j) with
        | false => rfl
        | true => have h5 : (!badI x ((p.length : Int) - 1 - j)) = true := h2; rw [hb] at h5; cases h5
      refine ⟨?_, h3⟩
      unfold badI at h3
      rw [Bool.or_eq_false_iff, Bool.or_eq_false_iff] at h3
      simpa using h3.1.1
    · exact can_plain hc.1 (by omega) hx
theorem lines_not {p : List Ins} {k : Nat} (hc : canTo p k = true) : ∀ l ∈ linesTo p k, ∀ c ∈ l, c ≠ 10 := by
  induction k with
  | zero => intro l hl; exact absurd hl (by simp [linesTo])
  | succ k ih =>
    intro l hl c hcl
    unfold linesTo at hl
    have hck := hc
    unfold canTo at hck
    rw [Bool.and_eq_true] at hck
    rcases List.mem_append.1 hl with hl | hl
    · exact ih hck.1 l hl c hcl
    · rcases List.mem_append.1 hl with hl | hl
      · split at hl
        · rw [List.mem_singleton.1 hl] at hcl
          exact label_byte k (by decide) (by decide) (by decide) c hcl
        · exact absurd hl (by simp)
      · cases hx : p[k]? with
        | none => rw [hx] at hl; exact absurd hl (by simp)
        | some x =>
          rw [hx] at hl
          rw [List.mem_singleton.1 hl] at hcl
          exact line_not (can_plain hc (by omega) hx).1 (by omega) (by decide) (by decide) (by decide) (by decide) c hcl
/-- The lines of instructions, from a place on. -/
def instL : List Ins → Int → List (List UInt8)
  | [], _ => []
  | x :: r, a => lineI x a :: instL r (a + 1)
theorem instL_snoc : ∀ (q : List Ins) (x : Ins) (a : Int), instL (q ++ [x]) a = instL q a ++ [lineI x (a + q.length)]
  | [], x, a => by show [lineI x a] = [lineI x (a + 0)]; rw [Int.add_zero]
  | y :: r, x, a => by
    show lineI y a :: instL (r ++ [x]) (a + 1) = lineI y a :: (instL r (a + 1) ++ _)
    rw [instL_snoc r x (a + 1)]
    congr 4
    rw [List.length_cons]; omega
theorem inst_lines {p : List Ins} {k : Nat} (hc : canTo p k = true) (hk : k ≤ p.length) : (linesTo p k).filter (fun l => !isLab l) = instL (p.take k) 0 := by
  induction k with
  | zero => rfl
  | succ k ih =>
    have hck := hc
    unfold canTo at hck
    rw [Bool.and_eq_true] at hck
    have hx : p[k]? = some (p[k]'(by omega)) := List.getElem?_eq_getElem (by omega)
    have hpl := (can_plain hc (by omega) hx).1
    unfold linesTo
    rw [List.filter_append, List.filter_append, ih hck.1 (by omega), List.take_succ_eq_append_getElem (by omega), instL_snoc, hx, List.length_take, Nat.min_eq_left (by omega), Int.zero_add]
    congr 1
    have e1 : List.filter (fun l => !isLab l) (if ledB p k = true then [labelL k] else []) = [] := by
      split
      · rw [List.filter_cons, lab_label]; rfl
      · rfl
    rw [e1, List.nil_append, List.filter_cons, lab_line hpl (by omega)]; rfl
def decTo : List (List UInt8) → Int → Option (List Ins)
  | [], _ => some []
  | l :: r, a => match decLine l a with | none => none | some i => (decTo r (a + 1)).map (fun q => i :: q)
theorem dec_inst : ∀ {q : List Ins} {a : Int}, 0 ≤ a → OkL q → (∀ x ∈ q, plainI x = true) → decTo (instL q a) a = some q
  | [], _, _, _, _ => rfl
  | x :: r, a, ha, ho, hp => by
    show (match decLine (lineI x a) a with | none => none | some i => (decTo (instL r (a + 1)) (a + 1)).map (fun q => i :: q)) = _
    rw [decLine_line (ho x (List.mem_cons_self ..)) (hp x (List.mem_cons_self ..)) ha, dec_inst (by omega) (fun y hy => ho y (List.mem_cons_of_mem _ hy)) (fun y hy => hp y (List.mem_cons_of_mem _ hy))]
    rfl
/-- The program that a text writes. -/
def decT (s : List UInt8) : Option (List Ins) := decTo ((splitAt8 10 s).dropLast.filter (fun l => !isLab l)) 0
theorem can_of {p : List Ins} (h : canL p = true) : p.length ≤ 4096 ∧ canTo p p.length = true := by
  unfold canL at h
  rw [Bool.and_eq_true] at h
  exact ⟨of_decide_eq_true h.1, h.2⟩
theorem dec_text {p : List Ins} (ho : OkL p) (h : canL p = true) : decT (textL p) = some p := by
  obtain ⟨_, hc⟩ := can_of h
  unfold decT textL
  rw [text_flat, split_flat (lines_not hc), List.dropLast_concat, inst_lines hc (Nat.le_refl _), List.take_length]
  refine dec_inst (by omega) ho fun x hx => ?_
  obtain ⟨j, hj, e⟩ := List.mem_iff_getElem.1 hx
  exact (can_plain hc hj (by rw [List.getElem?_eq_getElem hj, e])).1
/-- Two programs that can be written have unlike texts. -/
theorem text_inj {p q : List Ins} (h1 : OkL p) (h2 : canL p = true) (h3 : OkL q) (h4 : canL q = true) (h : textL p = textL q) : p = q := by
  have e := dec_text h1 h2
  rw [h, dec_text h3 h4] at e
  injection e with e
  exact e.symm
theorem text_none {s : List UInt8} {q0 : List Ins} (hd : decT s = some q0) (hn : ¬ (OkL q0 ∧ textL q0 = s)) : ∀ q, OkL q → canL q = true → textL q ≠ s := fun q h1 h2 h => by
  have e := dec_text h1 h2
  rw [h, hd] at e
  injection e with e
  subst e
  exact hn ⟨h1, h⟩
theorem ref7_0 : ∀ q, OkL q → canL q = true → textL q ≠ [114, 101, 116, 32, 48, 55, 10] := text_none (q0 := [⟨6, 0, 0, 7⟩]) (by kernel_rfl) (fun h => absurd h.2 (by decide +kernel))
theorem ref7_1 : ∀ q, OkL q → canL q = true → textL q ≠ [106, 97, 32, 76, 48, 10] := text_none (q0 := [⟨5, 0, 0, -1⟩]) (by kernel_rfl) (fun h => by have := (h.1 _ (List.mem_singleton.2 rfl)).k0; exact absurd this (by decide))
theorem ref7_2 : ∀ q, OkL q → canL q = true → textL q ≠ [114, 101, 116, 32, 52, 50, 57, 52, 57, 54, 55, 50, 57, 54, 10] := text_none (q0 := [⟨6, 0, 0, 4294967296⟩]) (by kernel_rfl) (fun h => by have := (h.1 _ (List.mem_singleton.2 rfl)).k1; exact absurd this (by decide))
theorem ref7_3 : ∀ q, OkL q → canL q = true → textL q ≠ [114, 101, 116, 32, 49] := text_none (q0 := []) (by kernel_rfl) (fun h => absurd h.2 (by decide +kernel))
theorem tx7_0 : textE [⟨32, 0, 0, 4⟩, ⟨21, 0, 1, 5⟩, ⟨6, 0, 0, 7⟩, ⟨6, 0, 0, 0⟩] = [108, 100, 97, 98, 115, 32, 52, 10, 106, 101, 113, 32, 53, 32, 76, 50, 32, 76, 51, 10, 76, 50, 58, 10, 114, 101, 116, 32, 55, 10, 76, 51, 58, 10, 114, 101, 116, 32, 48, 10] := by kernel_rfl
theorem tn7_0 : textN [⟨32, 0, 0, 4⟩, ⟨21, 0, 1, 5⟩, ⟨6, 0, 0, 7⟩, ⟨6, 0, 0, 0⟩] = 0 := by kernel_rfl
theorem tx7_1 : textE [] = [] := by kernel_rfl
theorem tn7_1 : textN [] = 0 := by kernel_rfl
theorem tx7_2 : textE [⟨7, 0, 0, 0⟩, ⟨132, 0, 0, 0⟩] = [116, 97, 120, 10, 110, 101, 103, 10] := by kernel_rfl
theorem tn7_2 : textN [⟨7, 0, 0, 0⟩, ⟨132, 0, 0, 0⟩] = 0 := by kernel_rfl
theorem tx7_3 : textE [⟨6, 0, 0, 1⟩] = [114, 101, 116, 32, 49, 10] := by kernel_rfl
theorem tn7_3 : textN [⟨6, 0, 0, 1⟩] = 0 := by kernel_rfl
end Go.Proofs.YtlneiiljdghmjaaDoor
