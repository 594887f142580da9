/- A program that can be written is read from its text: lines, names, digits, decoded. Plain lists and numbers, no program. -/
import Derived.Test.YtlneiiljdghmjaaDoorAd
import Derived.Test.YtlneiiljdghmjaaDoorAa
namespace Go.Proofs.YtlneiiljdghmjaaDoor
set_option linter.unusedVariables false

/-- A list of bytes, parted at each separator. -/
def splitAt8 (sep : UInt8) : List UInt8 → List (List UInt8)
  | [] => [[]]
  | c :: r => if c = sep then [] :: splitAt8 sep r else match splitAt8 sep r with | [] => [[c]] | h :: t => (c :: h) :: t
theorem split_ne (sep : UInt8) : ∀ l, splitAt8 sep l ≠ []
  | [] => by unfold splitAt8; simp
  | c :: r => by
    unfold splitAt8
    split
    · simp
    · split <;> simp
theorem split_one {sep : UInt8} : ∀ {a : List UInt8}, (∀ c ∈ a, c ≠ sep) → splitAt8 sep a = [a]
  | [], _ => rfl
  | c :: r, h => by
    unfold splitAt8
    rw [if_neg (h c (List.mem_cons_self ..)), split_one (fun x hx => h x (List.mem_cons_of_mem _ hx))]
theorem split_app {sep : UInt8} {b : List UInt8} : ∀ {a : List UInt8}, (∀ c ∈ a, c ≠ sep) → splitAt8 sep (a ++ sep :: b) = a :: splitAt8 sep b
  | [], _ => by
    show splitAt8 sep (sep :: b) = _
    conv => lhs; unfold splitAt8
    rw [if_pos rfl]
  | c :: r, h => by
    show splitAt8 sep (c :: (r ++ sep :: b)) = _
    conv => lhs; unfold splitAt8
    rw [if_neg (h c (List.mem_cons_self ..)), split_app (fun x hx => h x (List.mem_cons_of_mem _ hx))]
/-- Lines, each ended by a byte 10. -/
def flatL : List (List UInt8) → List UInt8
  | [] => []
  | l :: r => l ++ 10 :: flatL r
theorem flatL_app : ∀ (a b : List (List UInt8)), flatL (a ++ b) = flatL a ++ flatL b
  | [], b => rfl
  | l :: r, b => by
    show l ++ 10 :: flatL (r ++ b) = (l ++ 10 :: flatL r) ++ flatL b
    rw [flatL_app r b, List.append_assoc]; rfl
theorem split_flat : ∀ {ls : List (List UInt8)}, (∀ l ∈ ls, ∀ c ∈ l, c ≠ 10) → splitAt8 10 (flatL ls) = ls ++ [[]]
  | [], _ => rfl
  | l :: r, h => by
    show splitAt8 10 (l ++ 10 :: flatL r) = _
    rw [split_app (h l (List.mem_cons_self ..)), split_flat (fun x hx => h x (List.mem_cons_of_mem _ hx))]; rfl
/-- The number that digits write. -/
def numL (l : List UInt8) : Nat := l.foldl (fun n c => n * 10 + (c.toNat - 48)) 0
theorem numL_snoc (l : List UInt8) (c : UInt8) : numL (l ++ [c]) = numL l * 10 + (c.toNat - 48) := by
  unfold numL; rw [List.foldl_append]; rfl
theorem byte_of {d : Nat} (h : d < 10) : (UInt8.ofNat (48 + d)).toNat = 48 + d := by
  rw [UInt8.toNat_ofNat']; omega
theorem numL_digL (n : Nat) : numL (digL n) = n := by
  induction n using Nat.strongRecOn with
  | _ n ih =>
    by_cases h : n < 10
    · rw [digL_one h]
      show 0 * 10 + ((UInt8.ofNat (48 + n)).toNat - 48) = n
      rw [byte_of h]; omega
    · rw [digL_more (by omega), numL_snoc, ih (n / 10) (by omega), byte_of (by omega)]; omega
/-- Is each byte a digit? -/
theorem digL_bytes (n : Nat) : ∀ c ∈ digL n, 48 ≤ c.toNat ∧ c.toNat ≤ 57 := by
  induction n using Nat.strongRecOn with
  | _ n ih =>
    intro c hc
    by_cases h : n < 10
    · rw [digL_one h] at hc
      rw [List.mem_singleton.1 hc, byte_of h]; omega
    · rw [digL_more (by omega)] at hc
      rcases List.mem_append.1 hc with hc | hc
      · exact ih (n / 10) (by omega) c hc
      · rw [List.mem_singleton.1 hc, byte_of (by omega)]; omega
theorem digL_nil (n : Nat) : digL n ≠ [] := by
  by_cases h : n < 10
  · rw [digL_one h]; simp
  · rw [digL_more (by omega)]; simp
theorem u8_ne {c d : UInt8} (h : c.toNat ≠ d.toNat) : c ≠ d := fun e => h (by rw [e])
theorem digL_not (n : Nat) {d : UInt8} (hd : d.toNat < 48 ∨ 57 < d.toNat) : ∀ c ∈ digL n, c ≠ d := fun c hc => u8_ne (by have := digL_bytes n c hc; omega)
theorem name_bytes : ∀ o ∈ allL, (o.name.data.toList ≠ [] ∧ ∀ c ∈ o.name.data.toList, 97 ≤ c.toNat ∧ c.toNat ≤ 122) := by
  have h : allL.all (fun o => decide (o.name.data.toList ≠ []) && o.name.data.toList.all fun c => decide (97 ≤ c.toNat ∧ c.toNat ≤ 122)) = true := by decide +kernel
  intro o ho
  have := List.all_eq_true.1 h o ho
  rw [Bool.and_eq_true] at this
  exact ⟨of_decide_eq_true this.1, fun c hc => of_decide_eq_true (List.all_eq_true.1 this.2 c hc)⟩
/-- The code of a name. -/
def codeOfL (n : List UInt8) : Option Int := (codeL allL (bs n)).map (·.code)
theorem code_name : ∀ o ∈ allL, codeOfL o.name.data.toList = some o.code := by
  have h : allL.all (fun o => codeOfL o.name.data.toList == some o.code) = true := by decide +kernel
  intro o ho
  exact beq_iff_eq.1 (List.all_eq_true.1 h o ho)
theorem known_mem {c : Int} (h : knownB c = true) : ofL allL c ∈ allL ∧ (ofL allL c).code = c := by
  have hn : ofL allL c ≠ noOne := fun e => by
    unfold knownB at h; rw [e] at h; exact absurd (of_decide_eq_true h) (by decide)
  exact ⟨(ofL_cases allL c).resolve_left hn, ofL_code hn⟩
theorem nameA_code {c : Int} (h : knownB c = true) : codeOfL (nameA c) = some c := by
  obtain ⟨h1, h2⟩ := known_mem h
  have := code_name _ h1
  rw [h2] at this
  exact this
theorem nameA_not {c : Int} (h : knownB c = true) {d : UInt8} (hd : d.toNat < 97 ∨ 122 < d.toNat) : ∀ x ∈ nameA c, x ≠ d := fun x hx => u8_ne (by
  have := (name_bytes _ (known_mem h).1).2 x hx; omega)
theorem nameA_nil {c : Int} (h : knownB c = true) : nameA c ≠ [] := (name_bytes _ (known_mem h).1).1
/-- The instruction that a line at a place writes. -/
def decLine (l : List UInt8) (at_ : Int) : Option Ins :=
  match splitAt8 32 l with
  | [] => none
  | n :: ops => match codeOfL n with
    | none => none
    | some c =>
      if shapeI c = 0 then some ⟨c, 0, 0, 0⟩
      else if shapeI c = 1 then (match ops with | a :: _ => some ⟨c, 0, 0, (numL a : Nat)⟩ | _ => none)
      else if shapeI c = 2 then (match ops with | a :: _ => some ⟨c, 0, 0, (numL (a.drop 1) : Nat) - at_ - 1⟩ | _ => none)
      else if shapeI c = 3 then (match ops with | a :: t :: f :: _ => some ⟨c, (numL (t.drop 1) : Nat) - at_ - 1, (numL (f.drop 1) : Nat) - at_ - 1, (numL a : Nat)⟩ | _ => none)
      else (match ops with | t :: f :: _ => some ⟨c, (numL (t.drop 1) : Nat) - at_ - 1, (numL (f.drop 1) : Nat) - at_ - 1, 0⟩ | _ => none)
theorem label_not (n : Nat) {d : UInt8} (hd : d.toNat < 48 ∨ 57 < d.toNat) (h76 : d ≠ 76) : ∀ c ∈ (76 :: digL n : List UInt8), c ≠ d := fun c hc => by
  rcases List.mem_cons.1 hc with h | h
  · rw [h]; exact fun e => h76 e.symm
  · exact digL_not n hd c h
theorem plain_known {i : Ins} (h : plainI i = true) : knownB i.c = true := by
  unfold plainI at h
  cases hk : knownB i.c with
  | true => rfl
  | false => rw [hk] at h; simp at h
theorem plain_low {i : Ins} (h : plainI i = true) (hs : shapeI i.c < 3) : i.jt = 0 ∧ i.jf = 0 := by
  unfold plainI at h
  rw [plain_known h, decide_eq_true hs] at h
  simp only [Bool.not_true, Bool.false_or, Bool.true_and, Bool.and_eq_true, Bool.not_eq_true'] at h
  have h1 := h.1
  rw [Bool.or_eq_false_iff] at h1
  exact ⟨bne_eq_false_iff_eq.1 h1.1, bne_eq_false_iff_eq.1 h1.2⟩
theorem plain_k {i : Ins} (h : plainI i = true) (h1 : shapeI i.c ≠ 1) (h2 : shapeI i.c ≠ 2) (h3 : shapeI i.c ≠ 3) : i.k = 0 := by
  unfold plainI at h
  rw [Bool.and_eq_true] at h
  have h4 := h.2
  rw [beq_eq_false_iff_ne.2 h1, beq_eq_false_iff_ne.2 h2, beq_eq_false_iff_ne.2 h3] at h4
  simpa using h4
theorem lineI_plain {i : Ins} {at_ : Int} (h : plainI i = true) (ha : 0 ≤ at_) : lineI i at_ = nameA i.c ++ opsI i at_ := by
  unfold lineI
  rw [if_neg (fun e => e.elim (fun e => by rw [h] at e; cases e) (by omega))]
theorem decLine_line {i : Ins} (hi : i.Ok) (h : plainI i = true) {at_ : Int} (ha : 0 ≤ at_) : decLine (lineI i at_) at_ = some i := by
  rw [lineI_plain h ha]
  have hk := plain_known h
  have hn := nameA_not hk (d := 32) (by decide)
  have hc := nameA_code hk
  have h5 := shapeI_five i.c
  have hlow := plain_low h
  have hkz := plain_k h
  obtain ⟨c, jt, jf, k⟩ := i
  obtain ⟨c0, c1, t0, t1, f0, f1, k0, k1⟩ := hi
  simp only at hn hc h5 hlow hkz t0 f0 k0
  have e1 : (((k.toNat : Nat) : Int)) = k := by omega
  have e2 : (((at_ + 1 + k).toNat : Nat) : Int) - at_ - 1 = k := by omega
  have e3 : (((at_ + 1 + jt).toNat : Nat) : Int) - at_ - 1 = jt := by omega
  have e4 : (((at_ + 1 + jf).toNat : Nat) : Int) - at_ - 1 = jf := by omega
  have s1 := split_one (sep := 32) (a := digL k.toNat) (digL_not _ (by decide))
  have s2 := split_one (sep := 32) (a := 76 :: digL (at_ + 1 + k).toNat) (label_not _ (by decide) (by decide))
  have s4 := split_one (sep := 32) (a := 76 :: digL (at_ + 1 + jf).toNat) (label_not _ (by decide) (by decide))
  have s3 := fun b => show splitAt8 32 (76 :: (digL (at_ + 1 + jt).toNat ++ 32 :: b)) = (76 :: digL (at_ + 1 + jt).toNat) :: splitAt8 32 b from split_app (sep := 32) (b := b) (a := 76 :: digL (at_ + 1 + jt).toNat) (label_not _ (by decide) (by decide))
  have s5 := fun b => split_app (sep := 32) (b := b) (a := digL k.toNat) (digL_not _ (by decide))
  unfold decLine opsI
  simp only
  rcases h5 with e | e | e | e | e
  · obtain ⟨rfl, rfl⟩ := hlow (by omega)
    obtain rfl := hkz (by omega) (by omega) (by omega)
    simp only [e]
    simp [split_one hn, hc, e]
  · obtain ⟨rfl, rfl⟩ := hlow (by omega)
    simp only [e]
    simp [split_app hn, hc, e, s1, numL_digL]
    omega
  · obtain ⟨rfl, rfl⟩ := hlow (by omega)
    simp only [e]
    simp [split_app hn, hc, e, s2, numL_digL]
    omega
  · simp only [e]
    simp [split_app hn, hc, e, s3, s4, s5, numL_digL]
    omega
  · obtain rfl := hkz (by omega) (by omega) (by omega)
    simp only [e]
    simp [split_app hn, hc, e, s3, s4, numL_digL]
    omega
end Go.Proofs.YtlneiiljdghmjaaDoor
