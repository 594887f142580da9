/- What the landed asm reads of a line: words, numbers, labels; and that it reads of an instruction's line the instruction. Plain lists and numbers, no program. -/
import Derived.Test.YtlneiiljdghmjaaDoorAl
import Derived.Lib.ParseIntB
import Derived.Lib.Strings
namespace Go.Proofs.YtlneiiljdghmjaaDoor
set_option linter.unusedVariables false
set_option linter.unusedSimpArgs false

/-- One digit more behind. -/
theorem parseM_snoc (M : Nat) (c : UInt8) : ∀ (l : List UInt8) (a : Nat), Lib.parseUintM M a (l ++ [c]) = match Lib.parseUintM M a l with
    | .ok m => Lib.parseUintM M m [c]
    | Lib.NumEnd.syntax => Lib.NumEnd.syntax
    | .range => .range
  | [], a => rfl
  | b :: r, a => by
    show Lib.parseUintM M a (b :: (r ++ [c])) = _
    unfold Lib.parseUintM
    split
    · split
      · rfl
      · split
        · rfl
        · exact parseM_snoc M c r _
    · rfl
theorem parseM_one {M a d : Nat} (hd : d < 10) (ha : a < 1844674407370955162) (h : a * 10 + d ≤ M) : Lib.parseUintM M a [UInt8.ofNat (48 + d)] = .ok (a * 10 + d) := by
  unfold Lib.parseUintM
  rw [byte_of hd, if_pos (by omega), if_neg (by omega), if_neg (by omega), Nat.add_sub_cancel_left]
  rfl
theorem parseM_dig {M : Nat} (hM : M < 18446744073709551616) : ∀ (n : Nat), n ≤ M → Lib.parseUintM M 0 (digL n) = .ok n := by
  intro n
  induction n using Nat.strongRecOn with
  | _ n ih =>
    intro hn
    by_cases h : n < 10
    · rw [digL_one h]
      have := parseM_one (M := M) (a := 0) h (by omega) (by omega)
      rw [this]
      congr 1
      omega
    · rw [digL_more (by omega), parseM_snoc, ih (n / 10) (by omega) (by omega)]
      show Lib.parseUintM M (n / 10) _ = _
      rw [parseM_one (by omega) (by omega) (by omega)]
      congr 1
      omega
theorem parse_dig {n : Nat} (hn : n < 4294967296) : Lib.parseUintB 32 (digL n) = .ok n := by
  unfold Lib.parseUintB
  rw [if_neg (digL_nil n)]
  exact parseM_dig (by decide) n (by simp; omega)
theorem parseM_le {M : Nat} : ∀ (l : List UInt8) (a u : Nat), a ≤ M → Lib.parseUintM M a l = .ok u → u ≤ M
  | [], a, u, ha, h => by
    unfold Lib.parseUintM at h
    injection h with h
    omega
  | c :: r, a, u, ha, h => by
    unfold Lib.parseUintM at h
    split at h
    · split at h
      · cases h
      · split at h
        · cases h
        · exact parseM_le r _ u (by omega) h
    · cases h
theorem parse_lt {l : List UInt8} {u : Nat} (h : Lib.parseUintB 32 l = .ok u) : u < 4294967296 := by
  unfold Lib.parseUintB at h
  split at h
  · cases h
  · have := parseM_le l 0 u (by omega) h
    simp at this
    omega
/-- A list ahead of, and behind, the first blank. -/
def befL : List UInt8 → List UInt8
  | [] => []
  | c :: r => if c = 32 then [] else c :: befL r
def aftL : List UInt8 → List UInt8
  | [] => []
  | c :: r => if c = 32 then r else aftL r
theorem bef_app {b : List UInt8} : ∀ {a : List UInt8}, (∀ c ∈ a, c ≠ 32) → befL (a ++ 32 :: b) = a ∧ aftL (a ++ 32 :: b) = b
  | [], _ => ⟨by simp [befL], by simp [aftL]⟩
  | c :: r, h => by
    have h1 := h c (List.mem_cons_self ..)
    obtain ⟨i1, i2⟩ := bef_app (b := b) (a := r) (fun x hx => h x (List.mem_cons_of_mem _ hx))
    show befL (c :: (r ++ 32 :: b)) = _ ∧ aftL (c :: (r ++ 32 :: b)) = _
    unfold befL aftL
    rw [if_neg h1, if_neg h1, i1, i2]
    exact ⟨rfl, rfl⟩
theorem bef_self : ∀ {a : List UInt8}, (∀ c ∈ a, c ≠ 32) → befL a = a ∧ aftL a = []
  | [], _ => ⟨rfl, rfl⟩
  | c :: r, h => by
    have h1 := h c (List.mem_cons_self ..)
    obtain ⟨i1, i2⟩ := bef_self (a := r) (fun x hx => h x (List.mem_cons_of_mem _ hx))
    unfold befL aftL
    rw [if_neg h1, if_neg h1, i1, i2]
    exact ⟨rfl, rfl⟩
theorem bef_le : ∀ (l : List UInt8), (befL l).length ≤ l.length ∧ (aftL l).length ≤ l.length
  | [] => ⟨Nat.le_refl _, Nat.le_refl _⟩
  | c :: r => by
    have := bef_le r
    unfold befL aftL
    split
    · simp
    · simp; omega
/-- The number that a label skips, behind a place. -/
def skipL (word : List UInt8) (at_ : Nat) : Option Nat := match Lib.parseUintB 32 (Lib.trimPrefix word [76]) with
  | .ok u => if u < at_ + 1 then none else some (u - (at_ + 1))
  | _ => none
theorem trim_label (n : Nat) : Lib.trimPrefix (76 :: digL n) [76] = digL n := rfl
theorem skip_label {n at_ : Nat} (hn : n < 4294967296) (h : at_ + 1 ≤ n) : skipL (76 :: digL n) at_ = some (n - (at_ + 1)) := by
  unfold skipL
  rw [trim_label, parse_dig hn]
  show (if n < at_ + 1 then none else some (n - (at_ + 1))) = _
  rw [if_neg (by omega)]
/-- Does a code use K, JT and JF? -/
def usesKB (c : Int) : Bool := !(c == 128 || c == 129 || c == 132 || c == 22 || c == 7 || c == 135) && !withXB c
def forksB (c : Int) : Bool := clsA c == 4 && c != 5
theorem known_all {P : Int → Prop} [DecidablePred P] (h : allL.all (fun o => decide (P o.code)) = true) {c : Int} (hk : knownB c = true) : P c := by
  obtain ⟨h1, h2⟩ := known_mem hk
  have := of_decide_eq_true (List.all_eq_true.1 h _ h1)
  rw [h2] at this
  exact this
theorem uses_shape {c : Int} (hk : knownB c = true) : usesKB c = (shapeI c == 1 || shapeI c == 2 || shapeI c == 3) := known_all (P := fun c => usesKB c = (shapeI c == 1 || shapeI c == 2 || shapeI c == 3)) (by decide +kernel) hk
theorem forks_shape {c : Int} (hk : knownB c = true) : forksB c = decide (2 < shapeI c) := known_all (P := fun c => forksB c = decide (2 < shapeI c)) (by decide +kernel) hk
theorem ja_shape {c : Int} (hk : knownB c = true) : (c == 5) = (shapeI c == 2) := known_all (P := fun c => (c == 5) = (shapeI c == 2)) (by decide +kernel) hk
/-- What the landed clean answers. -/
def cleanB (i : Ins) : Bool := knownB i.c && (usesKB i.c || i.k == 0) && (forksB i.c || i.jt == 0 && i.jf == 0)
theorem clean_plain (i : Ins) : cleanB i = plainI i := by
  unfold cleanB plainI
  cases hk : knownB i.c with
  | false => simp
  | true =>
    rw [uses_shape hk, forks_shape hk]
    by_cases h3 : shapeI i.c < 3
    · rw [decide_eq_true h3, decide_eq_false (show ¬ 2 < shapeI i.c by omega), show (shapeI i.c == 3) = false from beq_eq_false_iff_ne.2 (by omega)]
      generalize (shapeI i.c == 1) = a
      generalize (shapeI i.c == 2) = b
      rw [show (i.jt != 0) = !(i.jt == 0) from rfl, show (i.jf != 0) = !(i.jf == 0) from rfl]
      generalize (i.k == 0) = d
      generalize (i.jt == 0) = e
      generalize (i.jf == 0) = f
      cases a <;> cases b <;> cases d <;> cases e <;> cases f <;> rfl
    · rw [decide_eq_false h3, decide_eq_true (show 2 < shapeI i.c by omega)]
      generalize (shapeI i.c == 1) = a
      generalize (shapeI i.c == 2) = b
      generalize (shapeI i.c == 3) = e
      generalize (i.k == 0) = d
      cases a <;> cases b <;> cases d <;> cases e <;> rfl
/-- The places to which an instruction leads. -/
def targL (i : Ins) (at_ : Int) : List Int := if i.c = 5 then [at_ + 1 + i.k] else if forksB i.c = true then [at_ + 1 + i.jt, at_ + 1 + i.jf] else []
/-- An instruction's operands, as strings. -/
def wordsL (i : Ins) (at_ : Int) : List (List UInt8) := (if usesKB i.c = true ∧ i.c ≠ 5 then [digL i.k.toNat] else []) ++ (targL i at_).map (fun t => 76 :: digL t.toNat)
def joinL (n : List UInt8) (l : List (List UInt8)) : List UInt8 := n ++ l.flatMap (fun w => 32 :: w)
theorem shape5 (c : Int) : shapeI c = 0 ∨ shapeI c = 1 ∨ shapeI c = 2 ∨ shapeI c = 3 ∨ shapeI c = 4 := shapeI_five c
theorem words_ops {i : Ins} (hk : knownB i.c = true) (at_ : Int) : (wordsL i at_).flatMap (fun w => 32 :: w) = opsI i at_ := by
  have hu := uses_shape hk
  have hf := forks_shape hk
  have hj : i.c = 5 ↔ shapeI i.c = 2 := by
    have := ja_shape hk
    rw [Bool.eq_iff_iff, beq_iff_eq, beq_iff_eq] at this
    exact this
  unfold wordsL targL opsI
  rcases shape5 i.c with e | e | e | e | e
  all_goals
    simp [hu, hf, hj, e]
theorem join_line {i : Ins} {at_ : Int} (h : plainI i = true) (ha : 0 ≤ at_) : joinL (nameA i.c) (wordsL i at_) = lineI i at_ := by
  unfold joinL
  rw [words_ops (plain_known h), lineI_plain h ha]
/-- What the landed read makes of a line at a place. -/
def readL (l : List UInt8) (at_ : Nat) : Option Ins := match codeOfL (befL l) with
  | none => none
  | some c =>
    if c = 5 then (match skipL (befL (aftL l)) at_ with | some k => some ⟨c, 0, 0, ((k % 4294967296 : Nat) : Int)⟩ | none => none)
    else if usesKB c = true then
      (match Lib.parseUintB 32 (befL (aftL l)) with
      | .ok k => if forksB c = true then
          (match skipL (befL (aftL (aftL l))) at_ with
          | some a => (match skipL (befL (aftL (aftL (aftL l)))) at_ with | some b => some ⟨c, ((a % 256 : Nat) : Int), ((b % 256 : Nat) : Int), (k : Int)⟩ | none => none)
          | none => none)
        else some ⟨c, 0, 0, (k : Int)⟩
      | _ => none)
    else if forksB c = true then
      (match skipL (befL (aftL l)) at_ with
      | some a => (match skipL (befL (aftL (aftL l))) at_ with | some b => some ⟨c, ((a % 256 : Nat) : Int), ((b % 256 : Nat) : Int), 0⟩ | none => none)
      | none => none)
    else some ⟨c, 0, 0, 0⟩
theorem code_range {n : List UInt8} {c : Int} (h : codeOfL n = some c) : knownB c = true ∧ 0 ≤ c ∧ c < 256 := by
  unfold codeOfL at h
  cases hc : codeL allL (bs n) with
  | none => rw [hc] at h; cases h
  | some o =>
    rw [hc] at h
    injection h with h
    have hm : o ∈ allL := by
      have : ∀ (l : List One), codeL l (bs n) = some o → o ∈ l := by
        intro l
        induction l with
        | nil => intro h; cases h
        | cons x r ih =>
          intro h
          unfold codeL at h
          split at h
          · injection h with h; rw [h]; exact List.mem_cons_self ..
          · exact List.mem_cons_of_mem _ (ih h)
      exact this allL hc
    have hall : allL.all (fun o => decide (knownB o.code = true ∧ 0 ≤ o.code ∧ o.code < 256)) = true := by decide +kernel
    have := of_decide_eq_true (List.all_eq_true.1 hall o hm)
    rw [show o.code = c from h] at this
    exact this
theorem read_ok {l : List UInt8} {at_ : Nat} {i : Ins} (h : readL l at_ = some i) : i.Ok := by
  unfold readL at h
  cases hc : codeOfL (befL l) with
  | none => rw [hc] at h; cases h
  | some c =>
    obtain ⟨_, c0, c1⟩ := code_range hc
    rw [hc] at h
    simp only at h
    repeat' (split at h)
    all_goals first
      | (cases h; done)
      | (injection h with h
         subst h
         have hb := @parse_lt
         constructor <;> simp only <;> first | omega | (have := hb ‹_›; omega))
/-- The line of an instruction is read as the instruction. -/
theorem read_line {i : Ins} (hi : i.Ok) (h : plainI i = true) {at_ : Nat} (hm : ∀ t ∈ targL i at_, t < 4294967296) : readL (lineI i at_) at_ = some i := by
  rw [lineI_plain h (by omega)]
  have hk := plain_known h
  have hn := nameA_not hk (d := 32) (by decide)
  have hc := nameA_code hk
  have h5 := shape5 i.c
  have hlow := plain_low h
  have hkz := plain_k h
  have hu := uses_shape hk
  have hf := forks_shape hk
  have hj : i.c = 5 ↔ shapeI i.c = 2 := by
    have := ja_shape hk
    rw [Bool.eq_iff_iff, beq_iff_eq, beq_iff_eq] at this
    exact this
  obtain ⟨c, jt, jf, k⟩ := i
  obtain ⟨c0, c1, t0, t1, f0, f1, k0, k1⟩ := hi
  simp only at hn hc h5 hlow hkz t0 f0 k0 t1 f1 k1 hu hf hj
  unfold targL at hm
  simp only [hj, hf] at hm
  obtain ⟨jt, rfl⟩ := Int.eq_ofNat_of_zero_le t0
  obtain ⟨jf, rfl⟩ := Int.eq_ofNat_of_zero_le f0
  obtain ⟨k, rfl⟩ := Int.eq_ofNat_of_zero_le k0
  have g1 : ((at_ : Int) + 1 + (k : Int)).toNat = at_ + 1 + k := by omega
  have g2 : ((at_ : Int) + 1 + (jt : Int)).toNat = at_ + 1 + jt := by omega
  have g3 : ((at_ : Int) + 1 + (jf : Int)).toNat = at_ + 1 + jf := by omega
  have s0 := bef_self hn
  have sn := fun b => bef_app (b := b) hn
  have s1 := bef_self (a := digL k) (digL_not _ (by decide))
  have s2 := bef_self (a := 76 :: digL (at_ + 1 + k)) (label_not _ (by decide) (by decide))
  have s4 := bef_self (a := 76 :: digL (at_ + 1 + jf)) (label_not _ (by decide) (by decide))
  have s3 := fun b => show befL (76 :: (digL (at_ + 1 + jt) ++ 32 :: b)) = 76 :: digL (at_ + 1 + jt) ∧ aftL (76 :: (digL (at_ + 1 + jt) ++ 32 :: b)) = b from bef_app (b := b) (a := 76 :: digL (at_ + 1 + jt)) (label_not _ (by decide) (by decide))
  have s5 := fun b => bef_app (b := b) (a := digL k) (digL_not _ (by decide))
  have p1 := parse_dig (n := k) (by omega)
  unfold readL opsI
  simp only
  rcases h5 with e | e | e | e | e
  · obtain ⟨h1, h2⟩ := hlow (by omega)
    have h3 := hkz (by omega) (by omega) (by omega)
    simp [e, s0, hc, hu, hf, hj, h1, h2, h3]
  · obtain ⟨h1, h2⟩ := hlow (by omega)
    simp [e, sn, s1, hc, hu, hf, hj, h1, h2, p1]
  · obtain ⟨h1, h2⟩ := hlow (by omega)
    rw [if_pos e] at hm
    have hb := hm _ (List.mem_singleton.2 rfl)
    have q := skip_label (n := at_ + 1 + k) (at_ := at_) (by omega) (by omega)
    rw [show at_ + 1 + k - (at_ + 1) = k by omega] at q
    simp [e, sn, s2, hc, hu, hf, hj, h1, h2, g1, q]
    omega
  · rw [if_neg (by omega), if_pos (by rw [e]; rfl)] at hm
    have hb1 := hm _ (List.mem_cons_self ..)
    have hb2 := hm _ (List.mem_cons_of_mem _ (List.mem_singleton.2 rfl))
    have q1 := skip_label (n := at_ + 1 + jt) (at_ := at_) (by omega) (by omega)
    rw [show at_ + 1 + jt - (at_ + 1) = jt by omega] at q1
    have q2 := skip_label (n := at_ + 1 + jf) (at_ := at_) (by omega) (by omega)
    rw [show at_ + 1 + jf - (at_ + 1) = jf by omega] at q2
    simp [e, sn, s3, s4, s5, hc, hu, hf, hj, g2, g3, q1, q2, p1]
    omega
  · have h3 := hkz (by omega) (by omega) (by omega)
    rw [if_neg (by omega), if_pos (by rw [e]; rfl)] at hm
    have hb1 := hm _ (List.mem_cons_self ..)
    have hb2 := hm _ (List.mem_cons_of_mem _ (List.mem_singleton.2 rfl))
    have q1 := skip_label (n := at_ + 1 + jt) (at_ := at_) (by omega) (by omega)
    rw [show at_ + 1 + jt - (at_ + 1) = jt by omega] at q1
    have q2 := skip_label (n := at_ + 1 + jf) (at_ := at_) (by omega) (by omega)
    rw [show at_ + 1 + jf - (at_ + 1) = jf by omega] at q2
    simp [e, sn, s3, s4, hc, hu, hf, hj, g2, g3, q1, q2, h3]
    omega
end Go.Proofs.YtlneiiljdghmjaaDoor
