/- What an assignment of the other directives makes of a policy, as the chapter says. No condition. -/
import Derived.Test.YtbjhleajhkofeaaDoorP1
import Derived.Test.YtbjhleajhkofeaaDoorD0
import Derived.Test.YtbjhleajhkofeaaDoorJa
namespace Go.Proofs.YtbjhleajhkofeaaDoor
open Go.RowKit
set_option linter.unusedVariables false
set_option linter.unusedSimpArgs false

abbrev kArc : ByteArray := bs [83, 121, 115, 116, 101, 109, 67, 97, 108, 108, 65, 114, 99, 104, 105, 116, 101, 99, 116, 117, 114, 101, 115]
abbrev kFam : ByteArray := bs [82, 101, 115, 116, 114, 105, 99, 116, 65, 100, 100, 114, 101, 115, 115, 70, 97, 109, 105, 108, 105, 101, 115]
abbrev kSpa : ByteArray := bs [82, 101, 115, 116, 114, 105, 99, 116, 78, 97, 109, 101, 115, 112, 97, 99, 101, 115]
abbrev kWri : ByteArray := bs [77, 101, 109, 111, 114, 121, 68, 101, 110, 121, 87, 114, 105, 116, 101, 69, 120, 101, 99, 117, 116, 101]
abbrev kPer : ByteArray := bs [76, 111, 99, 107, 80, 101, 114, 115, 111, 110, 97, 108, 105, 116, 121]
abbrev kRea : ByteArray := bs [82, 101, 115, 116, 114, 105, 99, 116, 82, 101, 97, 108, 116, 105, 109, 101]
abbrev kNop : ByteArray := bs [78, 111, 78, 101, 119, 80, 114, 105, 118, 105, 108, 101, 103, 101, 115]

def keyR18 (s : ByteArray) : Bool := decide (s = kArc) || decide (s = kFam) || decide (s = kSpa) || decide (s = kWri) || decide (s = kPer) || decide (s = kRea) || decide (s = kNop)
/-- A number more in a list that rises, once. -/
def insU {α : Type} [DecidableEq α] (lt : α → α → Bool) (n : α) : List α → List α
  | [] => [n]
  | a :: r => if n = a then a :: r else if lt n a = true then n :: a :: r else a :: insU lt n r
def ltI (a b : Int) : Bool := decide (a < b)
def ltN18 (a b : Nat) : Bool := decide (a < b)
structure Ord18 {α : Type} (lt : α → α → Bool) : Prop where
  tr : ∀ a b c, lt a b = true → lt b c = true → lt a c = true
  tot : ∀ a b, a ≠ b → lt a b = false → lt b a = true
theorem ordI : Ord18 ltI := ⟨fun a b c h1 h2 => by unfold ltI at *; simp at *; omega, fun a b h1 h2 => by unfold ltI at *; simp at *; omega⟩
theorem ordN : Ord18 ltN18 := ⟨fun a b c h1 h2 => by unfold ltN18 at *; simp at *; omega, fun a b h1 h2 => by unfold ltN18 at *; simp at *; omega⟩
theorem mem_insU {α : Type} [DecidableEq α] {lt : α → α → Bool} {n x : α} : ∀ {l : List α}, x ∈ insU lt n l ↔ x = n ∨ x ∈ l
  | [] => by simp [insU]
  | a :: r => by
    unfold insU
    by_cases h1 : n = a
    · rw [if_pos h1]; subst h1; simp
    · rw [if_neg h1]
      by_cases h2 : lt n a = true
      · rw [if_pos h2]; simp
      · rw [if_neg h2, List.mem_cons, mem_insU (l := r), List.mem_cons]
        constructor
        · rintro (h | h | h)
          · exact .inr (.inl h)
          · exact .inl h
          · exact .inr (.inr h)
        · rintro (h | h | h)
          · exact .inr (.inl h)
          · exact .inl h
          · exact .inr (.inr h)
theorem len_insU {α : Type} [DecidableEq α] {lt : α → α → Bool} {n : α} : ∀ {l : List α}, (insU lt n l).length ≤ l.length + 1
  | [] => Nat.le_refl _
  | a :: r => by
    unfold insU
    split
    · exact Nat.le_succ _
    · split
      · exact Nat.le_refl _
      · have := len_insU (lt := lt) (n := n) (l := r)
        simp only [List.length_cons]
        omega
theorem pair_insU {α : Type} [DecidableEq α] {lt : α → α → Bool} (O : Ord18 lt) {n : α} : ∀ {l : List α}, l.Pairwise (fun a b => lt a b = true) → (insU lt n l).Pairwise (fun a b => lt a b = true)
  | [], _ => List.pairwise_singleton _ _
  | a :: r, h => by
    obtain ⟨h1, h2⟩ := List.pairwise_cons.1 h
    unfold insU
    by_cases e1 : n = a
    · rw [if_pos e1]; exact h
    · rw [if_neg e1]
      by_cases e2 : lt n a = true
      · rw [if_pos e2]
        exact List.pairwise_cons.2 ⟨fun b hb => by
          rcases List.mem_cons.1 hb with rfl | hb
          · exact e2
          · exact O.tr _ _ _ e2 (h1 b hb), h⟩
      · rw [if_neg e2]
        refine List.pairwise_cons.2 ⟨fun b hb => ?_, pair_insU O h2⟩
        rcases mem_insU.1 hb with rfl | hb
        · exact O.tot _ _ e1 (by simpa using e2)
        · exact h1 b hb
/-! ### the four kinds of keys -/
def t60 (w : List UInt8) : ByteArray := bs (w.take 60)
def arcS (r : List Int × List (Int × ByteArray)) (w : List UInt8) : List Int × List (Int × ByteArray) := if (parR (bs w)).2 = 0 then (insU ltI (parR (bs w)).1 r.1, r.2) else (r.1, r.2 ++ [((parR (bs w)).2, t60 w)])
def arcF (l : List Int) (v : ByteArray) : List Int × List (Int × ByteArray) := if wdL v.data.toList = [] then ([], []) else (wdL v.data.toList).foldl arcS (l, [])
def famS (put : Bool) (r : List Nat × List (Int × ByteArray)) (w : List UInt8) : List Nat × List (Int × ByteArray) :=
  match findR famT (bs w) with
  | some n => (if put = true then insU ltN18 n r.1 else r.1.filter (fun x => x != n), r.2)
  | none => (r.1, r.2 ++ [(180, t60 w)])
def mdF (m : Nat) (T : Bool) : Nat := if m = 0 then (if T = true then 2 else 1) else m
def famF (pb : Bool) (m : Nat) (l : List Nat) (v : ByteArray) : (Nat × List Nat) × List (Int × ByteArray) :=
  if wdL v.data.toList = [] then ((0, []), [])
  else if wdL v.data.toList = [[110, 111, 110, 101]] then ((1, []), [])
  else ((mdF m (turnR v).2, ((wdL (turnR v).1.data.toList).foldl (famS pb) (l, [])).1), ((wdL (turnR v).1.data.toList).foldl (famS pb) (l, [])).2)
/-- Is what is named put, or taken out? Of the modes that are. -/
def putB18 (m : Nat) (v : ByteArray) : Bool := (turnR v).2 == decide (mdF m (turnR v).2 = 2)
def spcN (w : List UInt8) : Nat := (findR spcT (bs w)).getD 0
def spcB (w : List UInt8) : Bool := (findR spcT (bs w)).isNone
def orL : List (List UInt8) → Nat
  | [] => 0
  | w :: r => spcN w ||| orL r
def spaF (x : Nat) (v : ByteArray) : Nat × List (Int × ByteArray) :=
  if wdL v.data.toList = [] ∨ boolR v = some false then (0, [])
  else if boolR v = some true then (allN, [])
  else if (wdL (turnR v).1.data.toList).any spcB = true then (x, ((wdL (turnR v).1.data.toList).filter spcB).map fun w => (181, t60 w))
  else (if (turnR v).2 = true then orL (wdL (turnR v).1.data.toList) else allN - orL (wdL (turnR v).1.data.toList), [])
def flgF (b : Bool) (v : ByteArray) : Bool × List (Int × ByteArray) :=
  if v = ⟨#[]⟩ then (false, []) else match boolR v with | some x => (x, []) | none => (b, [(150, t60 v.data.toList)])
/-- What an assignment makes of a policy, and what is noted. -/
def setR (pb : Bool) (P : Pol) (k v : ByteArray) : Pol × List (Int × ByteArray) :=
  if k = kArc then ({ P with ar := (arcF P.ar v).1 }, (arcF P.ar v).2)
  else if k = kFam then ({ P with fa := (famF pb P.fm P.fa v).1.2, fm := (famF pb P.fm P.fa v).1.1 }, (famF pb P.fm P.fa v).2)
  else if k = kSpa then ({ P with sp := (spaF P.sp v).1 }, (spaF P.sp v).2)
  else if k = kWri then ({ P with b1 := (flgF P.b1 v).1 }, (flgF P.b1 v).2)
  else if k = kPer then ({ P with b2 := (flgF P.b2 v).1 }, (flgF P.b2 v).2)
  else if k = kRea then ({ P with b3 := (flgF P.b3 v).1 }, (flgF P.b3 v).2)
  else if k = kNop then ({ P with b4 := (flgF P.b4 v).1 }, (flgF P.b4 v).2)
  else (P, [])
/-! ### what they keep -/
structure Rises18 (P : Pol) : Prop where
  ar : P.ar.Pairwise fun a b => ltI a b = true
  fa : P.fa.Pairwise fun a b => ltN18 a b = true
theorem parR_lt (s : ByteArray) (h : (parR s).2 = 0) : 0 ≤ (parR s).1 ∧ (parR s).1 < 6 := by
  unfold parR at *
  cases e : findN s with
  | some k =>
    simp only
    have := (List.findIdx?_eq_some_iff_getElem.1 e).1
    have h6 : archN.length = 6 := rfl
    omega
  | none =>
    rw [e] at h
    simp only at h ⊢
    split
    · exact ⟨by decide, by decide⟩
    · rename_i hn
      rw [if_neg hn] at h
      exact absurd h (by decide)
theorem parR_err (s : ByteArray) : (parR s).2 = 0 ∨ (parR s).2 = 80 := by
  unfold parR
  split
  · exact .inl rfl
  · split
    · exact .inl rfl
    · exact .inr rfl
theorem arcS_pair : ∀ (ws : List (List UInt8)) (r : List Int × List (Int × ByteArray)), (r.1.Pairwise fun a b => ltI a b = true) → ((ws.foldl arcS r).1.Pairwise fun a b => ltI a b = true)
  | [], r, h => h
  | w :: ws, r, h => arcS_pair ws _ (by unfold arcS; split; exact pair_insU ordI h; exact h)
theorem famS_pair (b : Bool) : ∀ (ws : List (List UInt8)) (r : List Nat × List (Int × ByteArray)), (r.1.Pairwise fun a b => ltN18 a b = true) → ((ws.foldl (famS b) r).1.Pairwise fun a b => ltN18 a b = true)
  | [], r, h => h
  | w :: ws, r, h => famS_pair b ws _ (by
    unfold famS
    split
    · show (List.Pairwise _ (if _ then _ else _))
      split
      · exact pair_insU ordN h
      · exact h.filter _
    · exact h)
theorem arcS_nts : ∀ (ws : List (List UInt8)) (r : List Int × List (Int × ByteArray)), (∀ x ∈ r.2, x.1 ≠ 0) → ∀ x ∈ (ws.foldl arcS r).2, x.1 ≠ 0
  | [], r, h => h
  | w :: ws, r, h => arcS_nts ws _ (by
    unfold arcS
    split
    · exact h
    · rename_i hn
      intro x hx
      rcases List.mem_append.1 hx with hx | hx
      · exact h x hx
      · rw [List.mem_singleton.1 hx]; exact hn)
theorem famS_nts (b : Bool) : ∀ (ws : List (List UInt8)) (r : List Nat × List (Int × ByteArray)), (∀ x ∈ r.2, x.1 ≠ 0) → ∀ x ∈ (ws.foldl (famS b) r).2, x.1 ≠ 0
  | [], r, h => h
  | w :: ws, r, h => famS_nts b ws _ (by
    unfold famS
    split
    · exact h
    · intro x hx
      rcases List.mem_append.1 hx with hx | hx
      · exact h x hx
      · rw [List.mem_singleton.1 hx]; show (180 : Int) ≠ 0; decide)
theorem arcF_pair {l : List Int} {v : ByteArray} (h : l.Pairwise fun a b => ltI a b = true) : (arcF l v).1.Pairwise fun a b => ltI a b = true := by
  unfold arcF
  split
  · exact List.Pairwise.nil
  · exact arcS_pair _ _ h
theorem famF_pair {pb : Bool} {m : Nat} {l : List Nat} {v : ByteArray} (h : l.Pairwise fun a b => ltN18 a b = true) : (famF pb m l v).1.2.Pairwise fun a b => ltN18 a b = true := by
  unfold famF
  split
  · exact List.Pairwise.nil
  · split
    · exact List.Pairwise.nil
    · exact famS_pair _ _ _ h
theorem setR_rises {pb : Bool} {P : Pol} {k v : ByteArray} (h : Rises18 P) : Rises18 (setR pb P k v).1 := by
  unfold setR
  split
  · exact ⟨arcF_pair h.ar, h.fa⟩
  split
  · exact ⟨h.ar, famF_pair h.fa⟩
  repeat' split
  all_goals exact ⟨h.ar, h.fa⟩
theorem setR_nts {pb : Bool} {P : Pol} {k v : ByteArray} : ∀ x ∈ (setR pb P k v).2, x.1 ≠ 0 := by
  have hf : ∀ b, ∀ x ∈ (flgF b v).2, x.1 ≠ 0 := fun b x hx => by
    unfold flgF at hx
    split at hx
    · cases hx
    · split at hx
      · cases hx
      · rw [List.mem_singleton.1 hx]; show (150 : Int) ≠ 0; decide
  unfold setR
  split
  · show ∀ x ∈ (arcF P.ar v).2, x.1 ≠ 0
    unfold arcF
    split
    · intro x hx; cases hx
    · exact arcS_nts _ _ (fun x hx => by cases hx)
  split
  · show ∀ x ∈ (famF pb P.fm P.fa v).2, x.1 ≠ 0
    unfold famF
    split
    · intro x hx; cases hx
    · split
      · intro x hx; cases hx
      · exact famS_nts _ _ _ (fun x hx => by cases hx)
  split
  · show ∀ x ∈ (spaF P.sp v).2, x.1 ≠ 0
    unfold spaF
    repeat' split
    all_goals intro x hx
    all_goals first
      | (cases hx; done)
      | (obtain ⟨w, _, rfl⟩ := List.mem_map.1 hx; show (181 : Int) ≠ 0; decide)
  split
  · exact hf _
  split
  · exact hf _
  split
  · exact hf _
  split
  · exact hf _
  · intro x hx; cases hx
/-- Of a key that is none of these: nothing. -/
theorem setR_oth {pb : Bool} {P : Pol} {k v : ByteArray} (h : keyR18 k = false) : setR pb P k v = (P, []) := by
  unfold keyR18 at h
  simp at h
  obtain ⟨⟨⟨⟨⟨⟨h1, h2⟩, h3⟩, h4⟩, h5⟩, h6⟩, h7⟩ := h
  unfold setR
  rw [if_neg h1, if_neg h2, if_neg h3, if_neg h4, if_neg h5, if_neg h6, if_neg h7]
end Go.Proofs.YtbjhleajhkofeaaDoor
