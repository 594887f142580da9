/- The text of a program, as the chapter says it, on lists of bytes: digits, which fields a code uses, the line of an instruction, which programs can be written, where jumps lead, the text. Plain lists and numbers, no program. -/
import Derived.Test.YtlneiiljdghmjaaDoorIf
namespace Go.Proofs.YtlneiiljdghmjaaDoor
set_option linter.unusedVariables false

/-- A string of these bytes. -/
def bs (l : List UInt8) : ByteArray := ⟨l.toArray⟩
theorem bs_app (a b : List UInt8) : bs a ++ bs b = bs (a ++ b) := by
  unfold bs
  apply ByteArray.ext
  simp [ByteArray.data_append]
theorem bs_size (l : List UInt8) : (bs l).size = l.length := by unfold bs; simp [ByteArray.size]
theorem bs_self (s : ByteArray) : bs s.data.toList = s := by unfold bs; rfl
theorem bs_list (l : List UInt8) : (bs l).data.toList = l := by unfold bs; rfl
theorem bs_inj {a b : List UInt8} (h : bs a = bs b) : a = b := by rw [← bs_list a, h, bs_list]
/-- The decimal digits of a number. -/
def digF : Nat → Nat → List UInt8
  | 0, n => [UInt8.ofNat (48 + n % 10)]
  | f + 1, n => if n < 10 then [UInt8.ofNat (48 + n % 10)] else digF f (n / 10) ++ [UInt8.ofNat (48 + n % 10)]
def digL (n : Nat) : List UInt8 := digF n n
theorem digF_any : ∀ (f g n : Nat), n ≤ f → n ≤ g → digF f n = digF g n
  | 0, 0, n, _, _ => rfl
  | 0, g + 1, n, h, _ => by
    obtain rfl : n = 0 := by omega
    rfl
  | f + 1, 0, n, _, h => by
    obtain rfl : n = 0 := by omega
    rfl
  | f + 1, g + 1, n, h1, h2 => by
    unfold digF
    by_cases h : n < 10
    · rw [if_pos h, if_pos h]
    · rw [if_neg h, if_neg h, digF_any f g (n / 10) (by omega) (by omega)]
theorem digL_one {n : Nat} (h : n < 10) : digL n = [UInt8.ofNat (48 + n)] := by
  unfold digL
  match n, h with
  | 0, _ => rfl
  | n + 1, h => unfold digF; rw [if_pos h, Nat.mod_eq_of_lt h]
theorem digL_more {n : Nat} (h : 10 ≤ n) : digL n = digL (n / 10) ++ [UInt8.ofNat (48 + n % 10)] := by
  unfold digL
  match n, h with
  | n + 1, h =>
    rw [show digF (n + 1) (n + 1) = digF n ((n + 1) / 10) ++ [UInt8.ofNat (48 + (n + 1) % 10)] from by
      conv => lhs; unfold digF
      rw [if_neg (by omega)]]
    rw [digF_any n ((n + 1) / 10) ((n + 1) / 10) (by omega) (by omega)]
theorem digL_le : ∀ (k n : Nat), n < 10 ^ (k + 1) → (digL n).length ≤ k + 1
  | 0, n, h => by rw [digL_one (by simpa using h)]; simp
  | k + 1, n, h => by
    by_cases h1 : n < 10
    · rw [digL_one h1]; simp
    · rw [digL_more (by omega), List.length_append]
      have := digL_le k (n / 10) (by rw [Nat.div_lt_iff_lt_mul (by omega), ← Nat.pow_succ]; exact h)
      simp; omega
theorem digL_len {n : Nat} (h : n < 10000000000000000000) : (digL n).length ≤ 19 := digL_le 18 n (by simpa using h)
/-- The class, the name of a code. -/
def clsA (c : Int) : Int := (ofL allL c).cls
def nameA (c : Int) : List UInt8 := (ofL allL c).name.data.toList
/-- Which fields a code uses: 0: none; 1: K; 2: a label; 3: K and two labels; 4: two labels. -/
def shapeI (c : Int) : Int :=
  if c = 128 ∨ c = 129 ∨ c = 132 ∨ c = 22 then 0
  else if c = 5 then 2
  else if clsA c = 1 ∨ clsA c = 2 ∨ clsA c = 5 then 1
  else if clsA c = 3 then (if withXB c = true then 0 else 1)
  else if clsA c = 4 then (if withXB c = true then 4 else 3)
  else 0
/-- Are the fields that aren't used 0? -/
def plainI (i : Ins) : Bool :=
  !(!knownB i.c || decide (shapeI i.c < 3) && (i.jt != 0 || i.jf != 0)) && (shapeI i.c == 1 || shapeI i.c == 2 || shapeI i.c == 3 || i.k == 0)
/-- The operands of an instruction at a place. -/
def opsI (i : Ins) (at_ : Int) : List UInt8 :=
  (if shapeI i.c = 1 ∨ shapeI i.c = 3 then 32 :: digL i.k.toNat else []) ++
  (if shapeI i.c = 2 then 32 :: 76 :: digL (at_ + 1 + i.k).toNat else []) ++
  (if 2 < shapeI i.c then 32 :: 76 :: digL (at_ + 1 + i.jt).toNat ++ (32 :: 76 :: digL (at_ + 1 + i.jf).toNat) else [])
/-- Its line. -/
def lineI (i : Ins) (at_ : Int) : List UInt8 := if plainI i = false ∨ at_ < 0 then [] else nameA i.c ++ opsI i at_
/-- Is an instruction, with so many others behind it, none that can be written? -/
def badI (i : Ins) (left : Int) : Bool := !plainI i || shapeI i.c == 2 && decide (left ≤ i.k) || decide (2 < shapeI i.c) && (decide (left ≤ i.jt) || decide (left ≤ i.jf))
def canTo (p : List Ins) : Nat → Bool
  | 0 => true
  | k + 1 => canTo p k && (match p[k]? with | none => true | some x => !badI x ((p.length : Int) - 1 - k))
/-- Can a program be written? -/
def canL (p : List Ins) : Bool := decide (p.length ≤ 4096) && canTo p p.length
/-- Does the instruction at a place lead to another one? -/
def goesI (i : Ins) (at_ to : Int) : Bool := shapeI i.c == 2 && at_ + 1 + i.k == to || decide (2 < shapeI i.c) && (at_ + 1 + i.jt == to || at_ + 1 + i.jf == to)
def ledTo (p : List Ins) (to : Int) : Nat → Bool
  | 0 => false
  | k + 1 => ledTo p to k || (match p[k]? with | none => false | some x => goesI x k to)
/-- Does a jump lead to a place? -/
def ledB (p : List Ins) (to : Nat) : Bool := ledTo p to to
def labelL (k : Nat) : List UInt8 := 76 :: digL k ++ [58]
/-- What the text has for an instruction. -/
def pieceL (p : List Ins) (k : Nat) : List UInt8 := (if ledB p k = true then labelL k ++ [10] else []) ++ (match p[k]? with | none => [] | some x => lineI x k ++ [10])
def textTo (p : List Ins) : Nat → List UInt8
  | 0 => []
  | k + 1 => textTo p k ++ pieceL p k
/-- The text of a program that can be written. -/
def textL (p : List Ins) : List UInt8 := textTo p p.length
end Go.Proofs.YtlneiiljdghmjaaDoor
