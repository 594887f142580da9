/- What the calls of the package arch have to return, as the chapter says it. -/
import Derived.Test.YtjfoipjifjblmaaDoorBa
namespace Go.Proofs.YtjfoipjifjblmaaDoor
open Go.RowKit
set_option linter.unusedVariables false

/-- The row of numbers from nought to five. -/
def sixL : List Int := [0, 1, 2, 3, 4, 5]
/-- What arch.Name, Parse, Token, Of, All, In, Of64 have to return, over what must lie in memory. -/
structure ArchC (G : World → Prop) : Prop where
  on : ∀ {w w' : World}, G w → Below w.heap.size w w' → G w'
  name : ∀ (a : Int) (w : World), G w → -9223372036854775808 ≤ a → a ≤ 9223372036854775807 → Calls Tryd.prog 11 #[.int .i64 a] w fun e w' => e = .returned (.string (nameR a)) ∧ Below w.heap.size w w'
  parse : ∀ (s : ByteArray) (w : World), G w → s.size ≤ maxLen → Calls Tryd.prog 9 #[.string s] w fun e w' => e = .returned (.tuple #[.int .i64 (parR s).1, .int .i64 (parR s).2]) ∧ Below w.heap.size w w'
  token : ∀ (a : Int) (w : World), G w → -9223372036854775808 ≤ a → a ≤ 9223372036854775807 → Calls Tryd.prog 13 #[.int .i64 a] w fun e w' => e = .returned (.tuple #[.int .u32 (tokR a), .int .i64 (tokE a)]) ∧ Below w.heap.size w w'
  of_ : ∀ (t nr : Int) (w : World), G w → 0 ≤ t → t < 4294967296 → 0 ≤ nr → nr < 4294967296 → Calls Tryd.prog 16 #[.int .u32 t, .int .u32 nr] w fun e w' => e = .returned (.tuple #[.int .i64 (ofR t nr).1, .bool (ofR t nr).2]) ∧ Below w.heap.size w w'
  all : ∀ (w : World), G w → Calls Tryd.prog 20 #[] w fun e w' => ∃ (b : Nat) (o c : Nat), e = .returned (.slice (some ⟨b, o, none⟩) 6 c) ∧ b < w'.heap.size ∧ (∀ i, i < 6 → w'.cell? ⟨b, o + i, none⟩ = some (.int .i64 i)) ∧ Below w.heap.size w w'
  in_ : ∀ (a0 : Option Addr) (n cap : Nat) (l : List Int) (a : Int) (w : World), G w → l.length = n → (∀ y ∈ l, -9223372036854775808 ≤ y ∧ y ≤ 9223372036854775807) → n ≤ 1000 → n ≤ cap → cap ≤ maxLen → (a0 = none → cap = 0) → -9223372036854775808 ≤ a → a ≤ 9223372036854775807 → RdZ w w.heap.size a0 l → Calls Tryd.prog 18 #[.slice a0 n cap, .int .i64 a] w fun e w' => e = .returned (.bool (inR l a)) ∧ Below w.heap.size w w'
  of64 : ∀ (a : Int) (w : World), G w → -9223372036854775808 ≤ a → a ≤ 9223372036854775807 → Calls Tryd.prog 15 #[.int .i64 a] w fun e w' => e = .returned (.bool (o64R a)) ∧ Below w.heap.size w w'
theorem ArchC.al {G : World → Prop} (H : ArchC G) {w : World} (h : G w) (o : Obj) : G (w.alloc o) := H.on h ((Below.refl _ _).alloc (Nat.le_refl _) o)
end Go.Proofs.YtjfoipjifjblmaaDoor
