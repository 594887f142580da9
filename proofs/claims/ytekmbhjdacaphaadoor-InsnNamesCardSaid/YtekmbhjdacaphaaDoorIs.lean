/- What the calls of the package insn have to return, one by one, as the chapter says it: the statements of layer 2 are walked over these. Condition: a slice is as long as its capacity allows. -/
import Derived.Test.YtekmbhjdacaphaaDoorIh
import Derived.Test.YtekmbhjdacaphaaDoorIe
namespace Go.Proofs.YtekmbhjdacaphaaDoor
open Go.RowKit
set_option linter.unusedVariables false

def EncodeC : Prop := ∀ (i : Ins) (w : World), i.Ok → Calls Tryd.prog 22 #[.agg #[.int .u16 i.c, .int .u8 i.jt, .int .u8 i.jf, .int .u32 i.k]] w fun e w' =>
  ∃ p d, e = .returned (.slice p 8 d) ∧ w'.ownsRow w.heap.size 5 1 (.slice p 8 d) 8 (bv (encL i)) ∧ Below w.heap.size w w'
def DecodeC : Prop := ∀ (p : Option Addr) (c : Nat) (xs : List Int) (w : World), xs.length = 8 → Byt xs → 8 ≤ c → c ≤ maxLen → Rd w w.heap.size p xs →
  Calls Tryd.prog 28 #[.slice p 8 c] w fun e w' => e = .returned (.tuple #[.agg #[.int .u16 (decL xs).c, .int .u8 (decL xs).jt, .int .u8 (decL xs).jf, .int .u32 (decL xs).k], .int .i64 0]) ∧ Below w.heap.size w w'
def DecodeBadC : Prop := ∀ (p : Option Addr) (n c : Nat) (w : World), n ≠ 8 → n ≤ 1099511627776 → Calls Tryd.prog 28 #[.slice p n c] w fun e w' => e = .returned (.tuple #[.agg #[.int .u16 0, .int .u8 0, .int .u8 0, .int .u32 0], .int .i64 20]) ∧ Below w.heap.size w w'
def PrintC : Prop := ∀ (p : Option Addr) (n c : Nat) (l : List Ins) (w : World), l.length = n → OkL l → n ≤ 4096 → n ≤ c → c ≤ maxLen → (p = none → c = 0) → RdI w w.heap.size p l →
  Calls Tryd.prog 17 #[.slice p n c] w fun e w' => ∃ q d, e = .returned (.tuple #[.slice q (8 * n) d, .int .i64 0]) ∧ w'.ownsRow w.heap.size 5 1 (.slice q (8 * n) d) (8 * n) (bv (progB l)) ∧ Below w.heap.size w w'
def PrintLongC : Prop := ∀ (p : Option Addr) (n c : Nat) (w : World), 4096 < n → n ≤ 1099511627776 → Calls Tryd.prog 17 #[.slice p n c] w fun e w' => e = .returned (.tuple #[.slice none 0 0, .int .i64 3]) ∧ Below w.heap.size w w'
def ParseC : Prop := ∀ (p : Option Addr) (n c N : Nat) (xs : List Int) (w : World), xs.length = n → Byt xs → n = 8 * N → N ≤ 4096 → n ≤ c → c ≤ maxLen → (p = none → c = 0) → Rd w w.heap.size p xs →
  Calls Tryd.prog 18 #[.slice p n c] w fun e w' => ∃ q d, e = .returned (.tuple #[.slice q N d, .int .i64 0]) ∧ w'.ownsRow w.heap.size 47 4 (.slice q N d) N (progC (progI N xs)) ∧ Below w.heap.size w w'
def ParseBadC : Prop := ∀ (p : Option Addr) (n c : Nat) (w : World), n % 8 ≠ 0 → n ≤ 1099511627776 → Calls Tryd.prog 18 #[.slice p n c] w fun e w' => e = .returned (.tuple #[.slice none 0 0, .int .i64 20]) ∧ Below w.heap.size w w'
def ParseLongC : Prop := ∀ (p : Option Addr) (n c : Nat) (w : World), n % 8 = 0 → 32768 < n → n ≤ 1099511627776 → Calls Tryd.prog 18 #[.slice p n c] w fun e w' => e = .returned (.tuple #[.slice none 0 0, .int .i64 3]) ∧ Below w.heap.size w w'
/-- Those on bytes. -/
structure InsnB : Prop where
  encode : EncodeC
  decode : DecodeC
  decodeBad : DecodeBadC
  print_ : PrintC
  printLong : PrintLongC
  parse : ParseC
  parseBad : ParseBadC
  parseLong : ParseLongC
/-- A row of the program's own table: a code, a class, a name. -/
def rowC (o : One) : List Value := [.int .u16 o.code, .int .u8 o.cls, .string o.name]
/-- The program's own table, in its order. -/
def rowsL : List One := [⟨32, ⟨#[108, 100, 97, 98, 115]⟩, 1⟩, ⟨128, ⟨#[108, 100, 108, 101, 110]⟩, 1⟩, ⟨0, ⟨#[108, 100, 105]⟩, 1⟩, ⟨96, ⟨#[108, 100, 109]⟩, 1⟩, ⟨129, ⟨#[108, 100, 120, 108, 101, 110]⟩, 1⟩, ⟨1, ⟨#[108, 100, 120, 105]⟩, 1⟩, ⟨97, ⟨#[108, 100, 120, 109]⟩, 1⟩, ⟨2, ⟨#[115, 116]⟩, 2⟩, ⟨3, ⟨#[115, 116, 120]⟩, 2⟩, ⟨4, ⟨#[97, 100, 100]⟩, 3⟩, ⟨20, ⟨#[115, 117, 98]⟩, 3⟩, ⟨36, ⟨#[109, 117, 108]⟩, 3⟩, ⟨52, ⟨#[100, 105, 118]⟩, 3⟩, ⟨68, ⟨#[111, 114]⟩, 3⟩, ⟨84, ⟨#[97, 110, 100]⟩, 3⟩, ⟨100, ⟨#[108, 115, 104]⟩, 3⟩, ⟨116, ⟨#[114, 115, 104]⟩, 3⟩, ⟨164, ⟨#[120, 111, 114]⟩, 3⟩, ⟨12, ⟨#[97, 100, 100, 120]⟩, 3⟩, ⟨28, ⟨#[115, 117, 98, 120]⟩, 3⟩, ⟨44, ⟨#[109, 117, 108, 120]⟩, 3⟩, ⟨60, ⟨#[100, 105, 118, 120]⟩, 3⟩, ⟨76, ⟨#[111, 114, 120]⟩, 3⟩, ⟨92, ⟨#[97, 110, 100, 120]⟩, 3⟩, ⟨108, ⟨#[108, 115, 104, 120]⟩, 3⟩, ⟨124, ⟨#[114, 115, 104, 120]⟩, 3⟩, ⟨172, ⟨#[120, 111, 114, 120]⟩, 3⟩, ⟨132, ⟨#[110, 101, 103]⟩, 3⟩, ⟨5, ⟨#[106, 97]⟩, 4⟩, ⟨21, ⟨#[106, 101, 113]⟩, 4⟩, ⟨37, ⟨#[106, 103, 116]⟩, 4⟩, ⟨53, ⟨#[106, 103, 101]⟩, 4⟩, ⟨69, ⟨#[106, 115, 101, 116]⟩, 4⟩, ⟨29, ⟨#[106, 101, 113, 120]⟩, 4⟩, ⟨45, ⟨#[106, 103, 116, 120]⟩, 4⟩, ⟨61, ⟨#[106, 103, 101, 120]⟩, 4⟩, ⟨77, ⟨#[106, 115, 101, 116, 120]⟩, 4⟩, ⟨6, ⟨#[114, 101, 116]⟩, 5⟩, ⟨22, ⟨#[114, 101, 116, 97]⟩, 5⟩, ⟨7, ⟨#[116, 97, 120]⟩, 6⟩, ⟨135, ⟨#[116, 120, 97]⟩, 6⟩]
/-- The table lies in the package's variable, as its text lays it. -/
def GW (w : World) : Prop := ∀ j u, (rowsL.flatMap rowC)[j]? = some u → w.cell? ⟨0, j, none⟩ = some u
theorem GW.keep {w w' : World} (h : GW w) (hk : ∀ q u, w.cell? q = some u → w'.cell? q = some u) : GW w' := fun j u hu => hk _ _ (h j u hu)
theorem GW.on {w w' : World} (h : GW w) (hb : Below w.heap.size w w') : GW w' := h.keep fun q u hu => (hb.cell (World.block_lt_of_cell? w q hu)).trans hu
theorem GW.alloc {w : World} (h : GW w) (o : Obj) : GW (w.alloc o) := h.keep fun q u hu => (World.cell?_alloc_lt w o q (World.block_lt_of_cell? w q hu)).trans hu
theorem GW.drew {w : World} (h : GW w) : GW w.drew := h
def KnownC : Prop := ∀ (c : Int) (w : World), GW w → 0 ≤ c → c < 65536 → Calls Tryd.prog 10 #[.int .u16 c] w fun e w' => e = .returned (.bool (knownB c)) ∧ Below w.heap.size w w'
def OfC : Prop := ∀ (c : Int) (w : World), GW w → 0 ≤ c → c < 65536 → Calls Tryd.prog 12 #[.int .u16 c] w fun e w' => e = .returned (.int .u8 (ofL allL c).cls) ∧ Below w.heap.size w w'
def NameC : Prop := ∀ (c : Int) (w : World), GW w → 0 ≤ c → c < 65536 → Calls Tryd.prog 13 #[.int .u16 c] w fun e w' => e = .returned (.string (ofL allL c).name) ∧ Below w.heap.size w w'
def CodeC : Prop := ∀ (s : ByteArray) (w : World), GW w → s.size ≤ maxLen → Calls Tryd.prog 8 #[.string s] w fun e w' => e = .returned (.tuple #[.int .u16 (codeV s), .bool (codeB s)]) ∧ Below w.heap.size w w'
def WithXC : Prop := ∀ (c : Int) (w : World), GW w → 0 ≤ c → c < 65536 → Calls Tryd.prog 14 #[.int .u16 c] w fun e w' => e = .returned (.bool (withXB c)) ∧ Below w.heap.size w w'
def SameC : Prop := ∀ (p q : Option Addr) (n c m d : Nat) (xs ys : List Ins) (w : World), xs.length = n → ys.length = m → OkL xs → OkL ys → n ≤ 1099511627776 → m ≤ 1099511627776 → RdI w w.heap.size p xs → RdI w w.heap.size q ys →
  Calls Tryd.prog 19 #[.slice p n c, .slice q m d] w fun e w' => e = .returned (.bool (sameI xs ys)) ∧ Below w.heap.size w w'
/-- All of them. -/
structure InsnC : Prop extends InsnB where
  known : KnownC
  of_ : OfC
  name_ : NameC
  code : CodeC
  withX : WithXC
  same : SameC
theorem own_shape' {w : World} {B n d : Nat} {e : TypeId} {p : Option Addr} {xs : List Int} (h : w.ownsRow B e 1 (.slice p n d) n (bv xs)) : Rd w w.heap.size p xs ∧ (p = none → d = 0) ∧ n ≤ d ∧ d ≤ maxLen := by
  have hl : xs.length = n := by have := h.1; rw [bv_length] at this; omega
  rcases h.2 with ⟨hv, rfl⟩ | ⟨g, cap, cur, hv, hg, hh, hc, hm, r⟩
  · injection hv with h1 h2 h3
    subst h1 h3
    obtain rfl : xs = [] := List.eq_nil_of_length_eq_zero hl
    exact ⟨Rd.nil _ _ _, fun _ => rfl, Nat.le_refl _, Nat.zero_le _⟩
  · injection hv with h1 h2 h3
    subst h1 h3
    exact ⟨Rd.of_own h, (fun h => by cases h), hc, hm⟩
theorem own_shapeI' {w : World} {B n d : Nat} {e : TypeId} {p : Option Addr} {l : List Ins} (h : w.ownsRow B e 4 (.slice p n d) n (progC l)) : RdI w w.heap.size p l ∧ (p = none → d = 0) ∧ n ≤ d ∧ d ≤ maxLen := by
  have hl : l.length = n := by have := h.1; rw [progC_length] at this; omega
  rcases h.2 with ⟨hv, rfl⟩ | ⟨g, cap, cur, hv, hg, hh, hc, hm, r⟩
  · injection hv with h1 h2 h3
    subst h1 h3
    obtain rfl : l = [] := List.eq_nil_of_length_eq_zero hl
    exact ⟨RdI.nil _ _ _, fun _ => rfl, Nat.le_refl _, Nat.zero_le _⟩
  · injection hv with h1 h2 h3
    subst h1 h3
    refine ⟨RdI.of_cells (h.lt g rfl).2 (fun j u hu => ?_), (fun h => by cases h), hc, hm⟩
    have := h.cells (g := g) rfl j u hu
    rwa [Addr.add_lit] at this
end Go.Proofs.YtekmbhjdacaphaaDoor
