/- What the calls of the package insn have to return, one by one, as the chapter says it: the statements of layer 2 are walked over these. Condition: a slice is as long as its capacity allows. -/
import Derived.Test.YthhfpehngdohhaaDoorIh
import Derived.Test.YthhfpehngdohhaaDoorIe
namespace Go.Proofs.YthhfpehngdohhaaDoor
open Go.RowKit
set_option linter.unusedVariables false

/-- A row of the program's own table: a code, a class, a name. -/
def rowC (o : One) : List Value := [.int .u16 o.code, .int .u8 o.cls, .string o.name]
/-- The program's own table, in its order. -/
def rowsL : List One := [⟨32, ⟨#[108, 100, 97, 98, 115]⟩, 1⟩, ⟨128, ⟨#[108, 100, 108, 101, 110]⟩, 1⟩, ⟨0, ⟨#[108, 100, 105]⟩, 1⟩, ⟨96, ⟨#[108, 100, 109]⟩, 1⟩, ⟨129, ⟨#[108, 100, 120, 108, 101, 110]⟩, 1⟩, ⟨1, ⟨#[108, 100, 120, 105]⟩, 1⟩, ⟨97, ⟨#[108, 100, 120, 109]⟩, 1⟩, ⟨2, ⟨#[115, 116]⟩, 2⟩, ⟨3, ⟨#[115, 116, 120]⟩, 2⟩, ⟨4, ⟨#[97, 100, 100]⟩, 3⟩, ⟨20, ⟨#[115, 117, 98]⟩, 3⟩, ⟨36, ⟨#[109, 117, 108]⟩, 3⟩, ⟨52, ⟨#[100, 105, 118]⟩, 3⟩, ⟨68, ⟨#[111, 114]⟩, 3⟩, ⟨84, ⟨#[97, 110, 100]⟩, 3⟩, ⟨100, ⟨#[108, 115, 104]⟩, 3⟩, ⟨116, ⟨#[114, 115, 104]⟩, 3⟩, ⟨164, ⟨#[120, 111, 114]⟩, 3⟩, ⟨12, ⟨#[97, 100, 100, 120]⟩, 3⟩, ⟨28, ⟨#[115, 117, 98, 120]⟩, 3⟩, ⟨44, ⟨#[109, 117, 108, 120]⟩, 3⟩, ⟨60, ⟨#[100, 105, 118, 120]⟩, 3⟩, ⟨76, ⟨#[111, 114, 120]⟩, 3⟩, ⟨92, ⟨#[97, 110, 100, 120]⟩, 3⟩, ⟨108, ⟨#[108, 115, 104, 120]⟩, 3⟩, ⟨124, ⟨#[114, 115, 104, 120]⟩, 3⟩, ⟨172, ⟨#[120, 111, 114, 120]⟩, 3⟩, ⟨132, ⟨#[110, 101, 103]⟩, 3⟩, ⟨5, ⟨#[106, 97]⟩, 4⟩, ⟨21, ⟨#[106, 101, 113]⟩, 4⟩, ⟨37, ⟨#[106, 103, 116]⟩, 4⟩, ⟨53, ⟨#[106, 103, 101]⟩, 4⟩, ⟨69, ⟨#[106, 115, 101, 116]⟩, 4⟩, ⟨29, ⟨#[106, 101, 113, 120]⟩, 4⟩, ⟨45, ⟨#[106, 103, 116, 120]⟩, 4⟩, ⟨61, ⟨#[106, 103, 101, 120]⟩, 4⟩, ⟨77, ⟨#[106, 115, 101, 116, 120]⟩, 4⟩, ⟨6, ⟨#[114, 101, 116]⟩, 5⟩, ⟨22, ⟨#[114, 101, 116, 97]⟩, 5⟩, ⟨7, ⟨#[116, 97, 120]⟩, 6⟩, ⟨135, ⟨#[116, 120, 97]⟩, 6⟩]
/-- The table lies in the package's variable, as its text lays it. -/
def GW (w : World) : Prop := ∀ j u, (rowsL.flatMap rowC)[j]? = some u → w.cell? ⟨0, j, none⟩ = some u
theorem GW.keep {w w' : World} (h : GW w) (hk : ∀ q u, w.cell? q = some u → w'.cell? q = some u) : GW w' := fun j u hu => hk _ _ (h j u hu)
theorem GW.on {w w' : World} (h : GW w) (hb : Below w.heap.size w w') : GW w' := h.keep fun q u hu => (hb.cell (World.block_lt_of_cell? w q hu)).trans hu
theorem GW.alloc {w : World} (h : GW w) (o : Obj) : GW (w.alloc o) := h.keep fun q u hu => (World.cell?_alloc_lt w o q (World.block_lt_of_cell? w q hu)).trans hu
theorem GW.drew {w : World} (h : GW w) : GW w.drew := h
def OfC : Prop := ∀ (c : Int) (w : World), GW w → 0 ≤ c → c < 65536 → Calls Tryd.prog 42 #[.int .u16 c] w fun e w' => e = .returned (.int .u8 (ofL allL c).cls) ∧ Below w.heap.size w w'
def WithXC : Prop := ∀ (c : Int) (w : World), GW w → 0 ≤ c → c < 65536 → Calls Tryd.prog 73 #[.int .u16 c] w fun e w' => e = .returned (.bool (withXB c)) ∧ Below w.heap.size w w'
theorem own_shape' {w : World} {B n d : Nat} {e : TypeId} {p : Option Addr} {xs : List Int} (h : w.ownsRow B e 1 (.slice p n d) n (bv xs)) : Rd w w.heap.size p xs ∧ (p = none → d = 0) ∧ n ≤ d ∧ d ≤ maxLen := by
  have hl : xs.length = n := by have := h.1; rw [bv_length] at this; omega
  rcases h.2 with ⟨hv, rfl⟩ | ⟨g, cap, cur, hv, hg, hh, hc, hm, r⟩
  · injection hv with h1 h2 h3
    subst h1 h3
    obtain rfl : xs = [] := List.eq_nil_of_length_eq_zero hl
    exact ⟨Rd.nil _ _ _, fun _ => rfl, Nat.le_refl _, Nat.zero_le _⟩
  · injection hv with h1 h2 h3
    subst h1 h3
    exact ⟨Rd.of_own h, (fun h => by cases h), hc, hm⟩
theorem own_shapeI' {w : World} {B n d : Nat} {e : TypeId} {p : Option Addr} {l : List Ins} (h : w.ownsRow B e 4 (.slice p n d) n (progC l)) : RdI w w.heap.size p l ∧ (p = none → d = 0) ∧ n ≤ d ∧ d ≤ maxLen := by
  have hl : l.length = n := by have := h.1; rw [progC_length] at this; omega
  rcases h.2 with ⟨hv, rfl⟩ | ⟨g, cap, cur, hv, hg, hh, hc, hm, r⟩
  · injection hv with h1 h2 h3
    subst h1 h3
    obtain rfl : l = [] := List.eq_nil_of_length_eq_zero hl
    exact ⟨RdI.nil _ _ _, fun _ => rfl, Nat.le_refl _, Nat.zero_le _⟩
  · injection hv with h1 h2 h3
    subst h1 h3
    refine ⟨RdI.of_cells (h.lt g rfl).2 (fun j u hu => ?_), (fun h => by cases h), hc, hm⟩
    have := h.cells (g := g) rfl j u hu
    rwa [Addr.add_lit] at this
end Go.Proofs.YthhfpehngdohhaaDoor
