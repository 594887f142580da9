/- Architectures as the chapter says them: names, tokens, whose a token and a number are; numbers that came in as a list; what the document's own calls return. No condition. -/
import Derived.Test.YtijnkhenplmghaaDoorWd
import Derived.Deep.AppendLies
import Derived.Deep.DrawnRows
import Derived.RegionTactic
import Derived.BigRegion
namespace Go.Proofs.YtijnkhenplmghaaDoor
open Go.ChangeShapes Go.WideShapes Go.ChangeAt Go.RowKit
set_option linter.unusedVariables false
attribute [local go_sem ↓] Go.wp_at_zero Go.wp_at_succ

/-- A slice of numbers can be read. -/
def RdZ (w : World) (B : Nat) (p : Option Addr) (l : List Int) : Prop := 0 < l.length → ∃ b o, p = some ⟨b, o, none⟩ ∧ b < B ∧ ∀ i, i < l.length → w.cell? ⟨b, o + i, none⟩ = some (.int .i64 (l.getD i 0))
theorem RdZ.on {w w' : World} {p : Option Addr} {l : List Int} (h : RdZ w w.heap.size p l) (hb : Below w.heap.size w w') : RdZ w' w'.heap.size p l := fun h0 => by
  obtain ⟨b, o, rfl, hlt, hc⟩ := h h0
  exact ⟨b, o, rfl, Nat.lt_of_lt_of_le hlt hb.size, fun i hi => (hb.cell (p := ⟨b, o + i, none⟩) hlt).trans (hc i hi)⟩
/-- What is known of a slice of numbers that came in. -/
structure IsInts (w : World) (a : Option Addr) (len cap : Nat) (z : List Int) : Prop where
  size : z.length = len
  rng : ∀ y ∈ z, -9223372036854775808 ≤ y ∧ y ≤ 9223372036854775807
  fits : len ≤ cap
  most : cap ≤ maxLen
  rd : RdZ w w.heap.size a z
  nil : a = none → cap = 0
theorem ints_open {H : Type} {enc : TypeId × Value → H} {W : World} {a : Option Addr} {len cap : Nat} {d : DataW H} {p : List MemPlace}
    (h : DataW.Trod enc Tryd.prog W 0 (fun _ => true) true 53 (.slice a len cap) d p) (lt : ∀ x ∈ p, x.block < W.heap.size) : ∃ z, IsInts W a len cap z := by
  obtain ⟨fuel, hf⟩ := h
  rcases open_ints Tryd.underlying53 Tryd.underlying3 (by kernel_rfl) hf with ⟨hcs, _⟩ | ⟨x, l, c, zs, hcs, _, hl, hm, hz, _, hcell, hwz⟩
  · simp [Value.cells] at hcs
    obtain ⟨rfl, rfl, rfl⟩ := hcs
    exact ⟨[], rfl, fun y hy => absurd hy (by simp), Nat.le_refl _, by unfold maxLen; omega, fun h => absurd h (by simp), fun _ => rfl⟩
  · simp [Value.cells] at hcs
    obtain ⟨rfl, rfl, rfl⟩ := hcs
    have hz : zs.length = cap := by simpa using hz
    have hlt : ((zs.take len).length) = len := by rw [List.length_take]; omega
    refine ⟨zs.take len, hlt, fun y hy => ?_, hl, hm, fun hn => ?_, fun h => by cases h⟩
    · exact bounds_i64 (hwz y (List.mem_of_mem_take hy))
    · rw [hlt] at hn ⊢
      obtain ⟨b, o, s⟩ := x
      have hc := hcell 0 (by omega)
      have hs : s = none := by simpa [Addr.add] using World.cell?_spot hc
      subst hs
      refine ⟨b, o, rfl, World.block_lt_of_cell? W _ hc, fun i hi => ?_⟩
      have h1 := hcell i (by omega)
      rw [Addr.add_lit] at h1
      rw [h1]
      simp [List.getD_eq_getElem?_getD, hi]
/-- The names, the tokens. -/
def archN : List ByteArray := [⟨#[120, 56, 54, 45, 54, 52]⟩, ⟨#[120, 56, 54]⟩, ⟨#[120, 51, 50]⟩, ⟨#[97, 114, 109]⟩, ⟨#[97, 114, 109, 54, 52]⟩, ⟨#[114, 105, 115, 99, 118, 54, 52]⟩]
def archT : List Int := [3221225534, 1073741827, 3221225534, 1073741864, 3221225655, 3221225715]
def nameR (a : Int) : ByteArray := if 0 ≤ a ∧ a < 6 then archN.getD a.toNat ⟨#[]⟩ else ⟨#[]⟩
def tokR (a : Int) : Int := if 0 ≤ a ∧ a < 6 then archT.getD a.toNat 0 else 0
def tokE (a : Int) : Int := if 0 ≤ a ∧ a < 6 then 0 else 80
def o64R (a : Int) : Bool := a == 0 || a == 4 || a == 5
def findN (s : ByteArray) : Option Nat := archN.findIdx? (fun x => decide (x = s))
def findT (t : Int) : Option Nat := archT.findIdx? (fun x => decide (x = t))
/-- The architecture of a name. -/
def parR (s : ByteArray) : Int × Int := match findN s with | some k => ((k : Nat), 0) | none => if s = ⟨#[110, 97, 116, 105, 118, 101]⟩ then (0, 0) else (0, 80)
/-- Whose a token and a number are. -/
def ofR (t nr : Int) : Int × Bool := if t = 3221225534 then (if nr / 1073741824 % 2 = 1 then (2, true) else (0, true)) else match findT t with | some k => ((k : Nat), true) | none => (0, false)
def inR (l : List Int) (a : Int) : Bool := decide (a ∈ l) || l.isEmpty
theorem names_cell (w : World) {k : Nat} (hk : k < 6) : (w.alloc (.cells #[.string ⟨#[120, 56, 54, 45, 54, 52]⟩, .string ⟨#[120, 56, 54]⟩, .string ⟨#[120, 51, 50]⟩, .string ⟨#[97, 114, 109]⟩, .string ⟨#[97, 114, 109, 54, 52]⟩, .string ⟨#[114, 105, 115, 99, 118, 54, 52]⟩] 9)).cell? ⟨w.heap.size, k, none⟩ = some (.string (archN.getD k ⟨#[]⟩)) := by
  rw [cell_of_row _ _ k _ _ (0, 0) (heap_alloc_new w _)]
  match k, hk with
  | 0, _ => rfl
  | 1, _ => rfl
  | 2, _ => rfl
  | 3, _ => rfl
  | 4, _ => rfl
  | 5, _ => rfl
  | k + 6, hk => omega
theorem tokens_cell (w : World) {k : Nat} (hk : k < 6) : (w.alloc (.cells #[.int .u32 3221225534, .int .u32 1073741827, .int .u32 3221225534, .int .u32 1073741864, .int .u32 3221225655, .int .u32 3221225715] 22)).cell? ⟨w.heap.size, k, none⟩ = some (.int .u32 (archT.getD k 0)) := by
  rw [cell_of_row _ _ k _ _ (0, 0) (heap_alloc_new w _)]
  match k, hk with
  | 0, _ => rfl
  | 1, _ => rfl
  | 2, _ => rfl
  | 3, _ => rfl
  | 4, _ => rfl
  | 5, _ => rfl
  | k + 6, hk => omega
theorem list_of_bytes8 {a b : ByteArray} (h : a.toList = b.toList) : a = b := by
  apply ByteArray.ext
  have h2 := congrArg List.toArray h
  simpa [ByteArray.toList_eq] using h2
theorem getD_of {α : Type} {l : List α} {k : Nat} {d : α} (h : k < l.length) : l.getD k d = l[k] := by rw [List.getD_eq_getElem?_getD, List.getElem?_eq_getElem h]; rfl
theorem findN_hit {s : ByteArray} {k : Nat} (hk : k < 6) (h : archN.getD k ⟨#[]⟩ = s) (hm : ∀ j, j < k → archN.getD j ⟨#[]⟩ ≠ s) : findN s = some k := by
  have hl : archN.length = 6 := rfl
  unfold findN
  rw [List.findIdx?_eq_some_iff_getElem]
  refine ⟨by omega, ?_, fun j hj => ?_⟩
  · rw [← getD_of (d := ⟨#[]⟩) (by omega), h]; simp
  · rw [← getD_of (d := ⟨#[]⟩) (by omega), decide_eq_false (hm j hj)]; decide
theorem findN_miss {s : ByteArray} (hm : ∀ j, j < 6 → archN.getD j ⟨#[]⟩ ≠ s) : findN s = none := by
  have hl : archN.length = 6 := rfl
  unfold findN
  rw [List.findIdx?_eq_none_iff]
  intro x hx
  obtain ⟨j, hj, e⟩ := List.mem_iff_getElem.1 hx
  exact decide_eq_false (by rw [← e, ← getD_of (d := ⟨#[]⟩) hj]; exact hm j (by omega))
theorem findT_hit {t : Int} {k : Nat} (hk : k < 6) (h : archT.getD k 0 = t) (hm : ∀ j, j < k → archT.getD j 0 ≠ t) : findT t = some k := by
  have hl : archT.length = 6 := rfl
  unfold findT
  rw [List.findIdx?_eq_some_iff_getElem]
  refine ⟨by omega, ?_, fun j hj => ?_⟩
  · rw [← getD_of (d := 0) (by omega), h]; simp
  · rw [← getD_of (d := 0) (by omega), decide_eq_false (hm j hj)]; decide
theorem findT_miss {t : Int} (hm : ∀ j, j < 6 → archT.getD j 0 ≠ t) : findT t = none := by
  have hl : archT.length = 6 := rfl
  unfold findT
  rw [List.findIdx?_eq_none_iff]
  intro x hx
  obtain ⟨j, hj, e⟩ := List.mem_iff_getElem.1 hx
  exact decide_eq_false (by rw [← e, ← getD_of (d := 0) hj]; exact hm j (by omega))
end Go.Proofs.YtijnkhenplmghaaDoor
