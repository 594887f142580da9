/- What the functions Put16, Put32, Put64 of the package words return, and what the document's own Put and Get return at 2, 4 and 8 bytes. Condition: the number is at least 0. -/
import Derived.Test.YtfmfjnnbldmdlaaDoorWb
namespace Go.Proofs.YtfmfjnnbldmdlaaDoor
open Go.RowKit
set_option linter.unusedVariables false

/-- The bytes as values. -/
def bv (l : List Int) : List Value := l.map (Value.int .u8)
theorem bv_length (l : List Int) : (bv l).length = l.length := List.length_map ..
theorem bv_get {l : List Int} {i : Nat} (h : i < l.length) : (bv l)[i]? = some (.int .u8 (l.getD i 0)) := by
  simp [bv, List.getD_eq_getElem?_getD, h]
theorem bv_set (l : List Int) (i : Nat) (x : Int) : (bv l).set i (.int .u8 x) = bv (l.set i x) := by simp [bv, List.map_set]
/-- The first k bytes of x are laid, the others are 0. -/
def laidL (n k : Nat) (x : Int) : List Int := putL k x ++ List.replicate (n - k) 0
theorem laidL_length {n k : Nat} (x : Int) (h : k ≤ n) : (laidL n k x).length = n := by simp [laidL, putL_length]; omega
theorem laidL_all (n : Nat) (x : Int) : laidL n n x = putL n x := by simp [laidL]
theorem laidL_none (n : Nat) (x : Int) : laidL n 0 x = List.replicate n 0 := by simp [laidL, putL]
theorem laidL_set {n k : Nat} (x : Int) (h : k < n) : (laidL n k x).set k (x / 256 ^ k % 256) = laidL n (k + 1) x := by
  unfold laidL
  rw [putL_snoc, List.set_append_right _ _ (by rw [putL_length]; exact Nat.le_refl _), putL_length, Nat.sub_self]
  have e : n - k = n - (k + 1) + 1 := by omega
  rw [e, List.replicate_succ, List.set_cons_zero, List.append_assoc]; rfl
theorem laidL_step {w w1 : World} {base g n c k : Nat} {e : TypeId} {x y : Int} (hk : k < n) (hy : y = x / 256 ^ k % 256)
    (h : w.ownsRow base e 1 (.slice (some ⟨g, 0, none⟩) n c) n (bv (laidL n k x))) (hw : w1 = w.setCell ⟨g, k, none⟩ (.int .u8 y)) :
    w1.ownsRow base e 1 (.slice (some ⟨g, 0, none⟩) n c) n (bv (laidL n (k + 1) x)) := by
  subst hy hw
  have := (h.stored k (.int .u8 (x / 256 ^ k % 256))).1
  rwa [bv_set, laidL_set x hk] at this
theorem laidL_cell {w : World} {base g n c k : Nat} {e : TypeId} {x : Int} (hk : k < n)
    (h : w.ownsRow base e 1 (.slice (some ⟨g, 0, none⟩) n c) n (bv (laidL n k x))) : ∃ v, w.cell? ⟨g, k, none⟩ = some (.int .u8 v) := by
  rw [h.cellAt k (by omega)]
  exact ⟨_, bv_get (by rw [laidL_length x (by omega)]; exact hk)⟩
theorem shr_step (x : Int) (k : Nat) : x / 2 ^ (8 * k) % 256 = x / 256 ^ k % 256 := by rw [pow_byte]
theorem ret_slice {g g' n : Nat} (h : g = g') : Ending.returned (.slice (some ⟨g, 0, none⟩) n n) = .returned (.slice (some ⟨g', 0, none⟩) n n) := by rw [h]
theorem u8_zero : (Tryd.prog.info? 5).map (fun i => (i.zero, i.size, i.bytes)) = some (some (.int .u8 0), 1, 1) := by kernel_rfl
/-- n bytes in new memory. -/
theorem own_new (w : World) (n : Nat) (hn : n ≤ 100) (x : Int) (cs : Array Value) (hcs : cs.toList = bv (List.replicate n 0)) :
    (w.alloc (.cells cs 5)).ownsRow w.heap.size 5 1 (.slice (some ⟨w.heap.size, 0, none⟩) n n) n (bv (laidL n 0 x)) := by
  have hs : cs.size = n * 1 := by rw [← Array.length_toList, hcs, bv_length]; simp
  have := World.ownsRow_lit (base := w.heap.size) (e := 5) (size := 1) w cs n (Nat.le_refl _) (by unfold maxLen; omega) hs
  rwa [hcs, ← laidL_none n x] at this

theorem refPut_div (x : Int) (k : Nat) (h : 0 ≤ x) : x / 256 ^ k / 256 = x / 256 ^ (k + 1) := by
  rw [Int.pow_succ, Int.ediv_ediv_of_nonneg (Int.le_of_lt (pow_pos' k))]
theorem make2 (w : World) : (Instr.makeSlice 83 (.int .i64 2) (.int .i64 2)).run Tryd.prog w = .ok (.slice (some ⟨w.heap.size, 0, none⟩) 2 2) (w.alloc (.cells #[.int .u8 0, .int .u8 0] 5)) := by kernel_rfl
theorem make4 (w : World) : (Instr.makeSlice 83 (.int .i64 4) (.int .i64 4)).run Tryd.prog w = .ok (.slice (some ⟨w.heap.size, 0, none⟩) 4 4) (w.alloc (.cells #[.int .u8 0, .int .u8 0, .int .u8 0, .int .u8 0] 5)) := by kernel_rfl
theorem make8 (w : World) : (Instr.makeSlice 83 (.int .i64 8) (.int .i64 8)).run Tryd.prog w = .ok (.slice (some ⟨w.heap.size, 0, none⟩) 8 8) (w.alloc (.cells #[.int .u8 0, .int .u8 0, .int .u8 0, .int .u8 0, .int .u8 0, .int .u8 0, .int .u8 0, .int .u8 0] 5)) := by kernel_rfl
theorem refGet2_step {xs : List Int} {a j d : Nat} (hB : Byt xs) (hd : d + (j + 1) = 2) (h : a + 2 ≤ xs.length) :
    IntKind.u64.wrap (IntKind.u64.wrap (leV ((xs.drop (a + (j + 1))).take d) * 256) + IntKind.u64.wrap (xs[a + j]?.getD 0)) = leV ((xs.drop (a + j)).take (2 - j)) := by
  have hl : ((xs.drop (a + (j + 1))).take d).length = d := by rw [List.length_take, List.length_drop]; omega
  have h1 := ((hB.drop (a + (j + 1))).take d)
  have h2 := leV_lt h1
  have h2' := leV_nonneg h1
  have h3 := hB.get? (a + j)
  have e : 2 - j = d + 1 := by omega
  have hh : (256 : Int) ^ ((xs.drop (a + (j + 1))).take d).length ≤ 72057594037927936 := by
    rw [hl]
    have hn : (256 : Nat) ^ d ≤ 256 ^ 7 := Nat.pow_le_pow_right (by decide) (by omega)
    have e2 : ((256 ^ d : Nat) : Int) = 256 ^ d := by rw [Int.natCast_pow]; rfl
    have h3 : (256 : Nat) ^ 7 = 72057594037927936 := rfl
    omega
  rw [e, take_cons (by omega)]
  simp only [leV, IntKind.wrap_u64, Nat.add_assoc]
  omega
theorem refGet4_step {xs : List Int} {a j d : Nat} (hB : Byt xs) (hd : d + (j + 1) = 4) (h : a + 4 ≤ xs.length) :
    IntKind.u64.wrap (IntKind.u64.wrap (leV ((xs.drop (a + (j + 1))).take d) * 256) + IntKind.u64.wrap (xs[a + j]?.getD 0)) = leV ((xs.drop (a + j)).take (4 - j)) := by
  have hl : ((xs.drop (a + (j + 1))).take d).length = d := by rw [List.length_take, List.length_drop]; omega
  have h1 := ((hB.drop (a + (j + 1))).take d)
  have h2 := leV_lt h1
  have h2' := leV_nonneg h1
  have h3 := hB.get? (a + j)
  have e : 4 - j = d + 1 := by omega
  have hh : (256 : Int) ^ ((xs.drop (a + (j + 1))).take d).length ≤ 72057594037927936 := by
    rw [hl]
    have hn : (256 : Nat) ^ d ≤ 256 ^ 7 := Nat.pow_le_pow_right (by decide) (by omega)
    have e2 : ((256 ^ d : Nat) : Int) = 256 ^ d := by rw [Int.natCast_pow]; rfl
    have h3 : (256 : Nat) ^ 7 = 72057594037927936 := rfl
    omega
  rw [e, take_cons (by omega)]
  simp only [leV, IntKind.wrap_u64, Nat.add_assoc]
  omega
theorem refGet8_step {xs : List Int} {a j d : Nat} (hB : Byt xs) (hd : d + (j + 1) = 8) (h : a + 8 ≤ xs.length) :
    IntKind.u64.wrap (IntKind.u64.wrap (leV ((xs.drop (a + (j + 1))).take d) * 256) + IntKind.u64.wrap (xs[a + j]?.getD 0)) = leV ((xs.drop (a + j)).take (8 - j)) := by
  have hl : ((xs.drop (a + (j + 1))).take d).length = d := by rw [List.length_take, List.length_drop]; omega
  have h1 := ((hB.drop (a + (j + 1))).take d)
  have h2 := leV_lt h1
  have h2' := leV_nonneg h1
  have h3 := hB.get? (a + j)
  have e : 8 - j = d + 1 := by omega
  have hh : (256 : Int) ^ ((xs.drop (a + (j + 1))).take d).length ≤ 72057594037927936 := by
    rw [hl]
    have hn : (256 : Nat) ^ d ≤ 256 ^ 7 := Nat.pow_le_pow_right (by decide) (by omega)
    have e2 : ((256 ^ d : Nat) : Int) = 256 ^ d := by rw [Int.natCast_pow]; rfl
    have h3 : (256 : Nat) ^ 7 = 72057594037927936 := rfl
    omega
  rw [e, take_cons (by omega)]
  simp only [leV, IntKind.wrap_u64, Nat.add_assoc]
  omega
end Go.Proofs.YtfmfjnnbldmdlaaDoor
