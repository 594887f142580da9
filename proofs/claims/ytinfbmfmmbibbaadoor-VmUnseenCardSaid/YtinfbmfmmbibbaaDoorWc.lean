/- What the functions Put16, Put32, Put64 of the package words return, and what the document's own Put and Get return at 2, 4 and 8 bytes. Condition: the number is at least 0. -/
import Derived.Test.YtinfbmfmmbibbaaDoorWb
namespace Go.Proofs.YtinfbmfmmbibbaaDoor
open Go.RowKit
set_option linter.unusedVariables false

/-- The bytes as values. -/
def bv (l : List Int) : List Value := l.map (Value.int .u8)
theorem bv_length (l : List Int) : (bv l).length = l.length := List.length_map ..
theorem bv_get {l : List Int} {i : Nat} (h : i < l.length) : (bv l)[i]? = some (.int .u8 (l.getD i 0)) := by
  simp [bv, List.getD_eq_getElem?_getD, h]
theorem bv_set (l : List Int) (i : Nat) (x : Int) : (bv l).set i (.int .u8 x) = bv (l.set i x) := by simp [bv, List.map_set]
/-- The first k bytes of x are laid, the others are 0. -/
def laidL (n k : Nat) (x : Int) : List Int := putL k x ++ List.replicate (n - k) 0
theorem laidL_length {n k : Nat} (x : Int) (h : k ≤ n) : (laidL n k x).length = n := by simp [laidL, putL_length]; omega
theorem laidL_all (n : Nat) (x : Int) : laidL n n x = putL n x := by simp [laidL]
theorem laidL_none (n : Nat) (x : Int) : laidL n 0 x = List.replicate n 0 := by simp [laidL, putL]
theorem laidL_set {n k : Nat} (x : Int) (h : k < n) : (laidL n k x).set k (x / 256 ^ k % 256) = laidL n (k + 1) x := by
  unfold laidL
  rw [putL_snoc, List.set_append_right _ _ (by rw [putL_length]; exact Nat.le_refl _), putL_length, Nat.sub_self]
  have e : n - k = n - (k + 1) + 1 := by omega
  rw [e, List.replicate_succ, List.set_cons_zero, List.append_assoc]; rfl
theorem laidL_step {w w1 : World} {base g n c k : Nat} {e : TypeId} {x y : Int} (hk : k < n) (hy : y = x / 256 ^ k % 256)
    (h : w.ownsRow base e 1 (.slice (some ⟨g, 0, none⟩) n c) n (bv (laidL n k x))) (hw : w1 = w.setCell ⟨g, k, none⟩ (.int .u8 y)) :
    w1.ownsRow base e 1 (.slice (some ⟨g, 0, none⟩) n c) n (bv (laidL n (k + 1) x)) := by
  subst hy hw
  have := (h.stored k (.int .u8 (x / 256 ^ k % 256))).1
  rwa [bv_set, laidL_set x hk] at this
theorem laidL_cell {w : World} {base g n c k : Nat} {e : TypeId} {x : Int} (hk : k < n)
    (h : w.ownsRow base e 1 (.slice (some ⟨g, 0, none⟩) n c) n (bv (laidL n k x))) : ∃ v, w.cell? ⟨g, k, none⟩ = some (.int .u8 v) := by
  rw [h.cellAt k (by omega)]
  exact ⟨_, bv_get (by rw [laidL_length x (by omega)]; exact hk)⟩
theorem shr_step (x : Int) (k : Nat) : x / 2 ^ (8 * k) % 256 = x / 256 ^ k % 256 := by rw [pow_byte]
theorem ret_slice {g g' n : Nat} (h : g = g') : Ending.returned (.slice (some ⟨g, 0, none⟩) n n) = .returned (.slice (some ⟨g', 0, none⟩) n n) := by rw [h]
theorem u8_zero : (Tryd.prog.info? 5).map (fun i => (i.zero, i.size, i.bytes)) = some (some (.int .u8 0), 1, 1) := by kernel_rfl
/-- n bytes in new memory. -/
theorem own_new (w : World) (n : Nat) (hn : n ≤ 100) (x : Int) (cs : Array Value) (hcs : cs.toList = bv (List.replicate n 0)) :
    (w.alloc (.cells cs 5)).ownsRow w.heap.size 5 1 (.slice (some ⟨w.heap.size, 0, none⟩) n n) n (bv (laidL n 0 x)) := by
  have hs : cs.size = n * 1 := by rw [← Array.length_toList, hcs, bv_length]; simp
  have := World.ownsRow_lit (base := w.heap.size) (e := 5) (size := 1) w cs n (Nat.le_refl _) (by unfold maxLen; omega) hs
  rwa [hcs, ← laidL_none n x] at this

theorem refPut_div (x : Int) (k : Nat) (h : 0 ≤ x) : x / 256 ^ k / 256 = x / 256 ^ (k + 1) := by
  rw [Int.pow_succ, Int.ediv_ediv_of_nonneg (Int.le_of_lt (pow_pos' k))]
theorem make2 (w : World) : (Instr.makeSlice 102 (.int .i64 2) (.int .i64 2)).run Tryd.prog w = .ok (.slice (some ⟨w.heap.size, 0, none⟩) 2 2) (w.alloc (.cells #[.int .u8 0, .int .u8 0] 5)) := by kernel_rfl
theorem refPut16_any (x : Int) (w : World) (h0 : 0 ≤ x) (h1 : x < 18446744073709551616) :
    Calls Tryd.prog 66 #[.int .u64 x, .int .i64 2] w fun e w' => ∃ g, e = .returned (.slice (some ⟨g, 0, none⟩) 2 2) ∧
      w'.ownsRow w.heap.size 5 1 (.slice (some ⟨g, 0, none⟩) 2 2) 2 (bv (putL 2 x)) ∧ Below w.heap.size w w' := by
  have hmk := make2
  go_enter Tryd.func66, Tryd.ntmps66
  go_wp2
  go_loopw [0, 6] (fun y i wr => ∃ k : Nat, k ≤ 2 ∧ i = .int .i64 k ∧ (∃ z, y = .int .u64 z ∧ 0 ≤ z ∧ z < 18446744073709551616 ∧ Hid (z = x / 256 ^ k)) ∧ wr.ownsRow w.heap.size 5 1 (.slice (some ⟨w.heap.size, 0, none⟩) 2 2) 2 (bv (laidL 2 k x)) ∧ Below w.heap.size w wr) (fun _ i _ => 2 - (intOf i).toNat)
  case atStart => exact ⟨0, by omega, rfl, ⟨x, rfl, h0, h1, by show x = x / 256 ^ 0; simp⟩, own_new w 2 (by omega) x _ rfl, (Below.refl _ _).alloc (Nat.le_refl _) _⟩
  case round =>
    obtain ⟨k, hk, rfl, ⟨z, rfl, hz0, hz1, hz⟩, hown, hb⟩ := hrel
    have hy := Lib.hid (refPut_div x k h0)
    by_cases hlt : k < 2
    · obtain ⟨v, hcell⟩ := laidL_cell hlt hown
      have hf := hown.frozenAt k
      go_wp2
      go_roundw
      case rel => exact ⟨k + 1, by omega, by go_num, ⟨z / 256, rfl, by omega, by omega, by show z / 256 = _; rw [hz.out]; exact hy.out⟩, laidL_step hlt (congrArg (· % 256) hz.out) hown rfl, hb.setCell (Nat.le_refl _) _⟩
      case measure => simp [intOf]; omega
    · obtain rfl : k = 2 := by omega
      rw [laidL_all] at hown
      go_wp2
      go_ret
      exact ⟨_, rfl, hown, hb⟩

theorem make4 (w : World) : (Instr.makeSlice 102 (.int .i64 4) (.int .i64 4)).run Tryd.prog w = .ok (.slice (some ⟨w.heap.size, 0, none⟩) 4 4) (w.alloc (.cells #[.int .u8 0, .int .u8 0, .int .u8 0, .int .u8 0] 5)) := by kernel_rfl
theorem refPut32_any (x : Int) (w : World) (h0 : 0 ≤ x) (h1 : x < 18446744073709551616) :
    Calls Tryd.prog 66 #[.int .u64 x, .int .i64 4] w fun e w' => ∃ g, e = .returned (.slice (some ⟨g, 0, none⟩) 4 4) ∧
      w'.ownsRow w.heap.size 5 1 (.slice (some ⟨g, 0, none⟩) 4 4) 4 (bv (putL 4 x)) ∧ Below w.heap.size w w' := by
  have hmk := make4
  go_enter Tryd.func66, Tryd.ntmps66
  go_wp2
  go_loopw [0, 6] (fun y i wr => ∃ k : Nat, k ≤ 4 ∧ i = .int .i64 k ∧ (∃ z, y = .int .u64 z ∧ 0 ≤ z ∧ z < 18446744073709551616 ∧ Hid (z = x / 256 ^ k)) ∧ wr.ownsRow w.heap.size 5 1 (.slice (some ⟨w.heap.size, 0, none⟩) 4 4) 4 (bv (laidL 4 k x)) ∧ Below w.heap.size w wr) (fun _ i _ => 4 - (intOf i).toNat)
  case atStart => exact ⟨0, by omega, rfl, ⟨x, rfl, h0, h1, by show x = x / 256 ^ 0; simp⟩, own_new w 4 (by omega) x _ rfl, (Below.refl _ _).alloc (Nat.le_refl _) _⟩
  case round =>
    obtain ⟨k, hk, rfl, ⟨z, rfl, hz0, hz1, hz⟩, hown, hb⟩ := hrel
    have hy := Lib.hid (refPut_div x k h0)
    by_cases hlt : k < 4
    · obtain ⟨v, hcell⟩ := laidL_cell hlt hown
      have hf := hown.frozenAt k
      go_wp2
      go_roundw
      case rel => exact ⟨k + 1, by omega, by go_num, ⟨z / 256, rfl, by omega, by omega, by show z / 256 = _; rw [hz.out]; exact hy.out⟩, laidL_step hlt (congrArg (· % 256) hz.out) hown rfl, hb.setCell (Nat.le_refl _) _⟩
      case measure => simp [intOf]; omega
    · obtain rfl : k = 4 := by omega
      rw [laidL_all] at hown
      go_wp2
      go_ret
      exact ⟨_, rfl, hown, hb⟩

theorem make8 (w : World) : (Instr.makeSlice 102 (.int .i64 8) (.int .i64 8)).run Tryd.prog w = .ok (.slice (some ⟨w.heap.size, 0, none⟩) 8 8) (w.alloc (.cells #[.int .u8 0, .int .u8 0, .int .u8 0, .int .u8 0, .int .u8 0, .int .u8 0, .int .u8 0, .int .u8 0] 5)) := by kernel_rfl
theorem refPut64_any (x : Int) (w : World) (h0 : 0 ≤ x) (h1 : x < 18446744073709551616) :
    Calls Tryd.prog 66 #[.int .u64 x, .int .i64 8] w fun e w' => ∃ g, e = .returned (.slice (some ⟨g, 0, none⟩) 8 8) ∧
      w'.ownsRow w.heap.size 5 1 (.slice (some ⟨g, 0, none⟩) 8 8) 8 (bv (putL 8 x)) ∧ Below w.heap.size w w' := by
  have hmk := make8
  go_enter Tryd.func66, Tryd.ntmps66
  go_wp2
  go_loopw [0, 6] (fun y i wr => ∃ k : Nat, k ≤ 8 ∧ i = .int .i64 k ∧ (∃ z, y = .int .u64 z ∧ 0 ≤ z ∧ z < 18446744073709551616 ∧ Hid (z = x / 256 ^ k)) ∧ wr.ownsRow w.heap.size 5 1 (.slice (some ⟨w.heap.size, 0, none⟩) 8 8) 8 (bv (laidL 8 k x)) ∧ Below w.heap.size w wr) (fun _ i _ => 8 - (intOf i).toNat)
  case atStart => exact ⟨0, by omega, rfl, ⟨x, rfl, h0, h1, by show x = x / 256 ^ 0; simp⟩, own_new w 8 (by omega) x _ rfl, (Below.refl _ _).alloc (Nat.le_refl _) _⟩
  case round =>
    obtain ⟨k, hk, rfl, ⟨z, rfl, hz0, hz1, hz⟩, hown, hb⟩ := hrel
    have hy := Lib.hid (refPut_div x k h0)
    by_cases hlt : k < 8
    · obtain ⟨v, hcell⟩ := laidL_cell hlt hown
      have hf := hown.frozenAt k
      go_wp2
      go_roundw
      case rel => exact ⟨k + 1, by omega, by go_num, ⟨z / 256, rfl, by omega, by omega, by show z / 256 = _; rw [hz.out]; exact hy.out⟩, laidL_step hlt (congrArg (· % 256) hz.out) hown rfl, hb.setCell (Nat.le_refl _) _⟩
      case measure => simp [intOf]; omega
    · obtain rfl : k = 8 := by omega
      rw [laidL_all] at hown
      go_wp2
      go_ret
      exact ⟨_, rfl, hown, hb⟩

theorem refGet2_step {xs : List Int} {a j d : Nat} (hB : Byt xs) (hd : d + (j + 1) = 2) (h : a + 2 ≤ xs.length) :
    IntKind.u64.wrap (IntKind.u64.wrap (leV ((xs.drop (a + (j + 1))).take d) * 256) + IntKind.u64.wrap (xs[a + j]?.getD 0)) = leV ((xs.drop (a + j)).take (2 - j)) := by
  have hl : ((xs.drop (a + (j + 1))).take d).length = d := by rw [List.length_take, List.length_drop]; omega
  have h1 := ((hB.drop (a + (j + 1))).take d)
  have h2 := leV_lt h1
  have h2' := leV_nonneg h1
  have h3 := hB.get? (a + j)
  have e : 2 - j = d + 1 := by omega
  have hh : (256 : Int) ^ ((xs.drop (a + (j + 1))).take d).length ≤ 72057594037927936 := by
    rw [hl]
    have hn : (256 : Nat) ^ d ≤ 256 ^ 7 := Nat.pow_le_pow_right (by decide) (by omega)
    have e2 : ((256 ^ d : Nat) : Int) = 256 ^ d := by rw [Int.natCast_pow]; rfl
    have h3 : (256 : Nat) ^ 7 = 72057594037927936 := rfl
    omega
  rw [e, take_cons (by omega)]
  simp only [leV, IntKind.wrap_u64, Nat.add_assoc]
  omega
theorem refGet2_yes (b o n c : Nat) (xs : List Int) (w : World) (hx : xs.length = n) (hB : Byt xs) (hm : n ≤ 9223372036854775807) (hc : ∀ i, i < n → w.cell? ⟨b, o + i, none⟩ = some (.int .u8 (xs.getD i 0)))
    (a : Nat) (ha : a + 2 ≤ n) :
    Calls Tryd.prog 62 #[.slice (some ⟨b, o, none⟩) n c, .int .i64 a, .int .i64 2] w fun e w' => e = .returned (.tuple #[.int .u64 (leV ((xs.drop a).take 2)), .bool true]) ∧ w = w' := by
  have h0 : (a : Int) ≤ (n : Int) - 2 := by omega
  have h1 : (2 : Int) ≤ n := by omega
  have HX := Lib.hid hx
  clear hx
  have HB := Lib.hid hB
  clear hB
  go_enter Tryd.func62, Tryd.ntmps62
  go_wp2
  go_loop [8, 9] (fun x i => ∃ k : Nat, k ≤ 2 ∧ (∃ m : Int, m + 1 = k ∧ i = .int .i64 m) ∧ x = .int .u64 (leV ((xs.drop (a + k)).take (2 - k)))) (fun _ i => (intOf i + 1).toNat)
  case atStart => exact ⟨2, by omega, ⟨_, by omega, rfl⟩, rfl⟩
  case round =>
    obtain ⟨k, hk, ⟨m, em, rfl⟩, rfl⟩ := hrel
    rcases k with _ | j
    · obtain rfl : m = -1 := by omega
      clear em
      go_wp2
      go_ret2
      exact ⟨rfl, rfl⟩
    · have hcell := hc (a + j) (by omega)
      obtain rfl : m = (j : Int) := by omega
      clear em
      go_wp2
      go_round
      case rel => exact ⟨j, by omega, ⟨_, by omega, rfl⟩, congrArg (Value.int IntKind.u64) (refGet2_step HB.out (by omega) (by have := HX.out; omega))⟩
      case measure => simp [intOf]

theorem refGet4_step {xs : List Int} {a j d : Nat} (hB : Byt xs) (hd : d + (j + 1) = 4) (h : a + 4 ≤ xs.length) :
    IntKind.u64.wrap (IntKind.u64.wrap (leV ((xs.drop (a + (j + 1))).take d) * 256) + IntKind.u64.wrap (xs[a + j]?.getD 0)) = leV ((xs.drop (a + j)).take (4 - j)) := by
  have hl : ((xs.drop (a + (j + 1))).take d).length = d := by rw [List.length_take, List.length_drop]; omega
  have h1 := ((hB.drop (a + (j + 1))).take d)
  have h2 := leV_lt h1
  have h2' := leV_nonneg h1
  have h3 := hB.get? (a + j)
  have e : 4 - j = d + 1 := by omega
  have hh : (256 : Int) ^ ((xs.drop (a + (j + 1))).take d).length ≤ 72057594037927936 := by
    rw [hl]
    have hn : (256 : Nat) ^ d ≤ 256 ^ 7 := Nat.pow_le_pow_right (by decide) (by omega)
    have e2 : ((256 ^ d : Nat) : Int) = 256 ^ d := by rw [Int.natCast_pow]; rfl
    have h3 : (256 : Nat) ^ 7 = 72057594037927936 := rfl
    omega
  rw [e, take_cons (by omega)]
  simp only [leV, IntKind.wrap_u64, Nat.add_assoc]
  omega
theorem refGet4_yes (b o n c : Nat) (xs : List Int) (w : World) (hx : xs.length = n) (hB : Byt xs) (hm : n ≤ 9223372036854775807) (hc : ∀ i, i < n → w.cell? ⟨b, o + i, none⟩ = some (.int .u8 (xs.getD i 0)))
    (a : Nat) (ha : a + 4 ≤ n) :
    Calls Tryd.prog 62 #[.slice (some ⟨b, o, none⟩) n c, .int .i64 a, .int .i64 4] w fun e w' => e = .returned (.tuple #[.int .u64 (leV ((xs.drop a).take 4)), .bool true]) ∧ w = w' := by
  have h0 : (a : Int) ≤ (n : Int) - 4 := by omega
  have h1 : (4 : Int) ≤ n := by omega
  have HX := Lib.hid hx
  clear hx
  have HB := Lib.hid hB
  clear hB
  go_enter Tryd.func62, Tryd.ntmps62
  go_wp2
  go_loop [8, 9] (fun x i => ∃ k : Nat, k ≤ 4 ∧ (∃ m : Int, m + 1 = k ∧ i = .int .i64 m) ∧ x = .int .u64 (leV ((xs.drop (a + k)).take (4 - k)))) (fun _ i => (intOf i + 1).toNat)
  case atStart => exact ⟨4, by omega, ⟨_, by omega, rfl⟩, rfl⟩
  case round =>
    obtain ⟨k, hk, ⟨m, em, rfl⟩, rfl⟩ := hrel
    rcases k with _ | j
    · obtain rfl : m = -1 := by omega
      clear em
      go_wp2
      go_ret2
      exact ⟨rfl, rfl⟩
    · have hcell := hc (a + j) (by omega)
      obtain rfl : m = (j : Int) := by omega
      clear em
      go_wp2
      go_round
      case rel => exact ⟨j, by omega, ⟨_, by omega, rfl⟩, congrArg (Value.int IntKind.u64) (refGet4_step HB.out (by omega) (by have := HX.out; omega))⟩
      case measure => simp [intOf]

theorem refGet8_step {xs : List Int} {a j d : Nat} (hB : Byt xs) (hd : d + (j + 1) = 8) (h : a + 8 ≤ xs.length) :
    IntKind.u64.wrap (IntKind.u64.wrap (leV ((xs.drop (a + (j + 1))).take d) * 256) + IntKind.u64.wrap (xs[a + j]?.getD 0)) = leV ((xs.drop (a + j)).take (8 - j)) := by
  have hl : ((xs.drop (a + (j + 1))).take d).length = d := by rw [List.length_take, List.length_drop]; omega
  have h1 := ((hB.drop (a + (j + 1))).take d)
  have h2 := leV_lt h1
  have h2' := leV_nonneg h1
  have h3 := hB.get? (a + j)
  have e : 8 - j = d + 1 := by omega
  have hh : (256 : Int) ^ ((xs.drop (a + (j + 1))).take d).length ≤ 72057594037927936 := by
    rw [hl]
    have hn : (256 : Nat) ^ d ≤ 256 ^ 7 := Nat.pow_le_pow_right (by decide) (by omega)
    have e2 : ((256 ^ d : Nat) : Int) = 256 ^ d := by rw [Int.natCast_pow]; rfl
    have h3 : (256 : Nat) ^ 7 = 72057594037927936 := rfl
    omega
  rw [e, take_cons (by omega)]
  simp only [leV, IntKind.wrap_u64, Nat.add_assoc]
  omega
theorem refGet8_yes (b o n c : Nat) (xs : List Int) (w : World) (hx : xs.length = n) (hB : Byt xs) (hm : n ≤ 9223372036854775807) (hc : ∀ i, i < n → w.cell? ⟨b, o + i, none⟩ = some (.int .u8 (xs.getD i 0)))
    (a : Nat) (ha : a + 8 ≤ n) :
    Calls Tryd.prog 62 #[.slice (some ⟨b, o, none⟩) n c, .int .i64 a, .int .i64 8] w fun e w' => e = .returned (.tuple #[.int .u64 (leV ((xs.drop a).take 8)), .bool true]) ∧ w = w' := by
  have h0 : (a : Int) ≤ (n : Int) - 8 := by omega
  have h1 : (8 : Int) ≤ n := by omega
  have HX := Lib.hid hx
  clear hx
  have HB := Lib.hid hB
  clear hB
  go_enter Tryd.func62, Tryd.ntmps62
  go_wp2
  go_loop [8, 9] (fun x i => ∃ k : Nat, k ≤ 8 ∧ (∃ m : Int, m + 1 = k ∧ i = .int .i64 m) ∧ x = .int .u64 (leV ((xs.drop (a + k)).take (8 - k)))) (fun _ i => (intOf i + 1).toNat)
  case atStart => exact ⟨8, by omega, ⟨_, by omega, rfl⟩, rfl⟩
  case round =>
    obtain ⟨k, hk, ⟨m, em, rfl⟩, rfl⟩ := hrel
    rcases k with _ | j
    · obtain rfl : m = -1 := by omega
      clear em
      go_wp2
      go_ret2
      exact ⟨rfl, rfl⟩
    · have hcell := hc (a + j) (by omega)
      obtain rfl : m = (j : Int) := by omega
      clear em
      go_wp2
      go_round
      case rel => exact ⟨j, by omega, ⟨_, by omega, rfl⟩, congrArg (Value.int IntKind.u64) (refGet8_step HB.out (by omega) (by have := HX.out; omega))⟩
      case measure => simp [intOf]

theorem refGet_no (p : Option Addr) (n c b : Nat) (w : World) (hm : n ≤ 9223372036854775807) (hb : b ≤ 8) (at_ : Int) (ha : at_ < 0 ∨ n < at_ + b) (hw : at_ ≤ 9223372036854775807) :
    Calls Tryd.prog 62 #[.slice p n c, .int .i64 at_, .int .i64 b] w fun e w' => e = .returned (.tuple #[.int .u64 0, .bool false]) ∧ w = w' := by
  by_cases h0 : at_ < 0
  · clear ha
    go_enter Tryd.func62, Tryd.ntmps62
    go_wp2
    go_ret2
    exact ⟨rfl, rfl⟩
  · by_cases h1 : (n : Int) < b
    · clear ha
      go_enter Tryd.func62, Tryd.ntmps62
      go_wp2
      go_ret2
      exact ⟨rfl, rfl⟩
    · have h2 : (n : Int) - b < at_ := by omega
      clear ha
      go_enter Tryd.func62, Tryd.ntmps62
      go_wp2
      go_ret2
      exact ⟨rfl, rfl⟩

theorem refGet2_any (p : Option Addr) (n c B : Nat) (xs : List Int) (w : World) (hx : xs.length = n) (hB : Byt xs) (hm : n ≤ 9223372036854775807) (h : Rd w B p xs) (at_ : Int) (hw : at_ ≤ 9223372036854775807) :
    Calls Tryd.prog 62 #[.slice p n c, .int .i64 at_, .int .i64 2] w fun e w' => e = .returned (.tuple #[.int .u64 (getV 2 xs at_), .bool (getB 2 xs at_)]) ∧ w = w' := by
  subst hx
  by_cases ha : at_ < 0 ∨ xs.length < at_ + 2
  · rw [getV_false ha, getB_false ha]
    exact refGet_no p _ c 2 w hm (by omega) at_ ha hw
  · obtain ⟨a, rfl⟩ := Int.eq_ofNat_of_zero_le (show 0 ≤ at_ by omega)
    obtain ⟨b, o, rfl, _, hc⟩ := h (by omega)
    have h1 : a + 2 ≤ xs.length := by omega
    rw [getB_true (by omega) (by omega), getV_true h1]
    exact refGet2_yes b o _ c xs w rfl hB hm hc a h1

theorem refGet4_any (p : Option Addr) (n c B : Nat) (xs : List Int) (w : World) (hx : xs.length = n) (hB : Byt xs) (hm : n ≤ 9223372036854775807) (h : Rd w B p xs) (at_ : Int) (hw : at_ ≤ 9223372036854775807) :
    Calls Tryd.prog 62 #[.slice p n c, .int .i64 at_, .int .i64 4] w fun e w' => e = .returned (.tuple #[.int .u64 (getV 4 xs at_), .bool (getB 4 xs at_)]) ∧ w = w' := by
  subst hx
  by_cases ha : at_ < 0 ∨ xs.length < at_ + 4
  · rw [getV_false ha, getB_false ha]
    exact refGet_no p _ c 4 w hm (by omega) at_ ha hw
  · obtain ⟨a, rfl⟩ := Int.eq_ofNat_of_zero_le (show 0 ≤ at_ by omega)
    obtain ⟨b, o, rfl, _, hc⟩ := h (by omega)
    have h1 : a + 4 ≤ xs.length := by omega
    rw [getB_true (by omega) (by omega), getV_true h1]
    exact refGet4_yes b o _ c xs w rfl hB hm hc a h1

theorem refGet8_any (p : Option Addr) (n c B : Nat) (xs : List Int) (w : World) (hx : xs.length = n) (hB : Byt xs) (hm : n ≤ 9223372036854775807) (h : Rd w B p xs) (at_ : Int) (hw : at_ ≤ 9223372036854775807) :
    Calls Tryd.prog 62 #[.slice p n c, .int .i64 at_, .int .i64 8] w fun e w' => e = .returned (.tuple #[.int .u64 (getV 8 xs at_), .bool (getB 8 xs at_)]) ∧ w = w' := by
  subst hx
  by_cases ha : at_ < 0 ∨ xs.length < at_ + 8
  · rw [getV_false ha, getB_false ha]
    exact refGet_no p _ c 8 w hm (by omega) at_ ha hw
  · obtain ⟨a, rfl⟩ := Int.eq_ofNat_of_zero_le (show 0 ≤ at_ by omega)
    obtain ⟨b, o, rfl, _, hc⟩ := h (by omega)
    have h1 : a + 8 ≤ xs.length := by omega
    rw [getB_true (by omega) (by omega), getV_true h1]
    exact refGet8_yes b o _ c xs w rfl hB hm hc a h1

end Go.Proofs.YtinfbmfmmbibbaaDoor
