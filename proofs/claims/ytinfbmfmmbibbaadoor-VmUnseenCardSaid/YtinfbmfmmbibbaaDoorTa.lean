/- The sixteen words of the data, in order: they are the words at the places, and their bytes are the data's. Plain lists and integers, no program. -/
import Derived.Test.YtinfbmfmmbibbaaDoorDa
namespace Go.Proofs.YtinfbmfmmbibbaaDoor
set_option linter.unusedVariables false

/-- The words in order. -/
def tblL (d : Dat) : List Int := [d.nr, d.arch, d.ip % 4294967296, d.ip / 4294967296, d.a0 % 4294967296, d.a0 / 4294967296, d.a1 % 4294967296, d.a1 / 4294967296, d.a2 % 4294967296, d.a2 / 4294967296, d.a3 % 4294967296, d.a3 / 4294967296, d.a4 % 4294967296, d.a4 / 4294967296, d.a5 % 4294967296, d.a5 / 4294967296]
theorem tblL_length (d : Dat) : (tblL d).length = 16 := rfl
theorem lo_ok {x : Int} : 0 ≤ x % 4294967296 ∧ x % 4294967296 < 4294967296 := ⟨Int.emod_nonneg _ (by decide), Int.emod_lt_of_pos _ (by decide)⟩
theorem hi_ok {x : Int} (h0 : 0 ≤ x) (h1 : x < 18446744073709551616) : 0 ≤ x / 4294967296 ∧ x / 4294967296 < 4294967296 := by omega
theorem tblL_ok {d : Dat} (h : d.Ok) {k : Nat} (hk : k < 16) : 0 ≤ (tblL d).getD k 0 ∧ (tblL d).getD k 0 < 4294967296 := by
  match k, hk with
  | 0, _ => exact ⟨h.nr0, h.nr1⟩
  | 1, _ => exact ⟨h.arch0, h.arch1⟩
  | 2, _ => exact lo_ok
  | 3, _ => exact hi_ok h.ip0 h.ip1
  | 4, _ => exact lo_ok
  | 5, _ => exact hi_ok h.a00 h.a01
  | 6, _ => exact lo_ok
  | 7, _ => exact hi_ok h.a10 h.a11
  | 8, _ => exact lo_ok
  | 9, _ => exact hi_ok h.a20 h.a21
  | 10, _ => exact lo_ok
  | 11, _ => exact hi_ok h.a30 h.a31
  | 12, _ => exact lo_ok
  | 13, _ => exact hi_ok h.a40 h.a41
  | 14, _ => exact lo_ok
  | 15, _ => exact hi_ok h.a50 h.a51
  | k + 16, hk => omega
theorem putL8_halves (x : Int) : putL 8 x = putL 4 (x % 4294967296) ++ putL 4 (x / 4294967296) := by
  have e0 : x % 4294967296 % 256 = x % 256 := by omega
  have e1 : x % 4294967296 / 256 % 256 = x / 256 % 256 := by omega
  have e2 : x % 4294967296 / 256 / 256 % 256 = x / 256 / 256 % 256 := by omega
  have e3 : x % 4294967296 / 256 / 256 / 256 % 256 = x / 256 / 256 / 256 % 256 := by omega
  have e4 : x / 4294967296 = x / 256 / 256 / 256 / 256 := by omega
  simp only [putL, List.cons_append, List.nil_append, e0, e1, e2, e3, e4]
/-- The words' bytes are the data's. -/
theorem tblL_bytes (d : Dat) : ((tblL d).map (putL 4)).flatten = datB d := by
  unfold datB
  rw [putL8_halves d.ip, putL8_halves d.a0, putL8_halves d.a1, putL8_halves d.a2, putL8_halves d.a3, putL8_halves d.a4, putL8_halves d.a5]
  simp only [tblL, List.map_cons, List.map_nil, List.flatten_cons, List.flatten_nil, List.append_assoc, List.append_nil]
theorem flat4_at : ∀ (l : List Int) (k : Nat), k < l.length → (((l.map (putL 4)).flatten).drop (4 * k)).take 4 = putL 4 (l.getD k 0)
  | [], k, h => absurd h (by simp)
  | x :: l, 0, _ => by
    rw [Nat.mul_zero, List.drop_zero, List.map_cons, List.flatten_cons, List.take_left' (putL_length 4 x)]; rfl
  | x :: l, k + 1, h => by
    rw [List.map_cons, List.flatten_cons, show 4 * (k + 1) = 4 + 4 * k by omega, ← List.drop_drop, List.drop_left' (putL_length 4 x)]
    exact flat4_at l k (by simpa using h)
/-- The word at a place is the table's. -/
theorem wordV_tbl {d : Dat} (h : d.Ok) {a : Int} (h0 : 0 ≤ a) (hm : a % 4 = 0) (h1 : a < 64) : wordV d a = (tblL d).getD (a / 4).toNat 0 ∧ wordE a = 0 := by
  have e : wordB a = true := decide_eq_true ⟨hm, h1⟩
  have hk : (a / 4).toNat < 16 := by omega
  have ha : a.toNat = 4 * (a / 4).toNat := by omega
  unfold wordV wordE
  rw [e]
  simp only [if_true, and_true]
  obtain ⟨k0, k1⟩ := tblL_ok h hk
  rw [ha, ← tblL_bytes, flat4_at _ _ (by rw [tblL_length]; exact hk), putL_val4 k0 k1]
/-- What the words in order are: the data. -/
theorem tblL_cut {b : List Int} (hB : Byt b) (hl : b.length = 64) {k : Nat} (hk : k < 16) : leV ((b.drop (4 * k)).take 4) = (tblL (datOf b)).getD k 0 := by
  have h := flat4_at (tblL (datOf b)) k (by rw [tblL_length]; exact hk)
  rw [tblL_bytes, datB_datOf hB hl] at h
  obtain ⟨k0, k1⟩ := tblL_ok (datOf_ok hB) hk
  rw [h, putL_val4 k0 k1]
theorem whole_halves (x : Int) : x % 4294967296 + x / 4294967296 * 4294967296 = x := by omega
end Go.Proofs.YtinfbmfmmbibbaaDoor
