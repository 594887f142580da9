/- Numbers as bytes, the least byte ahead: the number of a list of bytes, the bytes of a number, and what the one makes of the other. Plain lists and integers, no program. -/
import Derived.Laws.BitsAllLaws
import Derived.WalkKit
namespace Go.Proofs.YtfmfjnnbldmdlaaDoor

/-- Every element is a byte. -/
def Byt (l : List Int) : Prop := ∀ x ∈ l, 0 ≤ x ∧ x < 256
/-- The number of bytes, the least byte ahead. -/
def leV : List Int → Int
  | [] => 0
  | b :: r => b + 256 * leV r
/-- The k least bytes of a number. -/
def putL : Nat → Int → List Int
  | 0, _ => []
  | k + 1, x => x % 256 :: putL k (x / 256)

theorem Byt.nil : Byt [] := fun _ h => by cases h
theorem Byt.cons {b : Int} {l : List Int} (h0 : 0 ≤ b) (h1 : b < 256) (h : Byt l) : Byt (b :: l) := fun x hx => by
  rcases List.mem_cons.1 hx with rfl | hx
  · exact ⟨h0, h1⟩
  · exact h x hx
theorem Byt.head {b : Int} {l : List Int} (h : Byt (b :: l)) : 0 ≤ b ∧ b < 256 := h b (List.mem_cons_self ..)
theorem Byt.tail {b : Int} {l : List Int} (h : Byt (b :: l)) : Byt l := fun x hx => h x (List.mem_cons_of_mem _ hx)
theorem Byt.app {l m : List Int} (h : Byt l) (k : Byt m) : Byt (l ++ m) := fun x hx => by
  rcases List.mem_append.1 hx with hx | hx
  · exact h x hx
  · exact k x hx
theorem Byt.take {l : List Int} (h : Byt l) (n : Nat) : Byt (l.take n) := fun x hx => h x (List.mem_of_mem_take hx)
theorem Byt.drop {l : List Int} (h : Byt l) (n : Nat) : Byt (l.drop n) := fun x hx => h x (List.mem_of_mem_drop hx)
theorem Byt.getD {l : List Int} (h : Byt l) (i : Nat) : 0 ≤ l.getD i 0 ∧ l.getD i 0 < 256 := by
  by_cases hi : i < l.length
  · rw [List.getD_eq_getElem?_getD, List.getElem?_eq_getElem hi]; exact h _ (List.getElem_mem hi)
  · rw [List.getD_eq_getElem?_getD, List.getElem?_eq_none (by omega)]; simp
theorem Byt.get? {l : List Int} (h : Byt l) (i : Nat) : 0 ≤ l[i]?.getD 0 ∧ l[i]?.getD 0 < 256 := by
  have := h.getD i; rwa [List.getD_eq_getElem?_getD] at this

theorem pow_byte (k : Nat) : (256 : Int) ^ k = 2 ^ (8 * k) := by
  rw [Int.pow_mul]; rfl
theorem pow_pos' (k : Nat) : 0 < (256 : Int) ^ k := Int.pow_pos (by decide)

theorem leV_nonneg : ∀ {l : List Int}, Byt l → 0 ≤ leV l
  | [], _ => by simp [leV]
  | b :: r, h => by
    have h1 := h.head
    have h2 := leV_nonneg h.tail
    simp only [leV]; omega
theorem leV_lt : ∀ {l : List Int}, Byt l → leV l < 256 ^ l.length
  | [], _ => by simp [leV]
  | b :: r, h => by
    have h1 := h.head
    have h2 := leV_lt h.tail
    have e : (256 : Int) ^ (b :: r).length = 256 ^ r.length * 256 := by rw [List.length_cons, Int.pow_succ]
    rw [e]
    simp only [leV]; omega
theorem leV_app : ∀ (l m : List Int), leV (l ++ m) = leV l + 256 ^ l.length * leV m
  | [], m => by simp [leV]
  | b :: r, m => by
    have e : (256 : Int) ^ (b :: r).length = 256 * 256 ^ r.length := by rw [List.length_cons, Int.pow_succ, Int.mul_comm]
    rw [List.cons_append, e]
    simp only [leV]
    rw [leV_app r m, Int.mul_add, Int.mul_assoc]; omega
theorem leV_snoc (l : List Int) (b : Int) : leV (l ++ [b]) = leV l + b * 256 ^ l.length := by
  rw [leV_app]; simp only [leV]; rw [Int.mul_comm]; simp

theorem putL_length : ∀ (k : Nat) (x : Int), (putL k x).length = k
  | 0, _ => rfl
  | k + 1, x => by simp [putL, putL_length k]
theorem putL_byt : ∀ (k : Nat) (x : Int), Byt (putL k x)
  | 0, _ => Byt.nil
  | k + 1, x => Byt.cons (by omega) (by omega) (putL_byt k (x / 256))
theorem putL_leV : ∀ (l : List Int), Byt l → putL l.length (leV l) = l
  | [], _ => rfl
  | b :: r, h => by
    have h1 := h.head
    have e1 : (b + 256 * leV r) % 256 = b := by omega
    have e2 : (b + 256 * leV r) / 256 = leV r := by omega
    simp only [List.length_cons, putL, leV, e1, e2, putL_leV r h.tail]
theorem leV_putL : ∀ (k : Nat) (x : Int), leV (putL k x) = x % 256 ^ k
  | 0, x => by simp [putL, leV, Int.emod_one]
  | k + 1, x => by
    have e : (256 : Int) ^ (k + 1) = 256 * 256 ^ k := by rw [Int.pow_succ, Int.mul_comm]
    have hp := pow_pos' k
    rw [e]
    simp only [putL, leV]
    rw [leV_putL k, Int.emod_def x (256 * 256 ^ k), Int.emod_def (x / 256) (256 ^ k), ← Int.ediv_ediv_of_nonneg (by decide), Int.mul_assoc]
    omega
theorem putL_snoc : ∀ (k : Nat) (x : Int), putL (k + 1) x = putL k x ++ [x / 256 ^ k % 256]
  | 0, x => by simp [putL]
  | k + 1, x => by
    have e : x / 256 ^ (k + 1) = x / 256 / 256 ^ k := by
      rw [Int.pow_succ, Int.mul_comm, Int.ediv_ediv_of_nonneg (by decide)]
    have h := putL_snoc k (x / 256)
    rw [e]
    show x % 256 :: putL (k + 1) (x / 256) = _
    rw [h]; rfl
theorem putL_app : ∀ (k m : Nat) (x : Int), putL (k + m) x = putL k x ++ putL m (x / 256 ^ k)
  | 0, m, x => by simp [putL]
  | k + 1, m, x => by
    have e : x / 256 ^ (k + 1) = x / 256 / 256 ^ k := by
      rw [Int.pow_succ, Int.mul_comm, Int.ediv_ediv_of_nonneg (by decide)]
    have e2 : k + 1 + m = (k + m) + 1 := by omega
    rw [e2, e]
    show x % 256 :: putL (k + m) (x / 256) = _
    rw [putL_app k m]; rfl
theorem putL_mod : ∀ (k : Nat) (x : Int), putL k (x % 256 ^ k) = putL k x
  | k, x => by
    have h := putL_leV (putL k x) (putL_byt k x)
    rw [putL_length, leV_putL] at h
    exact h

/-- One byte more in a 16-bit number. -/
theorem or_step16 (x b : Int) (k : Nat) (hk : k < 2) (hx0 : 0 ≤ x) (hx1 : x < 256 ^ k) (hb0 : 0 ≤ b) (hb1 : b < 256) :
    bits BinOp.or IntKind.u16 x (IntKind.u16.wrap (IntKind.u16.wrap b * 2 ^ (8 * k))) = x + b * 256 ^ k := by
  have hp := pow_pos' k
  have e1 : IntKind.u16.wrap b = b := by rw [IntKind.wrap_u16]; omega
  have hle : (256 : Int) ^ k * 256 ≤ 65536 := by
    have hn : (256 : Nat) ^ (k + 1) ≤ 256 ^ 2 := Nat.pow_le_pow_right (by decide) (by omega)
    have h2 : ((256 ^ (k + 1) : Nat) : Int) = 256 ^ k * 256 := by rw [Nat.pow_succ, Int.natCast_mul, Int.natCast_pow]; rfl
    have h3 : (256 : Nat) ^ 2 = 65536 := rfl
    omega
  have hbk : b * 256 ^ k < 65536 := by
    have : b * 256 ^ k ≤ 255 * 256 ^ k := Int.mul_le_mul_of_nonneg_right (by omega) (by omega)
    omega
  have hb' : 0 ≤ b * 256 ^ k := Int.mul_nonneg hb0 (by omega)
  rw [e1, ← pow_byte]
  have e3 : IntKind.u16.wrap (b * 256 ^ k) = b * 256 ^ k := by rw [IntKind.wrap_u16]; exact Int.emod_eq_of_lt hb' hbk
  rw [e3, u16_or _ _ hx0 (by omega) hb' hbk]
  have e4 : (b * 256 ^ k).toNat = 2 ^ (8 * k) * b.toNat := by
    obtain ⟨B, rfl⟩ := Int.eq_ofNat_of_zero_le hb0
    rw [pow_byte, Int.mul_comm]
    have : ((2 : Int) ^ (8 * k) * (B : Int)) = ((2 ^ (8 * k) * B : Nat) : Int) := by simp
    rw [this, Int.toNat_natCast, Int.toNat_natCast]
  have hx : x.toNat < 2 ^ (8 * k) := by
    have : ((2 ^ (8 * k) : Nat) : Int) = 256 ^ k := by rw [pow_byte]; simp
    omega
  rw [e4, Nat.or_comm, ← Nat.two_pow_add_eq_or_of_lt hx]
  have e5 : ((2 ^ (8 * k) * b.toNat + x.toNat : Nat) : Int) = x + b * 256 ^ k := by
    rw [pow_byte]
    push_cast
    rw [Int.toNat_of_nonneg hx0, Int.toNat_of_nonneg hb0, Int.mul_comm]; omega
  exact e5

/-- One byte more in a 32-bit number. -/
theorem or_step32 (x b : Int) (k : Nat) (hk : k < 4) (hx0 : 0 ≤ x) (hx1 : x < 256 ^ k) (hb0 : 0 ≤ b) (hb1 : b < 256) :
    bits BinOp.or IntKind.u32 x (IntKind.u32.wrap (IntKind.u32.wrap b * 2 ^ (8 * k))) = x + b * 256 ^ k := by
  have hp := pow_pos' k
  have e1 : IntKind.u32.wrap b = b := by rw [IntKind.wrap_u32']; omega
  have hle : (256 : Int) ^ k * 256 ≤ 4294967296 := by
    have hn : (256 : Nat) ^ (k + 1) ≤ 256 ^ 4 := Nat.pow_le_pow_right (by decide) (by omega)
    have h2 : ((256 ^ (k + 1) : Nat) : Int) = 256 ^ k * 256 := by rw [Nat.pow_succ, Int.natCast_mul, Int.natCast_pow]; rfl
    have h3 : (256 : Nat) ^ 4 = 4294967296 := rfl
    omega
  have hbk : b * 256 ^ k < 4294967296 := by
    have : b * 256 ^ k ≤ 255 * 256 ^ k := Int.mul_le_mul_of_nonneg_right (by omega) (by omega)
    omega
  have hb' : 0 ≤ b * 256 ^ k := Int.mul_nonneg hb0 (by omega)
  rw [e1, ← pow_byte]
  have e3 : IntKind.u32.wrap (b * 256 ^ k) = b * 256 ^ k := by rw [IntKind.wrap_u32']; exact Int.emod_eq_of_lt hb' hbk
  rw [e3, u32_or _ _ hx0 (by omega) hb' hbk]
  have e4 : (b * 256 ^ k).toNat = 2 ^ (8 * k) * b.toNat := by
    obtain ⟨B, rfl⟩ := Int.eq_ofNat_of_zero_le hb0
    rw [pow_byte, Int.mul_comm]
    have : ((2 : Int) ^ (8 * k) * (B : Int)) = ((2 ^ (8 * k) * B : Nat) : Int) := by simp
    rw [this, Int.toNat_natCast, Int.toNat_natCast]
  have hx : x.toNat < 2 ^ (8 * k) := by
    have : ((2 ^ (8 * k) : Nat) : Int) = 256 ^ k := by rw [pow_byte]; simp
    omega
  rw [e4, Nat.or_comm, ← Nat.two_pow_add_eq_or_of_lt hx]
  have e5 : ((2 ^ (8 * k) * b.toNat + x.toNat : Nat) : Int) = x + b * 256 ^ k := by
    rw [pow_byte]
    push_cast
    rw [Int.toNat_of_nonneg hx0, Int.toNat_of_nonneg hb0, Int.mul_comm]; omega
  exact e5

/-- One byte more in a 64-bit number. -/
theorem or_step64 (x b : Int) (k : Nat) (hk : k < 8) (hx0 : 0 ≤ x) (hx1 : x < 256 ^ k) (hb0 : 0 ≤ b) (hb1 : b < 256) :
    bits BinOp.or IntKind.u64 x (IntKind.u64.wrap (IntKind.u64.wrap b * 2 ^ (8 * k))) = x + b * 256 ^ k := by
  have hp := pow_pos' k
  have e1 : IntKind.u64.wrap b = b := by rw [IntKind.wrap_u64]; omega
  have hle : (256 : Int) ^ k * 256 ≤ 18446744073709551616 := by
    have hn : (256 : Nat) ^ (k + 1) ≤ 256 ^ 8 := Nat.pow_le_pow_right (by decide) (by omega)
    have h2 : ((256 ^ (k + 1) : Nat) : Int) = 256 ^ k * 256 := by rw [Nat.pow_succ, Int.natCast_mul, Int.natCast_pow]; rfl
    have h3 : (256 : Nat) ^ 8 = 18446744073709551616 := rfl
    omega
  have hbk : b * 256 ^ k < 18446744073709551616 := by
    have : b * 256 ^ k ≤ 255 * 256 ^ k := Int.mul_le_mul_of_nonneg_right (by omega) (by omega)
    omega
  have hb' : 0 ≤ b * 256 ^ k := Int.mul_nonneg hb0 (by omega)
  rw [e1, ← pow_byte]
  have e3 : IntKind.u64.wrap (b * 256 ^ k) = b * 256 ^ k := by rw [IntKind.wrap_u64]; exact Int.emod_eq_of_lt hb' hbk
  rw [e3, u64_or _ _ hx0 (by omega) hb' hbk]
  have e4 : (b * 256 ^ k).toNat = 2 ^ (8 * k) * b.toNat := by
    obtain ⟨B, rfl⟩ := Int.eq_ofNat_of_zero_le hb0
    rw [pow_byte, Int.mul_comm]
    have : ((2 : Int) ^ (8 * k) * (B : Int)) = ((2 ^ (8 * k) * B : Nat) : Int) := by simp
    rw [this, Int.toNat_natCast, Int.toNat_natCast]
  have hx : x.toNat < 2 ^ (8 * k) := by
    have : ((2 ^ (8 * k) : Nat) : Int) = 256 ^ k := by rw [pow_byte]; simp
    omega
  rw [e4, Nat.or_comm, ← Nat.two_pow_add_eq_or_of_lt hx]
  have e5 : ((2 ^ (8 * k) * b.toNat + x.toNat : Nat) : Int) = x + b * 256 ^ k := by
    rw [pow_byte]
    push_cast
    rw [Int.toNat_of_nonneg hx0, Int.toNat_of_nonneg hb0, Int.mul_comm]; omega
  exact e5

end Go.Proofs.YtfmfjnnbldmdlaaDoor
