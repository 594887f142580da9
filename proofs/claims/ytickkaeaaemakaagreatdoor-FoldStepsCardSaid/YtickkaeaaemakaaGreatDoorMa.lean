/- Numbers as bytes, the least byte ahead: the number of a list of bytes, the bytes of a number, and what the one makes of the other. Plain lists and integers, no program. What the small functions of the package words return: the number of bytes of each integer type, the halves of a number, the number of two halves. No condition. What the functions Get16, Get32, Get64 of the package words return of a slice that reads as a list of bytes, and what the document's own Get returns of it. Condition: the slice is as long as its capacity allows; the number of bytes that is asked for is at most 8. What the functions Put16, Put32, Put64 of the package words return, and what the document's own Put and Get return at 2, 4 and 8 bytes. Condition: the number is at least 0. -/
import Derived.Laws.BitsAllLaws
import Derived.WalkKit
import Derived.Test.YtickkaeaaemakaaGreatDoorRows
import Derived.WalkSpells
import Derived.Lib.Strings
import Derived.Lib.Slices
import Derived.Lib.Small
import Derived.Lib.Walk
import Derived.Lib.BitFns
import Derived.Lib.Hide
import Derived.LoopTactic
import Derived.Deep.Draws
import Derived.Laws.ShiftsVarLaws
namespace Go.Proofs.YtickkaeaaemakaaGreatDoor

/-- Every element is a byte. -/
def Byt (l : List Int) : Prop := ∀ x ∈ l, 0 ≤ x ∧ x < 256
/-- The number of bytes, the least byte ahead. -/
def leV : List Int → Int
  | [] => 0
  | b :: r => b + 256 * leV r
/-- The k least bytes of a number. -/
def putL : Nat → Int → List Int
  | 0, _ => []
  | k + 1, x => x % 256 :: putL k (x / 256)

theorem Byt.nil : Byt [] := fun _ h => by cases h
theorem Byt.cons {b : Int} {l : List Int} (h0 : 0 ≤ b) (h1 : b < 256) (h : Byt l) : Byt (b :: l) := fun x hx => by
  rcases List.mem_cons.1 hx with rfl | hx
  · exact ⟨h0, h1⟩
  · exact h x hx
theorem Byt.head {b : Int} {l : List Int} (h : Byt (b :: l)) : 0 ≤ b ∧ b < 256 := h b (List.mem_cons_self ..)
theorem Byt.tail {b : Int} {l : List Int} (h : Byt (b :: l)) : Byt l := fun x hx => h x (List.mem_cons_of_mem _ hx)
theorem Byt.app {l m : List Int} (h : Byt l) (k : Byt m) : Byt (l ++ m) := fun x hx => by
  rcases List.mem_append.1 hx with hx | hx
  · exact h x hx
  · exact k x hx
theorem Byt.take {l : List Int} (h : Byt l) (n : Nat) : Byt (l.take n) := fun x hx => h x (List.mem_of_mem_take hx)
theorem Byt.drop {l : List Int} (h : Byt l) (n : Nat) : Byt (l.drop n) := fun x hx => h x (List.mem_of_mem_drop hx)
theorem Byt.getD {l : List Int} (h : Byt l) (i : Nat) : 0 ≤ l.getD i 0 ∧ l.getD i 0 < 256 := by
  by_cases hi : i < l.length
  · rw [List.getD_eq_getElem?_getD, List.getElem?_eq_getElem hi]; exact h _ (List.getElem_mem hi)
  · rw [List.getD_eq_getElem?_getD, List.getElem?_eq_none (by omega)]; simp
theorem Byt.get? {l : List Int} (h : Byt l) (i : Nat) : 0 ≤ l[i]?.getD 0 ∧ l[i]?.getD 0 < 256 := by
  have := h.getD i; rwa [List.getD_eq_getElem?_getD] at this

theorem pow_byte (k : Nat) : (256 : Int) ^ k = 2 ^ (8 * k) := by
  rw [Int.pow_mul]; rfl
theorem pow_pos' (k : Nat) : 0 < (256 : Int) ^ k := Int.pow_pos (by decide)

theorem leV_nonneg : ∀ {l : List Int}, Byt l → 0 ≤ leV l
  | [], _ => by simp [leV]
  | b :: r, h => by
    have h1 := h.head
    have h2 := leV_nonneg h.tail
    simp only [leV]; omega
theorem leV_lt : ∀ {l : List Int}, Byt l → leV l < 256 ^ l.length
  | [], _ => by simp [leV]
  | b :: r, h => by
    have h1 := h.head
    have h2 := leV_lt h.tail
    have e : (256 : Int) ^ (b :: r).length = 256 ^ r.length * 256 := by rw [List.length_cons, Int.pow_succ]
    rw [e]
    simp only [leV]; omega
theorem leV_app : ∀ (l m : List Int), leV (l ++ m) = leV l + 256 ^ l.length * leV m
  | [], m => by simp [leV]
  | b :: r, m => by
    have e : (256 : Int) ^ (b :: r).length = 256 * 256 ^ r.length := by rw [List.length_cons, Int.pow_succ, Int.mul_comm]
    rw [List.cons_append, e]
    simp only [leV]
    rw [leV_app r m, Int.mul_add, Int.mul_assoc]; omega
theorem leV_snoc (l : List Int) (b : Int) : leV (l ++ [b]) = leV l + b * 256 ^ l.length := by
  rw [leV_app]; simp only [leV]; rw [Int.mul_comm]; simp

theorem putL_length : ∀ (k : Nat) (x : Int), (putL k x).length = k
  | 0, _ => rfl
  | k + 1, x => by simp [putL, putL_length k]
theorem putL_byt : ∀ (k : Nat) (x : Int), Byt (putL k x)
  | 0, _ => Byt.nil
  | k + 1, x => Byt.cons (by omega) (by omega) (putL_byt k (x / 256))
theorem putL_leV : ∀ (l : List Int), Byt l → putL l.length (leV l) = l
  | [], _ => rfl
  | b :: r, h => by
    have h1 := h.head
    have e1 : (b + 256 * leV r) % 256 = b := by omega
    have e2 : (b + 256 * leV r) / 256 = leV r := by omega
    simp only [List.length_cons, putL, leV, e1, e2, putL_leV r h.tail]
theorem leV_putL : ∀ (k : Nat) (x : Int), leV (putL k x) = x % 256 ^ k
  | 0, x => by simp [putL, leV, Int.emod_one]
  | k + 1, x => by
    have e : (256 : Int) ^ (k + 1) = 256 * 256 ^ k := by rw [Int.pow_succ, Int.mul_comm]
    have hp := pow_pos' k
    rw [e]
    simp only [putL, leV]
    rw [leV_putL k, Int.emod_def x (256 * 256 ^ k), Int.emod_def (x / 256) (256 ^ k), ← Int.ediv_ediv_of_nonneg (by decide), Int.mul_assoc]
    omega
theorem putL_snoc : ∀ (k : Nat) (x : Int), putL (k + 1) x = putL k x ++ [x / 256 ^ k % 256]
  | 0, x => by simp [putL]
  | k + 1, x => by
    have e : x / 256 ^ (k + 1) = x / 256 / 256 ^ k := by
      rw [Int.pow_succ, Int.mul_comm, Int.ediv_ediv_of_nonneg (by decide)]
    have h := putL_snoc k (x / 256)
    rw [e]
    show x % 256 :: putL (k + 1) (x / 256) = _
    rw [h]; rfl
theorem putL_app : ∀ (k m : Nat) (x : Int), putL (k + m) x = putL k x ++ putL m (x / 256 ^ k)
  | 0, m, x => by simp [putL]
  | k + 1, m, x => by
    have e : x / 256 ^ (k + 1) = x / 256 / 256 ^ k := by
      rw [Int.pow_succ, Int.mul_comm, Int.ediv_ediv_of_nonneg (by decide)]
    have e2 : k + 1 + m = (k + m) + 1 := by omega
    rw [e2, e]
    show x % 256 :: putL (k + m) (x / 256) = _
    rw [putL_app k m]; rfl
theorem putL_mod : ∀ (k : Nat) (x : Int), putL k (x % 256 ^ k) = putL k x
  | k, x => by
    have h := putL_leV (putL k x) (putL_byt k x)
    rw [putL_length, leV_putL] at h
    exact h

/-- One byte more in a 16-bit number. -/
theorem or_step16 (x b : Int) (k : Nat) (hk : k < 2) (hx0 : 0 ≤ x) (hx1 : x < 256 ^ k) (hb0 : 0 ≤ b) (hb1 : b < 256) :
    bits BinOp.or IntKind.u16 x (IntKind.u16.wrap (IntKind.u16.wrap b * 2 ^ (8 * k))) = x + b * 256 ^ k := by
  have hp := pow_pos' k
  have e1 : IntKind.u16.wrap b = b := by rw [IntKind.wrap_u16]; omega
  have hle : (256 : Int) ^ k * 256 ≤ 65536 := by
    have hn : (256 : Nat) ^ (k + 1) ≤ 256 ^ 2 := Nat.pow_le_pow_right (by decide) (by omega)
    have h2 : ((256 ^ (k + 1) : Nat) : Int) = 256 ^ k * 256 := by rw [Nat.pow_succ, Int.natCast_mul, Int.natCast_pow]; rfl
    have h3 : (256 : Nat) ^ 2 = 65536 := rfl
    omega
  have hbk : b * 256 ^ k < 65536 := by
    have : b * 256 ^ k ≤ 255 * 256 ^ k := Int.mul_le_mul_of_nonneg_right (by omega) (by omega)
    omega
  have hb' : 0 ≤ b * 256 ^ k := Int.mul_nonneg hb0 (by omega)
  rw [e1, ← pow_byte]
  have e3 : IntKind.u16.wrap (b * 256 ^ k) = b * 256 ^ k := by rw [IntKind.wrap_u16]; exact Int.emod_eq_of_lt hb' hbk
  rw [e3, u16_or _ _ hx0 (by omega) hb' hbk]
  have e4 : (b * 256 ^ k).toNat = 2 ^ (8 * k) * b.toNat := by
    obtain ⟨B, rfl⟩ := Int.eq_ofNat_of_zero_le hb0
    rw [pow_byte, Int.mul_comm]
    have : ((2 : Int) ^ (8 * k) * (B : Int)) = ((2 ^ (8 * k) * B : Nat) : Int) := by simp
    rw [this, Int.toNat_natCast, Int.toNat_natCast]
  have hx : x.toNat < 2 ^ (8 * k) := by
    have : ((2 ^ (8 * k) : Nat) : Int) = 256 ^ k := by rw [pow_byte]; simp
    omega
  rw [e4, Nat.or_comm, ← Nat.two_pow_add_eq_or_of_lt hx]
  have e5 : ((2 ^ (8 * k) * b.toNat + x.toNat : Nat) : Int) = x + b * 256 ^ k := by
    rw [pow_byte]
    push_cast
    rw [Int.toNat_of_nonneg hx0, Int.toNat_of_nonneg hb0, Int.mul_comm]; omega
  exact e5

/-- One byte more in a 32-bit number. -/
theorem or_step32 (x b : Int) (k : Nat) (hk : k < 4) (hx0 : 0 ≤ x) (hx1 : x < 256 ^ k) (hb0 : 0 ≤ b) (hb1 : b < 256) :
    bits BinOp.or IntKind.u32 x (IntKind.u32.wrap (IntKind.u32.wrap b * 2 ^ (8 * k))) = x + b * 256 ^ k := by
  have hp := pow_pos' k
  have e1 : IntKind.u32.wrap b = b := by rw [IntKind.wrap_u32']; omega
  have hle : (256 : Int) ^ k * 256 ≤ 4294967296 := by
    have hn : (256 : Nat) ^ (k + 1) ≤ 256 ^ 4 := Nat.pow_le_pow_right (by decide) (by omega)
    have h2 : ((256 ^ (k + 1) : Nat) : Int) = 256 ^ k * 256 := by rw [Nat.pow_succ, Int.natCast_mul, Int.natCast_pow]; rfl
    have h3 : (256 : Nat) ^ 4 = 4294967296 := rfl
    omega
  have hbk : b * 256 ^ k < 4294967296 := by
    have : b * 256 ^ k ≤ 255 * 256 ^ k := Int.mul_le_mul_of_nonneg_right (by omega) (by omega)
    omega
  have hb' : 0 ≤ b * 256 ^ k := Int.mul_nonneg hb0 (by omega)
  rw [e1, ← pow_byte]
  have e3 : IntKind.u32.wrap (b * 256 ^ k) = b * 256 ^ k := by rw [IntKind.wrap_u32']; exact Int.emod_eq_of_lt hb' hbk
  rw [e3, u32_or _ _ hx0 (by omega) hb' hbk]
  have e4 : (b * 256 ^ k).toNat = 2 ^ (8 * k) * b.toNat := by
    obtain ⟨B, rfl⟩ := Int.eq_ofNat_of_zero_le hb0
    rw [pow_byte, Int.mul_comm]
    have : ((2 : Int) ^ (8 * k) * (B : Int)) = ((2 ^ (8 * k) * B : Nat) : Int) := by simp
    rw [this, Int.toNat_natCast, Int.toNat_natCast]
  have hx : x.toNat < 2 ^ (8 * k) := by
    have : ((2 ^ (8 * k) : Nat) : Int) = 256 ^ k := by rw [pow_byte]; simp
    omega
  rw [e4, Nat.or_comm, ← Nat.two_pow_add_eq_or_of_lt hx]
  have e5 : ((2 ^ (8 * k) * b.toNat + x.toNat : Nat) : Int) = x + b * 256 ^ k := by
    rw [pow_byte]
    push_cast
    rw [Int.toNat_of_nonneg hx0, Int.toNat_of_nonneg hb0, Int.mul_comm]; omega
  exact e5

/-- One byte more in a 64-bit number. -/
theorem or_step64 (x b : Int) (k : Nat) (hk : k < 8) (hx0 : 0 ≤ x) (hx1 : x < 256 ^ k) (hb0 : 0 ≤ b) (hb1 : b < 256) :
    bits BinOp.or IntKind.u64 x (IntKind.u64.wrap (IntKind.u64.wrap b * 2 ^ (8 * k))) = x + b * 256 ^ k := by
  have hp := pow_pos' k
  have e1 : IntKind.u64.wrap b = b := by rw [IntKind.wrap_u64]; omega
  have hle : (256 : Int) ^ k * 256 ≤ 18446744073709551616 := by
    have hn : (256 : Nat) ^ (k + 1) ≤ 256 ^ 8 := Nat.pow_le_pow_right (by decide) (by omega)
    have h2 : ((256 ^ (k + 1) : Nat) : Int) = 256 ^ k * 256 := by rw [Nat.pow_succ, Int.natCast_mul, Int.natCast_pow]; rfl
    have h3 : (256 : Nat) ^ 8 = 18446744073709551616 := rfl
    omega
  have hbk : b * 256 ^ k < 18446744073709551616 := by
    have : b * 256 ^ k ≤ 255 * 256 ^ k := Int.mul_le_mul_of_nonneg_right (by omega) (by omega)
    omega
  have hb' : 0 ≤ b * 256 ^ k := Int.mul_nonneg hb0 (by omega)
  rw [e1, ← pow_byte]
  have e3 : IntKind.u64.wrap (b * 256 ^ k) = b * 256 ^ k := by rw [IntKind.wrap_u64]; exact Int.emod_eq_of_lt hb' hbk
  rw [e3, u64_or _ _ hx0 (by omega) hb' hbk]
  have e4 : (b * 256 ^ k).toNat = 2 ^ (8 * k) * b.toNat := by
    obtain ⟨B, rfl⟩ := Int.eq_ofNat_of_zero_le hb0
    rw [pow_byte, Int.mul_comm]
    have : ((2 : Int) ^ (8 * k) * (B : Int)) = ((2 ^ (8 * k) * B : Nat) : Int) := by simp
    rw [this, Int.toNat_natCast, Int.toNat_natCast]
  have hx : x.toNat < 2 ^ (8 * k) := by
    have : ((2 ^ (8 * k) : Nat) : Int) = 256 ^ k := by rw [pow_byte]; simp
    omega
  rw [e4, Nat.or_comm, ← Nat.two_pow_add_eq_or_of_lt hx]
  have e5 : ((2 ^ (8 * k) * b.toNat + x.toNat : Nat) : Int) = x + b * 256 ^ k := by
    rw [pow_byte]
    push_cast
    rw [Int.toNat_of_nonneg hx0, Int.toNat_of_nonneg hb0, Int.mul_comm]; omega
  exact e5

end Go.Proofs.YtickkaeaaemakaaGreatDoor
namespace Go.Proofs.YtickkaeaaemakaaGreatDoor
open Go.RowKit

theorem tabsize : Lib.len8tab.size = 256 := by decide +kernel
theorem tab_get (b : Int) (h0 : 0 ≤ b) (h1 : b < 256) (h : b.toNat < Lib.len8tab.size) : ((Lib.len8tab[b.toNat]'h).toNat : Int) = Lib.bitLen b.toNat := by
  have hl := Lib.len8_of b h0 (by omega)
  unfold Lib.len8 at hl
  rw [getElem?_pos Lib.len8tab b.toNat h] at hl
  exact hl
theorem tab_wrap (k : Int) (b : Int) (h0 : 0 ≤ b) (h1 : b < 256) (h : b.toNat < Lib.len8tab.size) (k0 : 0 ≤ k) (k1 : k ≤ 64) :
    wrap64 (k + wrap64 ((Lib.len8tab[b.toNat]'h).toNat : Int)) = k + Lib.bitLen b.toNat := by
  have e := tab_get b h0 h1 h
  have l := Lib.bitLen_le8' b h0 (by omega)
  rw [e]
  unfold wrap64
  omega

set_option maxHeartbeats 4000000 in
set_option maxRecDepth 100000 in
theorem len64_a (x : Int) (h1 : 256 ≤ x) (h2 : x < 65536) (w : World) :
   Calls Tryz.prog 120 #[.int .u64 x] w fun e w' => e = .returned (.int .i64 (Lib.bitLen x.toNat)) ∧ w = w' := by
  have ts := tabsize
  go_enter Tryz.func120, Tryz.ntmps120
  go_wp2
  go_ret
  refine ⟨congrArg Ending.returned (congrArg (Value.int IntKind.i64) ?_), rfl⟩
  have e : (x / 256).toNat = x.toNat / 256 := by omega
  have s := Lib.bitLen_shift8 x.toNat (by omega) (by omega)
  refine (tab_wrap _ (x / 256) (by omega) (by omega) _ (by omega) (by omega)).trans ?_
  rw [e, s]
  omega
theorem bla : Lib.bitLen (65535 : Int).toNat = 16 := by decide
theorem len64_maxa (w : World) : Calls Tryz.prog 120 #[.int .u64 65535] w fun e w' => e = .returned (.int .i64 16) ∧ w = w' :=
  (len64_a 65535 (by decide) (by decide) w).mono fun _ _ ⟨he, hw⟩ => ⟨by rw [he, bla]; rfl, hw⟩
set_option maxHeartbeats 4000000 in
set_option maxRecDepth 100000 in
theorem len64_b (x : Int) (h1 : 16777216 ≤ x) (h2 : x < 4294967296) (w : World) :
   Calls Tryz.prog 120 #[.int .u64 x] w fun e w' => e = .returned (.int .i64 (Lib.bitLen x.toNat)) ∧ w = w' := by
  have ts := tabsize
  go_enter Tryz.func120, Tryz.ntmps120
  go_wp2
  go_ret
  refine ⟨congrArg Ending.returned (congrArg (Value.int IntKind.i64) ?_), rfl⟩
  have e : (x / 65536 / 256).toNat = x.toNat / 16777216 := by omega
  have s := Lib.bitLen_shift24 x.toNat (by omega) (by omega)
  refine (tab_wrap _ (x / 65536 / 256) (by omega) (by omega) _ (by omega) (by omega)).trans ?_
  rw [e, s]
  omega
theorem blb : Lib.bitLen (4294967295 : Int).toNat = 32 := by decide
theorem len64_maxb (w : World) : Calls Tryz.prog 120 #[.int .u64 4294967295] w fun e w' => e = .returned (.int .i64 32) ∧ w = w' :=
  (len64_b 4294967295 (by decide) (by decide) w).mono fun _ _ ⟨he, hw⟩ => ⟨by rw [he, blb]; rfl, hw⟩
set_option maxHeartbeats 4000000 in
set_option maxRecDepth 100000 in
theorem len64_c (x : Int) (h1 : 72057594037927936 ≤ x) (h2 : x ≤ 18446744073709551615) (w : World) :
   Calls Tryz.prog 120 #[.int .u64 x] w fun e w' => e = .returned (.int .i64 (Lib.bitLen x.toNat)) ∧ w = w' := by
  have ts := tabsize
  go_enter Tryz.func120, Tryz.ntmps120
  go_wp2
  go_ret
  refine ⟨congrArg Ending.returned (congrArg (Value.int IntKind.i64) ?_), rfl⟩
  have e : (x / 4294967296 / 65536 / 256).toNat = x.toNat / 72057594037927936 := by omega
  have s := Lib.bitLen_shift56 x.toNat (by omega) (by omega)
  refine (tab_wrap _ (x / 4294967296 / 65536 / 256) (by omega) (by omega) _ (by omega) (by omega)).trans ?_
  rw [e, s]
  omega
theorem blc : Lib.bitLen (18446744073709551615 : Int).toNat = 64 := by decide
theorem len64_maxc (w : World) : Calls Tryz.prog 120 #[.int .u64 18446744073709551615] w fun e w' => e = .returned (.int .i64 64) ∧ w = w' :=
  (len64_c 18446744073709551615 (by decide) (by decide) w).mono fun _ _ ⟨he, hw⟩ => ⟨by rw [he, blc]; rfl, hw⟩
theorem whole_eq (x y : Int) (h0 : 0 ≤ x) (h1 : x < 4294967296) (h2 : 0 ≤ y) (h3 : y < 4294967296) :
    bits BinOp.or IntKind.u64 (IntKind.u64.wrap (IntKind.u64.wrap y * 4294967296)) (IntKind.u64.wrap x) = x + y * 4294967296 := by
  have e1 : IntKind.u64.wrap y = y := by rw [IntKind.wrap_u64]; omega
  have e2 : IntKind.u64.wrap x = x := by rw [IntKind.wrap_u64]; omega
  have e3 : IntKind.u64.wrap (y * 4294967296) = y * 4294967296 := by rw [IntKind.wrap_u64]; omega
  rw [e1, e2, e3, u64_or _ _ (by omega) (by omega) (by omega) (by omega)]
  have e4 : (y * 4294967296).toNat = 2 ^ 32 * y.toNat := by omega
  rw [e4, ← Nat.two_pow_add_eq_or_of_lt (by omega)]
  omega
end Go.Proofs.YtickkaeaaemakaaGreatDoor
namespace Go.Proofs.YtickkaeaaemakaaGreatDoor
open Go.RowKit

/-- The slice's address p leads, below block B, to the bytes xs. -/
def Rd (w : World) (B : Nat) (p : Option Addr) (xs : List Int) : Prop :=
  0 < xs.length → ∃ b o, p = some ⟨b, o, none⟩ ∧ b < B ∧ ∀ i, i < xs.length → w.cell? ⟨b, o + i, none⟩ = some (.int .u8 (xs.getD i 0))
theorem Rd.nil (w : World) (B : Nat) (p : Option Addr) : Rd w B p [] := fun h => absurd h (by simp)
theorem Rd.keep {w w' : World} {B : Nat} {p : Option Addr} {xs : List Int} (h : Rd w B p xs) (hk : ∀ q : Addr, q.block < B → w'.cell? q = w.cell? q) : Rd w' B p xs := fun hn => by
  obtain ⟨b, o, e, hb, hc⟩ := h hn
  exact ⟨b, o, e, hb, fun i hi => (hk _ hb).trans (hc i hi)⟩
theorem Rd.more {w : World} {B B' : Nat} {p : Option Addr} {xs : List Int} (h : Rd w B p xs) (hB : B ≤ B') : Rd w B' p xs := fun hn => by
  obtain ⟨b, o, e, hb, hc⟩ := h hn
  exact ⟨b, o, e, by omega, hc⟩
theorem Rd.below {w w' : World} {B B' : Nat} {p : Option Addr} {xs : List Int} (h : Rd w B p xs) (hb : Below B' w w') (hB : B ≤ B') : Rd w' B p xs := h.keep fun _ hq => hb.cell (by omega)
theorem Rd.drewN {w : World} {B : Nat} {p : Option Addr} {xs : List Int} (h : Rd w B p xs) (n : Nat) : Rd (w.drewN n) B p xs := h
theorem Rd.alloc {w : World} {B : Nat} {p : Option Addr} {xs : List Int} (h : Rd w B p xs) (hB : B ≤ w.heap.size) (o : Obj) : Rd (w.alloc o) B p xs := h.keep fun q hq => World.cell?_alloc_lt w o q (by omega)
theorem Rd.setCell {w : World} {B : Nat} {p : Option Addr} {xs : List Int} (h : Rd w B p xs) {q : Addr} (hB : B ≤ q.block) (u : Value) : Rd (w.setCell q u) B p xs :=
  h.keep fun r hr => World.cell?_setCell_other w q r u (fun e => by subst e; omega)
theorem Rd.grown {w w' : World} {B : Nat} {p : Option Addr} {xs : List Int} (h : Rd w B p xs) {row : Option Nat} (hg : w.grownBy w' row) (hB : B ≤ w.heap.size) (hr : ∀ g, row = some g → B ≤ g) : Rd w' B p xs :=
  h.keep fun q hq => World.cell?_of_block (hg.block q.block (by omega) (fun e => by have := hr _ e.symm; omega))
/-- A cut of the slice from k to m reads as those bytes. -/
theorem Rd.cut {w : World} {B : Nat} {b o : Nat} {xs : List Int} (h : Rd w B (some ⟨b, o, none⟩) xs) (k m : Nat) : Rd w B (some ⟨b, o + k, none⟩) ((xs.drop k).take m) := fun hn => by
  have hl : ((xs.drop k).take m).length ≤ xs.length - k := by rw [List.length_take, List.length_drop]; omega
  obtain ⟨b', o', e, hb, hc⟩ := h (by omega)
  injection e with e; injection e with e1 e2 _
  subst e1 e2
  refine ⟨b, o + k, rfl, hb, fun i hi => ?_⟩
  rw [Nat.add_assoc, hc (k + i) (by omega)]
  have : i < m := by rw [List.length_take] at hi; omega
  simp only [List.getD_eq_getElem?_getD, List.getElem?_take, List.getElem?_drop, if_pos this]
theorem Rd.drop {w : World} {B : Nat} {b o : Nat} {xs : List Int} (h : Rd w B (some ⟨b, o, none⟩) xs) (k : Nat) : Rd w B (some ⟨b, o + k, none⟩) (xs.drop k) := by
  have := h.cut k (xs.length - k)
  rwa [List.take_of_length_le (by rw [List.length_drop]; exact Nat.le_refl _)] at this
theorem Rd.take {w : World} {B : Nat} {p : Option Addr} {xs : List Int} (h : Rd w B p xs) (m : Nat) : Rd w B p (xs.take m) := fun hn => by
  have hl : (xs.take m).length ≤ xs.length := by rw [List.length_take]; omega
  obtain ⟨b, o, e, hb, hc⟩ := h (by omega)
  refine ⟨b, o, e, hb, fun i hi => ?_⟩
  rw [hc i (by omega)]
  have : i < m := by rw [List.length_take] at hi; omega
  simp only [List.getD_eq_getElem?_getD, List.getElem?_take, if_pos this]
/-- What the call owns reads as its bytes. -/
theorem Rd.of_own {w : World} {base g c n : Nat} {e : TypeId} {xs : List Int} (h : w.ownsRow base e 1 (.slice (some ⟨g, 0, none⟩) n c) n (xs.map (Value.int .u8))) : Rd w w.heap.size (some ⟨g, 0, none⟩) xs := fun _ => by
  have hn : xs.length = n := by have := h.1; simpa using this
  refine ⟨g, 0, rfl, (h.lt g rfl).2, fun i hi => ?_⟩
  rw [Nat.zero_add, h.cellAt i (by omega)]
  simp [List.getD_eq_getElem?_getD, hi]

/-- Are there k bytes from the place on? -/
def getB (k : Nat) (xs : List Int) (at_ : Int) : Bool := decide (0 ≤ at_ ∧ at_ + k ≤ xs.length)
/-- The number of the k bytes from the place on, or 0. -/
def getV (k : Nat) (xs : List Int) (at_ : Int) : Int := if getB k xs at_ then leV ((xs.drop at_.toNat).take k) else 0
theorem getB_true {k : Nat} {xs : List Int} {at_ : Int} (h : 0 ≤ at_) (h1 : at_ + k ≤ xs.length) : getB k xs at_ = true := decide_eq_true ⟨h, h1⟩
theorem getB_false {k : Nat} {xs : List Int} {at_ : Int} (h : at_ < 0 ∨ xs.length < at_ + k) : getB k xs at_ = false := decide_eq_false (by omega)
theorem getV_true {k : Nat} {xs : List Int} {a : Nat} (h1 : a + k ≤ xs.length) : getV k xs a = leV ((xs.drop a).take k) := by
  unfold getV; rw [if_pos (getB_true (by omega) (by omega))]; simp
theorem getV_false {k : Nat} {xs : List Int} {at_ : Int} (h : at_ < 0 ∨ xs.length < at_ + k) : getV k xs at_ = 0 := by
  unfold getV; rw [getB_false h]; rfl
theorem getV_range {k : Nat} {xs : List Int} (h : Byt xs) (at_ : Int) : 0 ≤ getV k xs at_ ∧ getV k xs at_ < 256 ^ k := by
  unfold getV
  split
  · rename_i hb
    have hb := of_decide_eq_true hb
    have hl : ((xs.drop at_.toNat).take k).length = k := by rw [List.length_take, List.length_drop]; omega
    have h1 := ((h.drop at_.toNat).take k)
    have h2 := leV_lt h1
    rw [hl] at h2
    exact ⟨leV_nonneg h1, h2⟩
  · exact ⟨Int.le_refl _, pow_pos' k⟩
/-- One byte more. -/
theorem take_snoc {xs : List Int} {a k : Nat} (h : a + k < xs.length) : (xs.drop a).take (k + 1) = (xs.drop a).take k ++ [xs[a + k]?.getD 0] := by
  rw [List.take_add_one, List.getElem?_drop, List.getElem?_eq_getElem h]; simp
theorem take_cons {xs : List Int} {a k : Nat} (h : a < xs.length) : (xs.drop a).take (k + 1) = xs[a]?.getD 0 :: (xs.drop (a + 1)).take k := by
  rw [List.drop_eq_getElem_cons h, List.take_succ_cons, List.getElem?_eq_getElem h]; rfl

theorem get16_step {xs : List Int} {a k : Nat} (hB : Byt xs) (hk : k < 2) (h : a + k < xs.length) :
    bits BinOp.or IntKind.u16 (leV ((xs.drop a).take k)) (IntKind.u16.wrap (IntKind.u16.wrap (xs[a + k]?.getD 0) * 2 ^ (8 * k))) = leV ((xs.drop a).take (k + 1)) := by
  have hl : ((xs.drop a).take k).length = k := by rw [List.length_take, List.length_drop]; omega
  have h1 := ((hB.drop a).take k)
  have h2 := leV_lt h1
  have h3 := hB.get? (a + k)
  rw [hl] at h2
  rw [or_step16 _ _ k hk (leV_nonneg h1) h2 h3.1 h3.2, take_snoc h, leV_snoc, hl]
theorem get32_step {xs : List Int} {a k : Nat} (hB : Byt xs) (hk : k < 4) (h : a + k < xs.length) :
    bits BinOp.or IntKind.u32 (leV ((xs.drop a).take k)) (IntKind.u32.wrap (IntKind.u32.wrap (xs[a + k]?.getD 0) * 2 ^ (8 * k))) = leV ((xs.drop a).take (k + 1)) := by
  have hl : ((xs.drop a).take k).length = k := by rw [List.length_take, List.length_drop]; omega
  have h1 := ((hB.drop a).take k)
  have h2 := leV_lt h1
  have h3 := hB.get? (a + k)
  rw [hl] at h2
  rw [or_step32 _ _ k hk (leV_nonneg h1) h2 h3.1 h3.2, take_snoc h, leV_snoc, hl]
theorem get64_step {xs : List Int} {a k : Nat} (hB : Byt xs) (hk : k < 8) (h : a + k < xs.length) :
    bits BinOp.or IntKind.u64 (leV ((xs.drop a).take k)) (IntKind.u64.wrap (IntKind.u64.wrap (xs[a + k]?.getD 0) * 2 ^ (8 * k))) = leV ((xs.drop a).take (k + 1)) := by
  have hl : ((xs.drop a).take k).length = k := by rw [List.length_take, List.length_drop]; omega
  have h1 := ((hB.drop a).take k)
  have h2 := leV_lt h1
  have h3 := hB.get? (a + k)
  rw [hl] at h2
  rw [or_step64 _ _ k hk (leV_nonneg h1) h2 h3.1 h3.2, take_snoc h, leV_snoc, hl]
end Go.Proofs.YtickkaeaaemakaaGreatDoor
namespace Go.Proofs.YtickkaeaaemakaaGreatDoor
open Go.RowKit
set_option linter.unusedVariables false

/-- The bytes as values. -/
def bv (l : List Int) : List Value := l.map (Value.int .u8)
theorem bv_length (l : List Int) : (bv l).length = l.length := List.length_map ..
theorem bv_get {l : List Int} {i : Nat} (h : i < l.length) : (bv l)[i]? = some (.int .u8 (l.getD i 0)) := by
  simp [bv, List.getD_eq_getElem?_getD, h]
theorem bv_set (l : List Int) (i : Nat) (x : Int) : (bv l).set i (.int .u8 x) = bv (l.set i x) := by simp [bv, List.map_set]
/-- The first k bytes of x are laid, the others are 0. -/
def laidL (n k : Nat) (x : Int) : List Int := putL k x ++ List.replicate (n - k) 0
theorem laidL_length {n k : Nat} (x : Int) (h : k ≤ n) : (laidL n k x).length = n := by simp [laidL, putL_length]; omega
theorem laidL_all (n : Nat) (x : Int) : laidL n n x = putL n x := by simp [laidL]
theorem laidL_none (n : Nat) (x : Int) : laidL n 0 x = List.replicate n 0 := by simp [laidL, putL]
theorem laidL_set {n k : Nat} (x : Int) (h : k < n) : (laidL n k x).set k (x / 256 ^ k % 256) = laidL n (k + 1) x := by
  unfold laidL
  rw [putL_snoc, List.set_append_right _ _ (by rw [putL_length]; exact Nat.le_refl _), putL_length, Nat.sub_self]
  have e : n - k = n - (k + 1) + 1 := by omega
  rw [e, List.replicate_succ, List.set_cons_zero, List.append_assoc]; rfl
theorem laidL_step {w w1 : World} {base g n c k : Nat} {e : TypeId} {x y : Int} (hk : k < n) (hy : y = x / 256 ^ k % 256)
    (h : w.ownsRow base e 1 (.slice (some ⟨g, 0, none⟩) n c) n (bv (laidL n k x))) (hw : w1 = w.setCell ⟨g, k, none⟩ (.int .u8 y)) :
    w1.ownsRow base e 1 (.slice (some ⟨g, 0, none⟩) n c) n (bv (laidL n (k + 1) x)) := by
  subst hy hw
  have := (h.stored k (.int .u8 (x / 256 ^ k % 256))).1
  rwa [bv_set, laidL_set x hk] at this
theorem laidL_cell {w : World} {base g n c k : Nat} {e : TypeId} {x : Int} (hk : k < n)
    (h : w.ownsRow base e 1 (.slice (some ⟨g, 0, none⟩) n c) n (bv (laidL n k x))) : ∃ v, w.cell? ⟨g, k, none⟩ = some (.int .u8 v) := by
  rw [h.cellAt k (by omega)]
  exact ⟨_, bv_get (by rw [laidL_length x (by omega)]; exact hk)⟩
theorem shr_step (x : Int) (k : Nat) : x / 2 ^ (8 * k) % 256 = x / 256 ^ k % 256 := by rw [pow_byte]
theorem ret_slice {g g' n : Nat} (h : g = g') : Ending.returned (.slice (some ⟨g, 0, none⟩) n n) = .returned (.slice (some ⟨g', 0, none⟩) n n) := by rw [h]
theorem u8_zero : (Tryz.prog.info? 5).map (fun i => (i.zero, i.size, i.bytes)) = some (some (.int .u8 0), 1, 1) := by kernel_rfl
/-- n bytes in new memory. -/
theorem own_new (w : World) (n : Nat) (hn : n ≤ 100) (x : Int) (cs : Array Value) (hcs : cs.toList = bv (List.replicate n 0)) :
    (w.alloc (.cells cs 5)).ownsRow w.heap.size 5 1 (.slice (some ⟨w.heap.size, 0, none⟩) n n) n (bv (laidL n 0 x)) := by
  have hs : cs.size = n * 1 := by rw [← Array.length_toList, hcs, bv_length]; simp
  have := World.ownsRow_lit (base := w.heap.size) (e := 5) (size := 1) w cs n (Nat.le_refl _) (by unfold maxLen; omega) hs
  rwa [hcs, ← laidL_none n x] at this

theorem refPut_div (x : Int) (k : Nat) (h : 0 ≤ x) : x / 256 ^ k / 256 = x / 256 ^ (k + 1) := by
  rw [Int.pow_succ, Int.ediv_ediv_of_nonneg (Int.le_of_lt (pow_pos' k))]
theorem make2 (w : World) : (Instr.makeSlice 183 (.int .i64 2) (.int .i64 2)).run Tryz.prog w = .ok (.slice (some ⟨w.heap.size, 0, none⟩) 2 2) (w.alloc (.cells #[.int .u8 0, .int .u8 0] 5)) := by kernel_rfl
theorem make4 (w : World) : (Instr.makeSlice 183 (.int .i64 4) (.int .i64 4)).run Tryz.prog w = .ok (.slice (some ⟨w.heap.size, 0, none⟩) 4 4) (w.alloc (.cells #[.int .u8 0, .int .u8 0, .int .u8 0, .int .u8 0] 5)) := by kernel_rfl
theorem make8 (w : World) : (Instr.makeSlice 183 (.int .i64 8) (.int .i64 8)).run Tryz.prog w = .ok (.slice (some ⟨w.heap.size, 0, none⟩) 8 8) (w.alloc (.cells #[.int .u8 0, .int .u8 0, .int .u8 0, .int .u8 0, .int .u8 0, .int .u8 0, .int .u8 0, .int .u8 0] 5)) := by kernel_rfl
theorem refGet2_step {xs : List Int} {a j d : Nat} (hB : Byt xs) (hd : d + (j + 1) = 2) (h : a + 2 ≤ xs.length) :
    IntKind.u64.wrap (IntKind.u64.wrap (leV ((xs.drop (a + (j + 1))).take d) * 256) + IntKind.u64.wrap (xs[a + j]?.getD 0)) = leV ((xs.drop (a + j)).take (2 - j)) := by
  have hl : ((xs.drop (a + (j + 1))).take d).length = d := by rw [List.length_take, List.length_drop]; omega
  have h1 := ((hB.drop (a + (j + 1))).take d)
  have h2 := leV_lt h1
  have h2' := leV_nonneg h1
  have h3 := hB.get? (a + j)
  have e : 2 - j = d + 1 := by omega
  have hh : (256 : Int) ^ ((xs.drop (a + (j + 1))).take d).length ≤ 72057594037927936 := by
    rw [hl]
    have hn : (256 : Nat) ^ d ≤ 256 ^ 7 := Nat.pow_le_pow_right (by decide) (by omega)
    have e2 : ((256 ^ d : Nat) : Int) = 256 ^ d := by rw [Int.natCast_pow]; rfl
    have h3 : (256 : Nat) ^ 7 = 72057594037927936 := rfl
    omega
  rw [e, take_cons (by omega)]
  simp only [leV, IntKind.wrap_u64, Nat.add_assoc]
  omega
theorem refGet4_step {xs : List Int} {a j d : Nat} (hB : Byt xs) (hd : d + (j + 1) = 4) (h : a + 4 ≤ xs.length) :
    IntKind.u64.wrap (IntKind.u64.wrap (leV ((xs.drop (a + (j + 1))).take d) * 256) + IntKind.u64.wrap (xs[a + j]?.getD 0)) = leV ((xs.drop (a + j)).take (4 - j)) := by
  have hl : ((xs.drop (a + (j + 1))).take d).length = d := by rw [List.length_take, List.length_drop]; omega
  have h1 := ((hB.drop (a + (j + 1))).take d)
  have h2 := leV_lt h1
  have h2' := leV_nonneg h1
  have h3 := hB.get? (a + j)
  have e : 4 - j = d + 1 := by omega
  have hh : (256 : Int) ^ ((xs.drop (a + (j + 1))).take d).length ≤ 72057594037927936 := by
    rw [hl]
    have hn : (256 : Nat) ^ d ≤ 256 ^ 7 := Nat.pow_le_pow_right (by decide) (by omega)
    have e2 : ((256 ^ d : Nat) : Int) = 256 ^ d := by rw [Int.natCast_pow]; rfl
    have h3 : (256 : Nat) ^ 7 = 72057594037927936 := rfl
    omega
  rw [e, take_cons (by omega)]
  simp only [leV, IntKind.wrap_u64, Nat.add_assoc]
  omega
theorem refGet8_step {xs : List Int} {a j d : Nat} (hB : Byt xs) (hd : d + (j + 1) = 8) (h : a + 8 ≤ xs.length) :
    IntKind.u64.wrap (IntKind.u64.wrap (leV ((xs.drop (a + (j + 1))).take d) * 256) + IntKind.u64.wrap (xs[a + j]?.getD 0)) = leV ((xs.drop (a + j)).take (8 - j)) := by
  have hl : ((xs.drop (a + (j + 1))).take d).length = d := by rw [List.length_take, List.length_drop]; omega
  have h1 := ((hB.drop (a + (j + 1))).take d)
  have h2 := leV_lt h1
  have h2' := leV_nonneg h1
  have h3 := hB.get? (a + j)
  have e : 8 - j = d + 1 := by omega
  have hh : (256 : Int) ^ ((xs.drop (a + (j + 1))).take d).length ≤ 72057594037927936 := by
    rw [hl]
    have hn : (256 : Nat) ^ d ≤ 256 ^ 7 := Nat.pow_le_pow_right (by decide) (by omega)
    have e2 : ((256 ^ d : Nat) : Int) = 256 ^ d := by rw [Int.natCast_pow]; rfl
    have h3 : (256 : Nat) ^ 7 = 72057594037927936 := rfl
    omega
  rw [e, take_cons (by omega)]
  simp only [leV, IntKind.wrap_u64, Nat.add_assoc]
  omega
end Go.Proofs.YtickkaeaaemakaaGreatDoor
