/- What the small functions of the package words return: the number of bytes of each integer type, the halves of a number, the number of two halves. No condition. -/
import Derived.Test.YtifjnioichfodaaDoorRows
import Derived.WalkKit
import Derived.WalkSpells
import Derived.Lib.Strings
import Derived.Lib.Slices
import Derived.Lib.Small
import Derived.Lib.Walk
import Derived.Lib.BitFns
import Derived.Lib.Hide
import Derived.Laws.BitsAllLaws
namespace Go.Proofs.YtifjnioichfodaaDoor
open Go.RowKit

theorem tabsize : Lib.len8tab.size = 256 := by decide +kernel
theorem tab_get (b : Int) (h0 : 0 ≤ b) (h1 : b < 256) (h : b.toNat < Lib.len8tab.size) : ((Lib.len8tab[b.toNat]'h).toNat : Int) = Lib.bitLen b.toNat := by
  have hl := Lib.len8_of b h0 (by omega)
  unfold Lib.len8 at hl
  rw [getElem?_pos Lib.len8tab b.toNat h] at hl
  exact hl
theorem tab_wrap (k : Int) (b : Int) (h0 : 0 ≤ b) (h1 : b < 256) (h : b.toNat < Lib.len8tab.size) (k0 : 0 ≤ k) (k1 : k ≤ 64) :
    wrap64 (k + wrap64 ((Lib.len8tab[b.toNat]'h).toNat : Int)) = k + Lib.bitLen b.toNat := by
  have e := tab_get b h0 h1 h
  have l := Lib.bitLen_le8' b h0 (by omega)
  rw [e]
  unfold wrap64
  omega

theorem bla : Lib.bitLen (65535 : Int).toNat = 16 := by decide
theorem blb : Lib.bitLen (4294967295 : Int).toNat = 32 := by decide
theorem blc : Lib.bitLen (18446744073709551615 : Int).toNat = 64 := by decide
theorem whole_eq (x y : Int) (h0 : 0 ≤ x) (h1 : x < 4294967296) (h2 : 0 ≤ y) (h3 : y < 4294967296) :
    bits BinOp.or IntKind.u64 (IntKind.u64.wrap (IntKind.u64.wrap y * 4294967296)) (IntKind.u64.wrap x) = x + y * 4294967296 := by
  have e1 : IntKind.u64.wrap y = y := by rw [IntKind.wrap_u64]; omega
  have e2 : IntKind.u64.wrap x = x := by rw [IntKind.wrap_u64]; omega
  have e3 : IntKind.u64.wrap (y * 4294967296) = y * 4294967296 := by rw [IntKind.wrap_u64]; omega
  rw [e1, e2, e3, u64_or _ _ (by omega) (by omega) (by omega) (by omega)]
  have e4 : (y * 4294967296).toNat = 2 ^ 32 * y.toNat := by omega
  rw [e4, ← Nat.two_pow_add_eq_or_of_lt (by omega)]
  omega
end Go.Proofs.YtifjnioichfodaaDoor
