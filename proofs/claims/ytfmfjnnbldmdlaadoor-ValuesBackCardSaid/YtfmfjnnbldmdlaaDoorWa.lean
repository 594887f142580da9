/- What the small functions of the package words return: the number of bytes of each integer type, the halves of a number, the number of two halves. No condition. -/
import Derived.Test.YtfmfjnnbldmdlaaDoorRows
import Derived.WalkKit
import Derived.WalkSpells
import Derived.Lib.Strings
import Derived.Lib.Slices
import Derived.Lib.Small
import Derived.Lib.Walk
import Derived.Lib.BitFns
import Derived.Lib.Hide
import Derived.Laws.BitsAllLaws
namespace Go.Proofs.YtfmfjnnbldmdlaaDoor
open Go.RowKit

theorem tabsize : Lib.len8tab.size = 256 := by decide +kernel
theorem tab_get (b : Int) (h0 : 0 ≤ b) (h1 : b < 256) (h : b.toNat < Lib.len8tab.size) : ((Lib.len8tab[b.toNat]'h).toNat : Int) = Lib.bitLen b.toNat := by
  have hl := Lib.len8_of b h0 (by omega)
  unfold Lib.len8 at hl
  rw [getElem?_pos Lib.len8tab b.toNat h] at hl
  exact hl
theorem tab_wrap (k : Int) (b : Int) (h0 : 0 ≤ b) (h1 : b < 256) (h : b.toNat < Lib.len8tab.size) (k0 : 0 ≤ k) (k1 : k ≤ 64) :
    wrap64 (k + wrap64 ((Lib.len8tab[b.toNat]'h).toNat : Int)) = k + Lib.bitLen b.toNat := by
  have e := tab_get b h0 h1 h
  have l := Lib.bitLen_le8' b h0 (by omega)
  rw [e]
  unfold wrap64
  omega

set_option maxHeartbeats 4000000 in
set_option maxRecDepth 100000 in
theorem len64_a (x : Int) (h1 : 256 ≤ x) (h2 : x < 65536) (w : World) :
   Calls Tryd.prog 58 #[.int .u64 x] w fun e w' => e = .returned (.int .i64 (Lib.bitLen x.toNat)) ∧ w = w' := by
  have ts := tabsize
  go_enter Tryd.func58, Tryd.ntmps58
  go_wp2
  go_ret
  refine ⟨congrArg Ending.returned (congrArg (Value.int IntKind.i64) ?_), rfl⟩
  have e : (x / 256).toNat = x.toNat / 256 := by omega
  have s := Lib.bitLen_shift8 x.toNat (by omega) (by omega)
  refine (tab_wrap _ (x / 256) (by omega) (by omega) _ (by omega) (by omega)).trans ?_
  rw [e, s]
  omega
theorem bla : Lib.bitLen (65535 : Int).toNat = 16 := by decide
theorem len64_maxa (w : World) : Calls Tryd.prog 58 #[.int .u64 65535] w fun e w' => e = .returned (.int .i64 16) ∧ w = w' :=
  (len64_a 65535 (by decide) (by decide) w).mono fun _ _ ⟨he, hw⟩ => ⟨by rw [he, bla]; rfl, hw⟩
set_option maxHeartbeats 4000000 in
set_option maxRecDepth 100000 in
theorem len64_b (x : Int) (h1 : 16777216 ≤ x) (h2 : x < 4294967296) (w : World) :
   Calls Tryd.prog 58 #[.int .u64 x] w fun e w' => e = .returned (.int .i64 (Lib.bitLen x.toNat)) ∧ w = w' := by
  have ts := tabsize
  go_enter Tryd.func58, Tryd.ntmps58
  go_wp2
  go_ret
  refine ⟨congrArg Ending.returned (congrArg (Value.int IntKind.i64) ?_), rfl⟩
  have e : (x / 65536 / 256).toNat = x.toNat / 16777216 := by omega
  have s := Lib.bitLen_shift24 x.toNat (by omega) (by omega)
  refine (tab_wrap _ (x / 65536 / 256) (by omega) (by omega) _ (by omega) (by omega)).trans ?_
  rw [e, s]
  omega
theorem blb : Lib.bitLen (4294967295 : Int).toNat = 32 := by decide
theorem len64_maxb (w : World) : Calls Tryd.prog 58 #[.int .u64 4294967295] w fun e w' => e = .returned (.int .i64 32) ∧ w = w' :=
  (len64_b 4294967295 (by decide) (by decide) w).mono fun _ _ ⟨he, hw⟩ => ⟨by rw [he, blb]; rfl, hw⟩
set_option maxHeartbeats 4000000 in
set_option maxRecDepth 100000 in
theorem len64_c (x : Int) (h1 : 72057594037927936 ≤ x) (h2 : x ≤ 18446744073709551615) (w : World) :
   Calls Tryd.prog 58 #[.int .u64 x] w fun e w' => e = .returned (.int .i64 (Lib.bitLen x.toNat)) ∧ w = w' := by
  have ts := tabsize
  go_enter Tryd.func58, Tryd.ntmps58
  go_wp2
  go_ret
  refine ⟨congrArg Ending.returned (congrArg (Value.int IntKind.i64) ?_), rfl⟩
  have e : (x / 4294967296 / 65536 / 256).toNat = x.toNat / 72057594037927936 := by omega
  have s := Lib.bitLen_shift56 x.toNat (by omega) (by omega)
  refine (tab_wrap _ (x / 4294967296 / 65536 / 256) (by omega) (by omega) _ (by omega) (by omega)).trans ?_
  rw [e, s]
  omega
theorem blc : Lib.bitLen (18446744073709551615 : Int).toNat = 64 := by decide
theorem len64_maxc (w : World) : Calls Tryd.prog 58 #[.int .u64 18446744073709551615] w fun e w' => e = .returned (.int .i64 64) ∧ w = w' :=
  (len64_c 18446744073709551615 (by decide) (by decide) w).mono fun _ _ ⟨he, hw⟩ => ⟨by rw [he, blc]; rfl, hw⟩
theorem whole_eq (x y : Int) (h0 : 0 ≤ x) (h1 : x < 4294967296) (h2 : 0 ≤ y) (h3 : y < 4294967296) :
    bits BinOp.or IntKind.u64 (IntKind.u64.wrap (IntKind.u64.wrap y * 4294967296)) (IntKind.u64.wrap x) = x + y * 4294967296 := by
  have e1 : IntKind.u64.wrap y = y := by rw [IntKind.wrap_u64]; omega
  have e2 : IntKind.u64.wrap x = x := by rw [IntKind.wrap_u64]; omega
  have e3 : IntKind.u64.wrap (y * 4294967296) = y * 4294967296 := by rw [IntKind.wrap_u64]; omega
  rw [e1, e2, e3, u64_or _ _ (by omega) (by omega) (by omega) (by omega)]
  have e4 : (y * 4294967296).toNat = 2 ^ 32 * y.toNat := by omega
  rw [e4, ← Nat.two_pow_add_eq_or_of_lt (by omega)]
  omega
end Go.Proofs.YtfmfjnnbldmdlaaDoor
