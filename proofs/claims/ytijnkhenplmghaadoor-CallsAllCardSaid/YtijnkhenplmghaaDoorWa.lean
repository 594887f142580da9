/- What the small functions of the package words return: the number of bytes of each integer type, the halves of a number, the number of two halves. No condition. What the functions Get16, Get32, Get64 of the package words return of a slice that reads as a list of bytes, and what the document's own Get returns of it. Condition: the slice is as long as its capacity allows; the number of bytes that is asked for is at most 8. What the functions Put16, Put32, Put64 of the package words return, and what the document's own Put and Get return at 2, 4 and 8 bytes. Condition: the number is at least 0. -/
import Derived.Test.YtijnkhenplmghaaDoorRows
import Derived.WalkKit
import Derived.WalkSpells
import Derived.Lib.Strings
import Derived.Lib.Slices
import Derived.Lib.Small
import Derived.Lib.Walk
import Derived.Lib.BitFns
import Derived.Lib.Hide
import Derived.Laws.BitsAllLaws
import Derived.Test.YtijnkhenplmghaaDoorMa
import Derived.LoopTactic
import Derived.Deep.Draws
import Derived.Laws.ShiftsVarLaws
namespace Go.Proofs.YtijnkhenplmghaaDoor
open Go.RowKit

theorem tabsize : Lib.len8tab.size = 256 := by decide +kernel
theorem tab_get (b : Int) (h0 : 0 ≤ b) (h1 : b < 256) (h : b.toNat < Lib.len8tab.size) : ((Lib.len8tab[b.toNat]'h).toNat : Int) = Lib.bitLen b.toNat := by
  have hl := Lib.len8_of b h0 (by omega)
  unfold Lib.len8 at hl
  rw [getElem?_pos Lib.len8tab b.toNat h] at hl
  exact hl
theorem tab_wrap (k : Int) (b : Int) (h0 : 0 ≤ b) (h1 : b < 256) (h : b.toNat < Lib.len8tab.size) (k0 : 0 ≤ k) (k1 : k ≤ 64) :
    wrap64 (k + wrap64 ((Lib.len8tab[b.toNat]'h).toNat : Int)) = k + Lib.bitLen b.toNat := by
  have e := tab_get b h0 h1 h
  have l := Lib.bitLen_le8' b h0 (by omega)
  rw [e]
  unfold wrap64
  omega

set_option maxHeartbeats 4000000 in
set_option maxRecDepth 100000 in
theorem len64_a (x : Int) (h1 : 256 ≤ x) (h2 : x < 65536) (w : World) :
   Calls Tryd.prog 42 #[.int .u64 x] w fun e w' => e = .returned (.int .i64 (Lib.bitLen x.toNat)) ∧ w = w' := by
  have ts := tabsize
  go_enter Tryd.func42, Tryd.ntmps42
  go_wp2
  go_ret
  refine ⟨congrArg Ending.returned (congrArg (Value.int IntKind.i64) ?_), rfl⟩
  have e : (x / 256).toNat = x.toNat / 256 := by omega
  have s := Lib.bitLen_shift8 x.toNat (by omega) (by omega)
  refine (tab_wrap _ (x / 256) (by omega) (by omega) _ (by omega) (by omega)).trans ?_
  rw [e, s]
  omega
theorem bla : Lib.bitLen (65535 : Int).toNat = 16 := by decide
theorem len64_maxa (w : World) : Calls Tryd.prog 42 #[.int .u64 65535] w fun e w' => e = .returned (.int .i64 16) ∧ w = w' :=
  (len64_a 65535 (by decide) (by decide) w).mono fun _ _ ⟨he, hw⟩ => ⟨by rw [he, bla]; rfl, hw⟩
set_option maxHeartbeats 4000000 in
set_option maxRecDepth 100000 in
theorem len64_b (x : Int) (h1 : 16777216 ≤ x) (h2 : x < 4294967296) (w : World) :
   Calls Tryd.prog 42 #[.int .u64 x] w fun e w' => e = .returned (.int .i64 (Lib.bitLen x.toNat)) ∧ w = w' := by
  have ts := tabsize
  go_enter Tryd.func42, Tryd.ntmps42
  go_wp2
  go_ret
  refine ⟨congrArg Ending.returned (congrArg (Value.int IntKind.i64) ?_), rfl⟩
  have e : (x / 65536 / 256).toNat = x.toNat / 16777216 := by omega
  have s := Lib.bitLen_shift24 x.toNat (by omega) (by omega)
  refine (tab_wrap _ (x / 65536 / 256) (by omega) (by omega) _ (by omega) (by omega)).trans ?_
  rw [e, s]
  omega
theorem blb : Lib.bitLen (4294967295 : Int).toNat = 32 := by decide
theorem len64_maxb (w : World) : Calls Tryd.prog 42 #[.int .u64 4294967295] w fun e w' => e = .returned (.int .i64 32) ∧ w = w' :=
  (len64_b 4294967295 (by decide) (by decide) w).mono fun _ _ ⟨he, hw⟩ => ⟨by rw [he, blb]; rfl, hw⟩
set_option maxHeartbeats 4000000 in
set_option maxRecDepth 100000 in
theorem len64_c (x : Int) (h1 : 72057594037927936 ≤ x) (h2 : x ≤ 18446744073709551615) (w : World) :
   Calls Tryd.prog 42 #[.int .u64 x] w fun e w' => e = .returned (.int .i64 (Lib.bitLen x.toNat)) ∧ w = w' := by
  have ts := tabsize
  go_enter Tryd.func42, Tryd.ntmps42
  go_wp2
  go_ret
  refine ⟨congrArg Ending.returned (congrArg (Value.int IntKind.i64) ?_), rfl⟩
  have e : (x / 4294967296 / 65536 / 256).toNat = x.toNat / 72057594037927936 := by omega
  have s := Lib.bitLen_shift56 x.toNat (by omega) (by omega)
  refine (tab_wrap _ (x / 4294967296 / 65536 / 256) (by omega) (by omega) _ (by omega) (by omega)).trans ?_
  rw [e, s]
  omega
theorem blc : Lib.bitLen (18446744073709551615 : Int).toNat = 64 := by decide
theorem len64_maxc (w : World) : Calls Tryd.prog 42 #[.int .u64 18446744073709551615] w fun e w' => e = .returned (.int .i64 64) ∧ w = w' :=
  (len64_c 18446744073709551615 (by decide) (by decide) w).mono fun _ _ ⟨he, hw⟩ => ⟨by rw [he, blc]; rfl, hw⟩
theorem whole_eq (x y : Int) (h0 : 0 ≤ x) (h1 : x < 4294967296) (h2 : 0 ≤ y) (h3 : y < 4294967296) :
    bits BinOp.or IntKind.u64 (IntKind.u64.wrap (IntKind.u64.wrap y * 4294967296)) (IntKind.u64.wrap x) = x + y * 4294967296 := by
  have e1 : IntKind.u64.wrap y = y := by rw [IntKind.wrap_u64]; omega
  have e2 : IntKind.u64.wrap x = x := by rw [IntKind.wrap_u64]; omega
  have e3 : IntKind.u64.wrap (y * 4294967296) = y * 4294967296 := by rw [IntKind.wrap_u64]; omega
  rw [e1, e2, e3, u64_or _ _ (by omega) (by omega) (by omega) (by omega)]
  have e4 : (y * 4294967296).toNat = 2 ^ 32 * y.toNat := by omega
  rw [e4, ← Nat.two_pow_add_eq_or_of_lt (by omega)]
  omega
end Go.Proofs.YtijnkhenplmghaaDoor
namespace Go.Proofs.YtijnkhenplmghaaDoor
open Go.RowKit

/-- The slice's address p leads, below block B, to the bytes xs. -/
def Rd (w : World) (B : Nat) (p : Option Addr) (xs : List Int) : Prop :=
  0 < xs.length → ∃ b o, p = some ⟨b, o, none⟩ ∧ b < B ∧ ∀ i, i < xs.length → w.cell? ⟨b, o + i, none⟩ = some (.int .u8 (xs.getD i 0))
theorem Rd.nil (w : World) (B : Nat) (p : Option Addr) : Rd w B p [] := fun h => absurd h (by simp)
theorem Rd.keep {w w' : World} {B : Nat} {p : Option Addr} {xs : List Int} (h : Rd w B p xs) (hk : ∀ q : Addr, q.block < B → w'.cell? q = w.cell? q) : Rd w' B p xs := fun hn => by
  obtain ⟨b, o, e, hb, hc⟩ := h hn
  exact ⟨b, o, e, hb, fun i hi => (hk _ hb).trans (hc i hi)⟩
theorem Rd.more {w : World} {B B' : Nat} {p : Option Addr} {xs : List Int} (h : Rd w B p xs) (hB : B ≤ B') : Rd w B' p xs := fun hn => by
  obtain ⟨b, o, e, hb, hc⟩ := h hn
  exact ⟨b, o, e, by omega, hc⟩
theorem Rd.below {w w' : World} {B B' : Nat} {p : Option Addr} {xs : List Int} (h : Rd w B p xs) (hb : Below B' w w') (hB : B ≤ B') : Rd w' B p xs := h.keep fun _ hq => hb.cell (by omega)
theorem Rd.drewN {w : World} {B : Nat} {p : Option Addr} {xs : List Int} (h : Rd w B p xs) (n : Nat) : Rd (w.drewN n) B p xs := h
theorem Rd.alloc {w : World} {B : Nat} {p : Option Addr} {xs : List Int} (h : Rd w B p xs) (hB : B ≤ w.heap.size) (o : Obj) : Rd (w.alloc o) B p xs := h.keep fun q hq => World.cell?_alloc_lt w o q (by omega)
theorem Rd.setCell {w : World} {B : Nat} {p : Option Addr} {xs : List Int} (h : Rd w B p xs) {q : Addr} (hB : B ≤ q.block) (u : Value) : Rd (w.setCell q u) B p xs :=
  h.keep fun r hr => World.cell?_setCell_other w q r u (fun e => by subst e; omega)
theorem Rd.grown {w w' : World} {B : Nat} {p : Option Addr} {xs : List Int} (h : Rd w B p xs) {row : Option Nat} (hg : w.grownBy w' row) (hB : B ≤ w.heap.size) (hr : ∀ g, row = some g → B ≤ g) : Rd w' B p xs :=
  h.keep fun q hq => World.cell?_of_block (hg.block q.block (by omega) (fun e => by have := hr _ e.symm; omega))
/-- A cut of the slice from k to m reads as those bytes. -/
theorem Rd.cut {w : World} {B : Nat} {b o : Nat} {xs : List Int} (h : Rd w B (some ⟨b, o, none⟩) xs) (k m : Nat) : Rd w B (some ⟨b, o + k, none⟩) ((xs.drop k).take m) := fun hn => by
  have hl : ((xs.drop k).take m).length ≤ xs.length - k := by rw [List.length_take, List.length_drop]; omega
  obtain ⟨b', o', e, hb, hc⟩ := h (by omega)
  injection e with e; injection e with e1 e2 _
  subst e1 e2
  refine ⟨b, o + k, rfl, hb, fun i hi => ?_⟩
  rw [Nat.add_assoc, hc (k + i) (by omega)]
  have : i < m := by rw [List.length_take] at hi; omega
  simp only [List.getD_eq_getElem?_getD, List.getElem?_take, List.getElem?_drop, if_pos this]
theorem Rd.drop {w : World} {B : Nat} {b o : Nat} {xs : List Int} (h : Rd w B (some ⟨b, o, none⟩) xs) (k : Nat) : Rd w B (some ⟨b, o + k, none⟩) (xs.drop k) := by
  have := h.cut k (xs.length - k)
  rwa [List.take_of_length_le (by rw [List.length_drop]; exact Nat.le_refl _)] at this
theorem Rd.take {w : World} {B : Nat} {p : Option Addr} {xs : List Int} (h : Rd w B p xs) (m : Nat) : Rd w B p (xs.take m) := fun hn => by
  have hl : (xs.take m).length ≤ xs.length := by rw [List.length_take]; omega
  obtain ⟨b, o, e, hb, hc⟩ := h (by omega)
  refine ⟨b, o, e, hb, fun i hi => ?_⟩
  rw [hc i (by omega)]
  have : i < m := by rw [List.length_take] at hi; omega
  simp only [List.getD_eq_getElem?_getD, List.getElem?_take, if_pos this]
/-- What the call owns reads as its bytes. -/
theorem Rd.of_own {w : World} {base g c n : Nat} {e : TypeId} {xs : List Int} (h : w.ownsRow base e 1 (.slice (some ⟨g, 0, none⟩) n c) n (xs.map (Value.int .u8))) : Rd w w.heap.size (some ⟨g, 0, none⟩) xs := fun _ => by
  have hn : xs.length = n := by have := h.1; simpa using this
  refine ⟨g, 0, rfl, (h.lt g rfl).2, fun i hi => ?_⟩
  rw [Nat.zero_add, h.cellAt i (by omega)]
  simp [List.getD_eq_getElem?_getD, hi]

/-- Are there k bytes from the place on? -/
def getB (k : Nat) (xs : List Int) (at_ : Int) : Bool := decide (0 ≤ at_ ∧ at_ + k ≤ xs.length)
/-- The number of the k bytes from the place on, or 0. -/
def getV (k : Nat) (xs : List Int) (at_ : Int) : Int := if getB k xs at_ then leV ((xs.drop at_.toNat).take k) else 0
theorem getB_true {k : Nat} {xs : List Int} {at_ : Int} (h : 0 ≤ at_) (h1 : at_ + k ≤ xs.length) : getB k xs at_ = true := decide_eq_true ⟨h, h1⟩
theorem getB_false {k : Nat} {xs : List Int} {at_ : Int} (h : at_ < 0 ∨ xs.length < at_ + k) : getB k xs at_ = false := decide_eq_false (by omega)
theorem getV_true {k : Nat} {xs : List Int} {a : Nat} (h1 : a + k ≤ xs.length) : getV k xs a = leV ((xs.drop a).take k) := by
  unfold getV; rw [if_pos (getB_true (by omega) (by omega))]; simp
theorem getV_false {k : Nat} {xs : List Int} {at_ : Int} (h : at_ < 0 ∨ xs.length < at_ + k) : getV k xs at_ = 0 := by
  unfold getV; rw [getB_false h]; rfl
theorem getV_range {k : Nat} {xs : List Int} (h : Byt xs) (at_ : Int) : 0 ≤ getV k xs at_ ∧ getV k xs at_ < 256 ^ k := by
  unfold getV
  split
  · rename_i hb
    have hb := of_decide_eq_true hb
    have hl : ((xs.drop at_.toNat).take k).length = k := by rw [List.length_take, List.length_drop]; omega
    have h1 := ((h.drop at_.toNat).take k)
    have h2 := leV_lt h1
    rw [hl] at h2
    exact ⟨leV_nonneg h1, h2⟩
  · exact ⟨Int.le_refl _, pow_pos' k⟩
/-- One byte more. -/
theorem take_snoc {xs : List Int} {a k : Nat} (h : a + k < xs.length) : (xs.drop a).take (k + 1) = (xs.drop a).take k ++ [xs[a + k]?.getD 0] := by
  rw [List.take_add_one, List.getElem?_drop, List.getElem?_eq_getElem h]; simp
theorem take_cons {xs : List Int} {a k : Nat} (h : a < xs.length) : (xs.drop a).take (k + 1) = xs[a]?.getD 0 :: (xs.drop (a + 1)).take k := by
  rw [List.drop_eq_getElem_cons h, List.take_succ_cons, List.getElem?_eq_getElem h]; rfl

theorem get16_step {xs : List Int} {a k : Nat} (hB : Byt xs) (hk : k < 2) (h : a + k < xs.length) :
    bits BinOp.or IntKind.u16 (leV ((xs.drop a).take k)) (IntKind.u16.wrap (IntKind.u16.wrap (xs[a + k]?.getD 0) * 2 ^ (8 * k))) = leV ((xs.drop a).take (k + 1)) := by
  have hl : ((xs.drop a).take k).length = k := by rw [List.length_take, List.length_drop]; omega
  have h1 := ((hB.drop a).take k)
  have h2 := leV_lt h1
  have h3 := hB.get? (a + k)
  rw [hl] at h2
  rw [or_step16 _ _ k hk (leV_nonneg h1) h2 h3.1 h3.2, take_snoc h, leV_snoc, hl]
theorem get32_step {xs : List Int} {a k : Nat} (hB : Byt xs) (hk : k < 4) (h : a + k < xs.length) :
    bits BinOp.or IntKind.u32 (leV ((xs.drop a).take k)) (IntKind.u32.wrap (IntKind.u32.wrap (xs[a + k]?.getD 0) * 2 ^ (8 * k))) = leV ((xs.drop a).take (k + 1)) := by
  have hl : ((xs.drop a).take k).length = k := by rw [List.length_take, List.length_drop]; omega
  have h1 := ((hB.drop a).take k)
  have h2 := leV_lt h1
  have h3 := hB.get? (a + k)
  rw [hl] at h2
  rw [or_step32 _ _ k hk (leV_nonneg h1) h2 h3.1 h3.2, take_snoc h, leV_snoc, hl]
theorem get64_step {xs : List Int} {a k : Nat} (hB : Byt xs) (hk : k < 8) (h : a + k < xs.length) :
    bits BinOp.or IntKind.u64 (leV ((xs.drop a).take k)) (IntKind.u64.wrap (IntKind.u64.wrap (xs[a + k]?.getD 0) * 2 ^ (8 * k))) = leV ((xs.drop a).take (k + 1)) := by
  have hl : ((xs.drop a).take k).length = k := by rw [List.length_take, List.length_drop]; omega
  have h1 := ((hB.drop a).take k)
  have h2 := leV_lt h1
  have h3 := hB.get? (a + k)
  rw [hl] at h2
  rw [or_step64 _ _ k hk (leV_nonneg h1) h2 h3.1 h3.2, take_snoc h, leV_snoc, hl]
end Go.Proofs.YtijnkhenplmghaaDoor
namespace Go.Proofs.YtijnkhenplmghaaDoor
open Go.RowKit
set_option linter.unusedVariables false

/-- The bytes as values. -/
def bv (l : List Int) : List Value := l.map (Value.int .u8)
theorem bv_length (l : List Int) : (bv l).length = l.length := List.length_map ..
theorem bv_get {l : List Int} {i : Nat} (h : i < l.length) : (bv l)[i]? = some (.int .u8 (l.getD i 0)) := by
  simp [bv, List.getD_eq_getElem?_getD, h]
theorem bv_set (l : List Int) (i : Nat) (x : Int) : (bv l).set i (.int .u8 x) = bv (l.set i x) := by simp [bv, List.map_set]
/-- The first k bytes of x are laid, the others are 0. -/
def laidL (n k : Nat) (x : Int) : List Int := putL k x ++ List.replicate (n - k) 0
theorem laidL_length {n k : Nat} (x : Int) (h : k ≤ n) : (laidL n k x).length = n := by simp [laidL, putL_length]; omega
theorem laidL_all (n : Nat) (x : Int) : laidL n n x = putL n x := by simp [laidL]
theorem laidL_none (n : Nat) (x : Int) : laidL n 0 x = List.replicate n 0 := by simp [laidL, putL]
theorem laidL_set {n k : Nat} (x : Int) (h : k < n) : (laidL n k x).set k (x / 256 ^ k % 256) = laidL n (k + 1) x := by
  unfold laidL
  rw [putL_snoc, List.set_append_right _ _ (by rw [putL_length]; exact Nat.le_refl _), putL_length, Nat.sub_self]
  have e : n - k = n - (k + 1) + 1 := by omega
  rw [e, List.replicate_succ, List.set_cons_zero, List.append_assoc]; rfl
theorem laidL_step {w w1 : World} {base g n c k : Nat} {e : TypeId} {x y : Int} (hk : k < n) (hy : y = x / 256 ^ k % 256)
    (h : w.ownsRow base e 1 (.slice (some ⟨g, 0, none⟩) n c) n (bv (laidL n k x))) (hw : w1 = w.setCell ⟨g, k, none⟩ (.int .u8 y)) :
    w1.ownsRow base e 1 (.slice (some ⟨g, 0, none⟩) n c) n (bv (laidL n (k + 1) x)) := by
  subst hy hw
  have := (h.stored k (.int .u8 (x / 256 ^ k % 256))).1
  rwa [bv_set, laidL_set x hk] at this
theorem laidL_cell {w : World} {base g n c k : Nat} {e : TypeId} {x : Int} (hk : k < n)
    (h : w.ownsRow base e 1 (.slice (some ⟨g, 0, none⟩) n c) n (bv (laidL n k x))) : ∃ v, w.cell? ⟨g, k, none⟩ = some (.int .u8 v) := by
  rw [h.cellAt k (by omega)]
  exact ⟨_, bv_get (by rw [laidL_length x (by omega)]; exact hk)⟩
theorem shr_step (x : Int) (k : Nat) : x / 2 ^ (8 * k) % 256 = x / 256 ^ k % 256 := by rw [pow_byte]
theorem ret_slice {g g' n : Nat} (h : g = g') : Ending.returned (.slice (some ⟨g, 0, none⟩) n n) = .returned (.slice (some ⟨g', 0, none⟩) n n) := by rw [h]
theorem u8_zero : (Tryd.prog.info? 5).map (fun i => (i.zero, i.size, i.bytes)) = some (some (.int .u8 0), 1, 1) := by kernel_rfl
/-- n bytes in new memory. -/
theorem own_new (w : World) (n : Nat) (hn : n ≤ 100) (x : Int) (cs : Array Value) (hcs : cs.toList = bv (List.replicate n 0)) :
    (w.alloc (.cells cs 5)).ownsRow w.heap.size 5 1 (.slice (some ⟨w.heap.size, 0, none⟩) n n) n (bv (laidL n 0 x)) := by
  have hs : cs.size = n * 1 := by rw [← Array.length_toList, hcs, bv_length]; simp
  have := World.ownsRow_lit (base := w.heap.size) (e := 5) (size := 1) w cs n (Nat.le_refl _) (by unfold maxLen; omega) hs
  rwa [hcs, ← laidL_none n x] at this

theorem refPut_div (x : Int) (k : Nat) (h : 0 ≤ x) : x / 256 ^ k / 256 = x / 256 ^ (k + 1) := by
  rw [Int.pow_succ, Int.ediv_ediv_of_nonneg (Int.le_of_lt (pow_pos' k))]
theorem refGet2_step {xs : List Int} {a j d : Nat} (hB : Byt xs) (hd : d + (j + 1) = 2) (h : a + 2 ≤ xs.length) :
    IntKind.u64.wrap (IntKind.u64.wrap (leV ((xs.drop (a + (j + 1))).take d) * 256) + IntKind.u64.wrap (xs[a + j]?.getD 0)) = leV ((xs.drop (a + j)).take (2 - j)) := by
  have hl : ((xs.drop (a + (j + 1))).take d).length = d := by rw [List.length_take, List.length_drop]; omega
  have h1 := ((hB.drop (a + (j + 1))).take d)
  have h2 := leV_lt h1
  have h2' := leV_nonneg h1
  have h3 := hB.get? (a + j)
  have e : 2 - j = d + 1 := by omega
  have hh : (256 : Int) ^ ((xs.drop (a + (j + 1))).take d).length ≤ 72057594037927936 := by
    rw [hl]
    have hn : (256 : Nat) ^ d ≤ 256 ^ 7 := Nat.pow_le_pow_right (by decide) (by omega)
    have e2 : ((256 ^ d : Nat) : Int) = 256 ^ d := by rw [Int.natCast_pow]; rfl
    have h3 : (256 : Nat) ^ 7 = 72057594037927936 := rfl
    omega
  rw [e, take_cons (by omega)]
  simp only [leV, IntKind.wrap_u64, Nat.add_assoc]
  omega
theorem refGet4_step {xs : List Int} {a j d : Nat} (hB : Byt xs) (hd : d + (j + 1) = 4) (h : a + 4 ≤ xs.length) :
    IntKind.u64.wrap (IntKind.u64.wrap (leV ((xs.drop (a + (j + 1))).take d) * 256) + IntKind.u64.wrap (xs[a + j]?.getD 0)) = leV ((xs.drop (a + j)).take (4 - j)) := by
  have hl : ((xs.drop (a + (j + 1))).take d).length = d := by rw [List.length_take, List.length_drop]; omega
  have h1 := ((hB.drop (a + (j + 1))).take d)
  have h2 := leV_lt h1
  have h2' := leV_nonneg h1
  have h3 := hB.get? (a + j)
  have e : 4 - j = d + 1 := by omega
  have hh : (256 : Int) ^ ((xs.drop (a + (j + 1))).take d).length ≤ 72057594037927936 := by
    rw [hl]
    have hn : (256 : Nat) ^ d ≤ 256 ^ 7 := Nat.pow_le_pow_right (by decide) (by omega)
    have e2 : ((256 ^ d : Nat) : Int) = 256 ^ d := by rw [Int.natCast_pow]; rfl
    have h3 : (256 : Nat) ^ 7 = 72057594037927936 := rfl
    omega
  rw [e, take_cons (by omega)]
  simp only [leV, IntKind.wrap_u64, Nat.add_assoc]
  omega
theorem refGet8_step {xs : List Int} {a j d : Nat} (hB : Byt xs) (hd : d + (j + 1) = 8) (h : a + 8 ≤ xs.length) :
    IntKind.u64.wrap (IntKind.u64.wrap (leV ((xs.drop (a + (j + 1))).take d) * 256) + IntKind.u64.wrap (xs[a + j]?.getD 0)) = leV ((xs.drop (a + j)).take (8 - j)) := by
  have hl : ((xs.drop (a + (j + 1))).take d).length = d := by rw [List.length_take, List.length_drop]; omega
  have h1 := ((hB.drop (a + (j + 1))).take d)
  have h2 := leV_lt h1
  have h2' := leV_nonneg h1
  have h3 := hB.get? (a + j)
  have e : 8 - j = d + 1 := by omega
  have hh : (256 : Int) ^ ((xs.drop (a + (j + 1))).take d).length ≤ 72057594037927936 := by
    rw [hl]
    have hn : (256 : Nat) ^ d ≤ 256 ^ 7 := Nat.pow_le_pow_right (by decide) (by omega)
    have e2 : ((256 ^ d : Nat) : Int) = 256 ^ d := by rw [Int.natCast_pow]; rfl
    have h3 : (256 : Nat) ^ 7 = 72057594037927936 := rfl
    omega
  rw [e, take_cons (by omega)]
  simp only [leV, IntKind.wrap_u64, Nat.add_assoc]
  omega
end Go.Proofs.YtijnkhenplmghaaDoor
