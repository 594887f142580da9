/- What the document's own Cat and the function Cat of the package words return, of slices that read as lists of bytes. Condition: the lengths together are at most 2 to the 46th. -/
import Derived.Test.YtekmbhjdacaphaaWd
namespace Go.Proofs.Ytekmbhjdacaphaa
open Go.RowKit
set_option linter.unusedVariables false

set_option maxHeartbeats 400000 in
theorem refCat_none (p q : Option Addr) (n c d : Nat) (xs : List Int) (w : World) (hx : xs.length = n) (hm : n ≤ 70368744177664) (h : Rd w w.heap.size p xs) :
    Calls Try.prog 23 #[.slice p n c, .slice q 0 d] w fun e w' => ∃ g, e = .returned (.slice (some ⟨g, 0, none⟩) n n) ∧
      w'.ownsRow w.heap.size 5 1 (.slice (some ⟨g, 0, none⟩) n n) n (bv xs) ∧ Below w.heap.size w w' := by
  obtain ⟨i0, hi, hz0, hz1, hz2⟩ := info_parts u8_zero
  have hm0 : i0.bytes * n ≤ 281474976710656 := by rw [hz2]; omega
  have hm1 : n ≤ maxLen := by unfold maxLen; omega
  have hm2 : (n : Int) ≤ 70368744177664 := by omega
  have HX := Lib.hid (show (bv xs).length = n by rw [bv_length, hx])
  have hn1 := Lib.hid (show (bv xs).length = Nat.min n n by rw [bv_length, hx]; exact (Nat.min_eq_left (by omega)).symm)
  have HZ := Lib.hid hi
  have H0 := Lib.hid hz0
  have H1 := Lib.hid hz1
  have HS := Lib.hid (show (n : Int) = (n : Nat) by omega)
  clear hx hi hz0 hz1 hz2
  go_enter Try.func23, Try.ntmps23
  go_wp2_with (first
    | (at_make
       refine wpList_make_full _ rfl _ _ 24 rfl w.heap.size 5 i0 _ 1 Try.underlying24 HZ.out H0.out H1.out .i64 .i64 ((n : Int)) ((n : Int)) n rfl rfl HS.out HS.out hm0 hm1 (Nat.le_refl _) ?_
       intro w1 hown hg
       have hb : Below w.heap.size w w1 := (Below.refl _ _).grown hg (Nat.le_refl _) (by intro k hk; cases hk)
       have hr := Lib.hid (h.grown hg (Nat.le_refl _) (by intro k hk; cases hk))
       have hl := Lib.hid hown.1
       have hh := Lib.hid (own_heap hown)
       clear hown hg)
    | ((with_reducible show wpList _ _ _ (⟨some 14, _, _, _, _, _⟩ :: _) _ _)
       refine wpList_copy_splice (o := ⟨some 14, _, _, _, _, _⟩) rfl (.tmp 12) (.tmp 13) 24 24 rfl 5 Try.underlying24 u8_size _ _ _ _ _ _ rfl rfl w.heap.size 0 _ 5 hh.out (bv xs) hn1.out (fun h0 => ⟨rfl, hr.out.news h0⟩) (by have h1 := hl.out; have h2 := HX.out; omega) (bv_one xs) w.heap.size w hb (Nat.le_refl _) ?_
       intro w2 hg2 hb2
       have hl2 := Lib.hid (length_splice (madeCells (Value.int IntKind.u8 0).cells (n * 1)).toList 0 (bv xs) (by have h1 := hl.out; have h2 := HX.out; omega)))
    | ((with_reducible show wpList _ _ _ (⟨some 20, _, _, _, _, _⟩ :: _) _ _)
       refine wpList_copy_nothing (o := ⟨some 20, _, _, _, _, _⟩) rfl (.tmp 18) (.tmp 19) 24 24 rfl 5 Try.underlying24 u8_size _ _ _ _ _ _ rfl rfl rfl ?_))
  go_ret
  refine ⟨_, rfl, ?_, hb2⟩
  have h2 := hg2.out
  rw [splice_all (by have h1 := hl.out; have h2 := HX.out; omega)] at h2
  exact own_of_heap h2 HX.out (Nat.le_refl _) hm1
set_option maxHeartbeats 400000 in
theorem refCat_some (p q : Option Addr) (n c m d : Nat) (xs ys : List Int) (w : World) (hx : xs.length = n) (hy : ys.length = m) (hp : m ≠ 0) (hm : n + m ≤ 70368744177664) (h : Rd w w.heap.size p xs) (k : Rd w w.heap.size q ys) :
    Calls Try.prog 23 #[.slice p n c, .slice q m d] w fun e w' => ∃ g, e = .returned (.slice (some ⟨g, 0, none⟩) (n + m) (n + m)) ∧
      w'.ownsRow w.heap.size 5 1 (.slice (some ⟨g, 0, none⟩) (n + m) (n + m)) (n + m) (bv xs ++ bv ys) ∧ Below w.heap.size w w' := by
  obtain ⟨i0, hi, hz0, hz1, hz2⟩ := info_parts u8_zero
  have hm0 : i0.bytes * (n + m) ≤ 281474976710656 := by rw [hz2]; omega
  have hm1 : (n + m) ≤ maxLen := by unfold maxLen; omega
  have hm2 : (n : Int) + (m : Int) ≤ 70368744177664 := by omega
  have HX := Lib.hid (show (bv xs).length = n by rw [bv_length, hx])
  have hn1 := Lib.hid (show (bv xs).length = Nat.min n (n + m) by rw [bv_length, hx]; exact (Nat.min_eq_left (by omega)).symm)
  have HY := Lib.hid (show (bv ys).length = m by rw [bv_length, hy])
  have hn2 := Lib.hid (show (bv ys).length = Nat.min m m by rw [bv_length, hy]; exact (Nat.min_self m).symm)
  have HZ := Lib.hid hi
  have H0 := Lib.hid hz0
  have H1 := Lib.hid hz1
  have HS := Lib.hid (show (n : Int) + (m : Int) = ((n + m) : Nat) by omega)
  clear hx hy hi hz0 hz1 hz2
  go_enter Try.func23, Try.ntmps23
  go_wp2_with (first
    | (at_make
       refine wpList_make_full _ rfl _ _ 24 rfl w.heap.size 5 i0 _ 1 Try.underlying24 HZ.out H0.out H1.out .i64 .i64 ((n : Int) + (m : Int)) ((n : Int) + (m : Int)) (n + m) rfl rfl HS.out HS.out hm0 hm1 (Nat.le_refl _) ?_
       intro w1 hown hg
       have hb : Below w.heap.size w w1 := (Below.refl _ _).grown hg (Nat.le_refl _) (by intro k hk; cases hk)
       have hr := Lib.hid (h.grown hg (Nat.le_refl _) (by intro k hk; cases hk))
       have hl := Lib.hid hown.1
       have hh := Lib.hid (own_heap hown)
       clear hown hg)
    | ((with_reducible show wpList _ _ _ (⟨some 14, _, _, _, _, _⟩ :: _) _ _)
       refine wpList_copy_splice (o := ⟨some 14, _, _, _, _, _⟩) rfl (.tmp 12) (.tmp 13) 24 24 rfl 5 Try.underlying24 u8_size _ _ _ _ _ _ rfl rfl w.heap.size 0 _ 5 hh.out (bv xs) hn1.out (fun h0 => ⟨rfl, hr.out.news h0⟩) (by have h1 := hl.out; have h2 := HX.out; omega) (bv_one xs) w.heap.size w hb (Nat.le_refl _) ?_
       intro w2 hg2 hb2
       have hr2 := Lib.hid (k.below hb2 (Nat.le_refl _))
       have hl2 := Lib.hid (length_splice (madeCells (Value.int IntKind.u8 0).cells ((n + m) * 1)).toList 0 (bv xs) (by have h1 := hl.out; have h2 := HX.out; omega)))
    | ((with_reducible show wpList _ _ _ (⟨some 20, _, _, _, _, _⟩ :: _) _ _)
       refine wpList_copy_splice (o := ⟨some 20, _, _, _, _, _⟩) rfl (.tmp 18) (.tmp 19) 24 24 rfl 5 Try.underlying24 u8_size _ _ _ _ _ _ rfl rfl w.heap.size n _ 5 hg2.out (bv ys) hn2.out (fun h0 => ⟨rfl, hr2.out.news h0⟩) (by have h1 := hl.out; have h2 := HY.out; have h3 := hl2.out; omega) (bv_one ys) w.heap.size w hb2 (Nat.le_refl _) ?_
       intro w3 hg3 hb3))
  go_ret
  refine ⟨_, rfl, ?_, hb3⟩
  have h2 := hg3.out
  have e1 := HX.out
  have e2 := HY.out
  rw [splice_two (by have h1 := hl.out; omega) e1] at h2
  exact own_of_heap h2 (by rw [List.length_append, e1, e2]) (Nat.le_refl _) hm1
theorem refCat_any (p q : Option Addr) (n c m d : Nat) (xs ys : List Int) (w : World) (hx : xs.length = n) (hy : ys.length = m) (hm : n + m ≤ 70368744177664) (h : Rd w w.heap.size p xs) (k : Rd w w.heap.size q ys) :
    Calls Try.prog 23 #[.slice p n c, .slice q m d] w fun e w' => ∃ g, e = .returned (.slice (some ⟨g, 0, none⟩) (n + m) (n + m)) ∧
      w'.ownsRow w.heap.size 5 1 (.slice (some ⟨g, 0, none⟩) (n + m) (n + m)) (n + m) (bv (xs ++ ys)) ∧ Below w.heap.size w w' := by
  have e : bv (xs ++ ys) = bv xs ++ bv ys := List.map_append ..
  rw [e]
  rcases Nat.eq_zero_or_pos m with rfl | hp
  · obtain rfl : ys = [] := List.eq_nil_of_length_eq_zero hy
    have := refCat_none p q n c d xs w hx (by omega) h
    simpa [bv] using this
  · exact refCat_some p q n c m d xs ys w hx hy (by omega) hm h k

/-- The slice of slices leads, below block B, to slices that read as the lists. -/
def RdL (w : World) (B : Nat) (p : Option Addr) (xss : List (List Int)) : Prop :=
  0 < xss.length → ∃ b o, p = some ⟨b, o, none⟩ ∧ b < B ∧ ∀ i, i < xss.length → ∃ q c, w.cell? ⟨b, o + i, none⟩ = some (.slice q (xss.getD i []).length c) ∧ Rd w B q (xss.getD i []) ∧ (q = none → c = 0)
theorem RdL.keep {w w' : World} {B : Nat} {p : Option Addr} {xss : List (List Int)} (h : RdL w B p xss) (hk : ∀ q : Addr, q.block < B → w'.cell? q = w.cell? q) : RdL w' B p xss := fun hn => by
  obtain ⟨b, o, e, hb, hc⟩ := h hn
  refine ⟨b, o, e, hb, fun i hi => ?_⟩
  obtain ⟨q, c, h1, h2, h3⟩ := hc i hi
  exact ⟨q, c, (hk _ hb).trans h1, h2.keep hk, h3⟩
theorem RdL.below {w w' : World} {B B' : Nat} {p : Option Addr} {xss : List (List Int)} (h : RdL w B p xss) (hb : Below B' w w') (hB : B ≤ B') : RdL w' B p xss := h.keep fun _ hq => hb.cell (by omega)
theorem RdL.more {w : World} {B B' : Nat} {p : Option Addr} {xss : List (List Int)} (h : RdL w B p xss) (hB : B ≤ B') : RdL w B' p xss := fun hn => by
  obtain ⟨b, o, e, hb, hc⟩ := h hn
  refine ⟨b, o, e, by omega, fun i hi => ?_⟩
  obtain ⟨q, c, h1, h2, h3⟩ := hc i hi
  exact ⟨q, c, h1, h2.more hB, h3⟩
/-- How many bytes the first k lists have together. -/
def lenL (xss : List (List Int)) (k : Nat) : Nat := ((xss.take k).flatten).length
theorem lenL_step {xss : List (List Int)} {k : Nat} (hk : k < xss.length) : lenL xss (k + 1) = lenL xss k + (xss.getD k []).length := by
  unfold lenL
  rw [List.take_add_one, List.getElem?_eq_getElem hk, List.flatten_append, List.length_append, List.getD_eq_getElem?_getD, List.getElem?_eq_getElem hk]
  simp
theorem lenL_le (xss : List (List Int)) (k : Nat) : lenL xss k ≤ xss.flatten.length := by
  unfold lenL
  conv => rhs; rw [← List.take_append_drop k xss, List.flatten_append, List.length_append]
  omega
theorem lenL_all {xss : List (List Int)} {k : Nat} (h : xss.length ≤ k) : lenL xss k = xss.flatten.length := by unfold lenL; rw [List.take_of_length_le h]
theorem flat_step {xss : List (List Int)} {k : Nat} (hk : k < xss.length) : (xss.take (k + 1)).flatten = (xss.take k).flatten ++ xss.getD k [] := by
  rw [List.take_add_one, List.getElem?_eq_getElem hk, List.flatten_append, List.getD_eq_getElem?_getD, List.getElem?_eq_getElem hk]
  simp
end Go.Proofs.Ytekmbhjdacaphaa
