/- What the document's own Line returns: the line of an instruction at a place. Condition: a place of at most 2 to the 40th. -/
import Derived.Test.YtlneiiljdghmjaaDoorAb
import Derived.Test.YtlneiiljdghmjaaDoorAd
namespace Go.Proofs.YtlneiiljdghmjaaDoor
open Go.RowKit
set_option linter.unusedVariables false
attribute [local go_sem ↓] Go.wp_at_zero Go.wp_at_succ

theorem keepL {w v w' v0 : World} {c jt jf k : Int} (hb : Below v.heap.size v w') (h : v.cell? ⟨w.heap.size, 0, none⟩ = some (.int .u16 c) ∧ v.cell? ⟨w.heap.size, 1, none⟩ = some (.int .u8 jt) ∧ v.cell? ⟨w.heap.size, 2, none⟩ = some (.int .u8 jf) ∧ v.cell? ⟨w.heap.size, 3, none⟩ = some (.int .u32 k) ∧ Below v0.heap.size v0 v) : w'.cell? ⟨w.heap.size, 0, none⟩ = some (.int .u16 c) ∧ w'.cell? ⟨w.heap.size, 1, none⟩ = some (.int .u8 jt) ∧ w'.cell? ⟨w.heap.size, 2, none⟩ = some (.int .u8 jf) ∧ w'.cell? ⟨w.heap.size, 3, none⟩ = some (.int .u32 k) ∧ Below v0.heap.size v0 w' :=
  ⟨(hb.cell (World.block_lt_of_cell? v _ h.1)).trans h.1, (hb.cell (World.block_lt_of_cell? v _ h.2.1)).trans h.2.1, (hb.cell (World.block_lt_of_cell? v _ h.2.2.1)).trans h.2.2.1, (hb.cell (World.block_lt_of_cell? v _ h.2.2.2.1)).trans h.2.2.2.1, h.2.2.2.2.trans (hb.mono h.2.2.2.2.size)⟩
theorem startL {w v0 v : World} {c jt jf k : Int} (h : v.cell? ⟨w.heap.size, 0, none⟩ = some (.int .u16 c) ∧ v.cell? ⟨w.heap.size, 1, none⟩ = some (.int .u8 jt) ∧ v.cell? ⟨w.heap.size, 2, none⟩ = some (.int .u8 jf) ∧ v.cell? ⟨w.heap.size, 3, none⟩ = some (.int .u32 k) ∧ Below v0.heap.size v0 v) : v.drew.cell? ⟨w.heap.size, 0, none⟩ = some (.int .u16 c) ∧ v.drew.cell? ⟨w.heap.size, 1, none⟩ = some (.int .u8 jt) ∧ v.drew.cell? ⟨w.heap.size, 2, none⟩ = some (.int .u8 jf) ∧ v.drew.cell? ⟨w.heap.size, 3, none⟩ = some (.int .u32 k) ∧ Below v.heap.size v v.drew := ⟨h.1, h.2.1, h.2.2.1, h.2.2.2.1, (Below.refl _ _).drew⟩
theorem firstL (w : World) (c jt jf k : Int) : (w.alloc (.cells #[.int .u16 c, .int .u8 jt, .int .u8 jf, .int .u32 k] 33)).cell? ⟨w.heap.size, 0, none⟩ = some (.int .u16 c) ∧ (w.alloc (.cells #[.int .u16 c, .int .u8 jt, .int .u8 jf, .int .u32 k] 33)).cell? ⟨w.heap.size, 1, none⟩ = some (.int .u8 jt) ∧ (w.alloc (.cells #[.int .u16 c, .int .u8 jt, .int .u8 jf, .int .u32 k] 33)).cell? ⟨w.heap.size, 2, none⟩ = some (.int .u8 jf) ∧ (w.alloc (.cells #[.int .u16 c, .int .u8 jt, .int .u8 jf, .int .u32 k] 33)).cell? ⟨w.heap.size, 3, none⟩ = some (.int .u32 k) ∧ Below (w.alloc (.cells #[.int .u16 c, .int .u8 jt, .int .u8 jf, .int .u32 k] 33)).heap.size (w.alloc (.cells #[.int .u16 c, .int .u8 jt, .int .u8 jf, .int .u32 k] 33)) (w.alloc (.cells #[.int .u16 c, .int .u8 jt, .int .u8 jf, .int .u32 k] 33)) := by
  have hx := Below.refl (w.alloc (.cells #[.int .u16 c, .int .u8 jt, .int .u8 jf, .int .u32 k] 33)).heap.size (w.alloc (.cells #[.int .u16 c, .int .u8 jt, .int .u8 jf, .int .u32 k] 33))
  exact ⟨box_cells hx 0 _ rfl, box_cells hx 1 _ rfl, box_cells hx 2 _ rfl, box_cells hx 3 _ rfl, hx⟩
set_option maxRecDepth 100000 in
set_option maxHeartbeats 8000000 in
theorem line_0 (c jt jf k at_ : Int) (w : World) (xc xk : Int) (xn  : ByteArray) (a0 : 0 ≤ at_) (a1 : at_ ≤ 1099511627776) (t0 : 0 ≤ jt) (t1 : jt < 256) (f0 : 0 ≤ jf) (f1 : jf < 256) (k0 : 0 ≤ k) (k1 : k < 4294967296) (hx : (xn.size : Int) ≤ 6) 
    (HP : ∀ W, Calls Tryd.prog 27 #[.agg #[.int .u16 c, .int .u8 jt, .int .u8 jf, .int .u32 k]] W fun e w' => e = .returned (.bool true) ∧ Below W.heap.size W w') (HO : ∀ W, Calls Tryd.prog 33 #[.int .u16 c] W fun e w' => e = .returned (.agg #[.int .u16 xc, .string xn, .int .u8 xk]) ∧ Below W.heap.size W w')
    (HS : ∀ W, Calls Tryd.prog 26 #[.int .u16 c] W fun e w' => e = .returned (.int .i64 0) ∧ Below W.heap.size W w') :
    Calls Tryd.prog 16 #[.agg #[.int .u16 c, .int .u8 jt, .int .u8 jf, .int .u32 k], .int .i64 at_] w fun e w' => e = .returned (.string (xn)) ∧ Below w.heap.size w w' := by
  have HP := Lib.hid HP
  have HO := Lib.hid HO
  have HS := Lib.hid HS
  have hf := one_field1
  have HB := Lib.hid (firstL w c jt jf k)
  go_enter Tryd.func16, Tryd.ntmps16
  go_wp2_with (first
    | (go_at_call 27; ((with_reducible refine (HP.out _).mono ?_); rintro e w1 ⟨rfl, b1⟩); have Q1 := Lib.hid (keepL b1 HB.out); obtain ⟨p0, p1, p2, p3, _⟩ := Q1.out)
    | (go_at_call 33; ((with_reducible refine (HO.out _).mono ?_); rintro e w2 ⟨rfl, b2⟩); have Q2 := Lib.hid (keepL b2 Q1.out); obtain ⟨q0, q1, q2, q3, _⟩ := Q2.out)
    | (go_at_call 26; ((with_reducible refine (HS.out _).mono ?_); rintro e w3 ⟨rfl, b3⟩); have Q3 := Lib.hid (keepL b3 Q2.out); obtain ⟨r0, r1, r2, r3, _⟩ := Q3.out))
  go_ret
  exact ⟨rfl, ((Below.refl _ _).alloc (Nat.le_refl _) _).trans (Q3.out.2.2.2.2.mono (by simp))⟩

set_option maxRecDepth 100000 in
set_option maxHeartbeats 8000000 in
theorem line_1 (c jt jf k at_ : Int) (w : World) (xc xk : Int) (xn dk : ByteArray) (a0 : 0 ≤ at_) (a1 : at_ ≤ 1099511627776) (t0 : 0 ≤ jt) (t1 : jt < 256) (f0 : 0 ≤ jf) (f1 : jf < 256) (k0 : 0 ≤ k) (k1 : k < 4294967296) (hx : (xn.size : Int) ≤ 6) (hddk : (dk.size : Int) ≤ 19) (HDdk : ∀ W, Calls Tryd.prog 29 #[.int .i64 (k)] W fun e w' => e = .returned (.string dk) ∧ Below W.heap.size W w')
    (HP : ∀ W, Calls Tryd.prog 27 #[.agg #[.int .u16 c, .int .u8 jt, .int .u8 jf, .int .u32 k]] W fun e w' => e = .returned (.bool true) ∧ Below W.heap.size W w') (HO : ∀ W, Calls Tryd.prog 33 #[.int .u16 c] W fun e w' => e = .returned (.agg #[.int .u16 xc, .string xn, .int .u8 xk]) ∧ Below W.heap.size W w')
    (HS : ∀ W, Calls Tryd.prog 26 #[.int .u16 c] W fun e w' => e = .returned (.int .i64 1) ∧ Below W.heap.size W w') :
    Calls Tryd.prog 16 #[.agg #[.int .u16 c, .int .u8 jt, .int .u8 jf, .int .u32 k], .int .i64 at_] w fun e w' => e = .returned (.string (xn ++ ⟨#[32]⟩ ++ dk)) ∧ Below w.heap.size w w' := by
  have HP := Lib.hid HP
  have HO := Lib.hid HO
  have HS := Lib.hid HS
  have hf := one_field1
  have HB := Lib.hid (firstL w c jt jf k)
  have HD := Lib.hid HDdk
  go_enter Tryd.func16, Tryd.ntmps16
  go_wp2_with (first
    | (go_at_call 27; ((with_reducible refine (HP.out _).mono ?_); rintro e w1 ⟨rfl, b1⟩); have Q1 := Lib.hid (keepL b1 HB.out); obtain ⟨p0, p1, p2, p3, _⟩ := Q1.out)
    | (go_at_call 33; ((with_reducible refine (HO.out _).mono ?_); rintro e w2 ⟨rfl, b2⟩); have Q2 := Lib.hid (keepL b2 Q1.out); obtain ⟨q0, q1, q2, q3, _⟩ := Q2.out)
    | (go_at_call 26; ((with_reducible refine (HS.out _).mono ?_); rintro e w3 ⟨rfl, b3⟩); have Q3 := Lib.hid (keepL b3 Q2.out); obtain ⟨r0, r1, r2, r3, _⟩ := Q3.out)
    | (go_at_call 29; ((with_reducible refine (HD.out _).mono ?_); rintro e w4 ⟨rfl, b4⟩); have Q4 := Lib.hid (keepL b4 Q3.out)))
  go_ret
  exact ⟨rfl, ((Below.refl _ _).alloc (Nat.le_refl _) _).trans (Q4.out.2.2.2.2.mono (by simp))⟩

set_option maxRecDepth 100000 in
set_option maxHeartbeats 8000000 in
theorem line_2 (c jt jf k at_ : Int) (w : World) (xc xk : Int) (xn dk : ByteArray) (a0 : 0 ≤ at_) (a1 : at_ ≤ 1099511627776) (t0 : 0 ≤ jt) (t1 : jt < 256) (f0 : 0 ≤ jf) (f1 : jf < 256) (k0 : 0 ≤ k) (k1 : k < 4294967296) (hx : (xn.size : Int) ≤ 6) (hddk : (dk.size : Int) ≤ 19) (HDdk : ∀ W, Calls Tryd.prog 29 #[.int .i64 (at_ + 1 + k)] W fun e w' => e = .returned (.string dk) ∧ Below W.heap.size W w')
    (HP : ∀ W, Calls Tryd.prog 27 #[.agg #[.int .u16 c, .int .u8 jt, .int .u8 jf, .int .u32 k]] W fun e w' => e = .returned (.bool true) ∧ Below W.heap.size W w') (HO : ∀ W, Calls Tryd.prog 33 #[.int .u16 c] W fun e w' => e = .returned (.agg #[.int .u16 xc, .string xn, .int .u8 xk]) ∧ Below W.heap.size W w')
    (HS : ∀ W, Calls Tryd.prog 26 #[.int .u16 c] W fun e w' => e = .returned (.int .i64 2) ∧ Below W.heap.size W w') :
    Calls Tryd.prog 16 #[.agg #[.int .u16 c, .int .u8 jt, .int .u8 jf, .int .u32 k], .int .i64 at_] w fun e w' => e = .returned (.string (xn ++ ⟨#[32, 76]⟩ ++ dk)) ∧ Below w.heap.size w w' := by
  have HP := Lib.hid HP
  have HO := Lib.hid HO
  have HS := Lib.hid HS
  have hf := one_field1
  have HB := Lib.hid (firstL w c jt jf k)
  have HD := Lib.hid HDdk
  go_enter Tryd.func16, Tryd.ntmps16
  go_wp2_with (first
    | (go_at_call 27; ((with_reducible refine (HP.out _).mono ?_); rintro e w1 ⟨rfl, b1⟩); have Q1 := Lib.hid (keepL b1 HB.out); obtain ⟨p0, p1, p2, p3, _⟩ := Q1.out)
    | (go_at_call 33; ((with_reducible refine (HO.out _).mono ?_); rintro e w2 ⟨rfl, b2⟩); have Q2 := Lib.hid (keepL b2 Q1.out); obtain ⟨q0, q1, q2, q3, _⟩ := Q2.out)
    | (go_at_call 26; ((with_reducible refine (HS.out _).mono ?_); rintro e w3 ⟨rfl, b3⟩); have Q3 := Lib.hid (keepL b3 Q2.out); obtain ⟨r0, r1, r2, r3, _⟩ := Q3.out)
    | (go_at_call 29; ((with_reducible refine (HD.out _).mono ?_); rintro e w4 ⟨rfl, b4⟩); have Q4 := Lib.hid (keepL b4 Q3.out)))
  go_ret
  exact ⟨rfl, ((Below.refl _ _).alloc (Nat.le_refl _) _).trans (Q4.out.2.2.2.2.mono (by simp))⟩

set_option maxRecDepth 100000 in
set_option maxHeartbeats 8000000 in
theorem line_4 (c jt jf k at_ : Int) (w : World) (xc xk : Int) (xn  : ByteArray) (a0 : 0 ≤ at_) (a1 : at_ ≤ 1099511627776) (t0 : 0 ≤ jt) (t1 : jt < 256) (f0 : 0 ≤ jf) (f1 : jf < 256) (k0 : 0 ≤ k) (k1 : k < 4294967296) (hx : (xn.size : Int) ≤ 6) (dg : Int → ByteArray) (hd1 : ((dg (at_ + 1 + jt)).size : Int) ≤ 19) (hd2 : ((dg (at_ + 1 + jf)).size : Int) ≤ 19) (hd3 : ((dg k).size : Int) ≤ 19) (HDG : ∀ n W, 0 ≤ n → n ≤ 9223372036854775807 → Calls Tryd.prog 29 #[.int .i64 n] W fun e w' => e = .returned (.string (dg n)) ∧ Below W.heap.size W w')
    (HP : ∀ W, Calls Tryd.prog 27 #[.agg #[.int .u16 c, .int .u8 jt, .int .u8 jf, .int .u32 k]] W fun e w' => e = .returned (.bool true) ∧ Below W.heap.size W w') (HO : ∀ W, Calls Tryd.prog 33 #[.int .u16 c] W fun e w' => e = .returned (.agg #[.int .u16 xc, .string xn, .int .u8 xk]) ∧ Below W.heap.size W w')
    (HS : ∀ W, Calls Tryd.prog 26 #[.int .u16 c] W fun e w' => e = .returned (.int .i64 4) ∧ Below W.heap.size W w') :
    Calls Tryd.prog 16 #[.agg #[.int .u16 c, .int .u8 jt, .int .u8 jf, .int .u32 k], .int .i64 at_] w fun e w' => e = .returned (.string (xn ++ ⟨#[32, 76]⟩ ++ dg (at_ + 1 + jt) ++ ⟨#[32, 76]⟩ ++ dg (at_ + 1 + jf))) ∧ Below w.heap.size w w' := by
  have HP := Lib.hid HP
  have HO := Lib.hid HO
  have HS := Lib.hid HS
  have hf := one_field1
  have HB := Lib.hid (firstL w c jt jf k)
  have HD := Lib.hid HDG
  have hw0 : IntKind.i64.wrap (at_ + 1) = at_ + 1 := by rw [IntKind.wrap_i64]; omega
  have hw1 : IntKind.i64.wrap (jt) = jt := by rw [IntKind.wrap_i64]; omega
  have hw2 : IntKind.i64.wrap (jf) = jf := by rw [IntKind.wrap_i64]; omega
  have hw3 : IntKind.i64.wrap (at_ + 1 + jt) = at_ + 1 + jt := by rw [IntKind.wrap_i64]; omega
  have hw4 : IntKind.i64.wrap (at_ + 1 + jf) = at_ + 1 + jf := by rw [IntKind.wrap_i64]; omega
  have hs0 := fun W => run_string_add_sum (P := Tryd.prog) W (xn) (⟨#[32, 76]⟩ : ByteArray) (by have z2 : (⟨#[32, 76]⟩ : ByteArray).size = 2 := rfl; have z1 : (⟨#[32]⟩ : ByteArray).size = 1 := rfl; (try rw [ByteArray.size_append]); (try rw [ByteArray.size_append]); (try rw [ByteArray.size_append]); (try rw [ByteArray.size_append]); (try rw [ByteArray.size_append]); omega)
  have hs1 := fun W => run_string_add_sum (P := Tryd.prog) W (xn ++ (⟨#[32, 76]⟩ : ByteArray)) (dg (at_ + 1 + jt)) (by have z2 : (⟨#[32, 76]⟩ : ByteArray).size = 2 := rfl; have z1 : (⟨#[32]⟩ : ByteArray).size = 1 := rfl; (try rw [ByteArray.size_append]); (try rw [ByteArray.size_append]); (try rw [ByteArray.size_append]); (try rw [ByteArray.size_append]); (try rw [ByteArray.size_append]); omega)
  have hs2 := fun W => run_string_add_sum (P := Tryd.prog) W (xn ++ (⟨#[32, 76]⟩ : ByteArray) ++ (dg (at_ + 1 + jt))) (⟨#[32, 76]⟩ : ByteArray) (by have z2 : (⟨#[32, 76]⟩ : ByteArray).size = 2 := rfl; have z1 : (⟨#[32]⟩ : ByteArray).size = 1 := rfl; (try rw [ByteArray.size_append]); (try rw [ByteArray.size_append]); (try rw [ByteArray.size_append]); (try rw [ByteArray.size_append]); (try rw [ByteArray.size_append]); omega)
  have hs3 := fun W => run_string_add_sum (P := Tryd.prog) W (xn ++ (⟨#[32, 76]⟩ : ByteArray) ++ (dg (at_ + 1 + jt)) ++ (⟨#[32, 76]⟩ : ByteArray)) (dg (at_ + 1 + jf)) (by have z2 : (⟨#[32, 76]⟩ : ByteArray).size = 2 := rfl; have z1 : (⟨#[32]⟩ : ByteArray).size = 1 := rfl; (try rw [ByteArray.size_append]); (try rw [ByteArray.size_append]); (try rw [ByteArray.size_append]); (try rw [ByteArray.size_append]); (try rw [ByteArray.size_append]); omega)
  have hn0 : ¬ (9223372036854775807 < xn.size + 2) := by omega
  have hm0 : (xn.size + 2 > 9223372036854775807) = False := eq_false (by omega)
  have hn1 : ¬ (9223372036854775807 < xn.size + 2 + (dg (at_ + 1 + jt)).size) := by omega
  have hm1 : (xn.size + 2 + (dg (at_ + 1 + jt)).size > 9223372036854775807) = False := eq_false (by omega)
  have hn2 : ¬ (9223372036854775807 < xn.size + 2 + (dg (at_ + 1 + jt)).size + 2) := by omega
  have hm2 : (xn.size + 2 + (dg (at_ + 1 + jt)).size + 2 > 9223372036854775807) = False := eq_false (by omega)
  have hn3 : ¬ (9223372036854775807 < xn.size + 2 + (dg (at_ + 1 + jt)).size + 2 + (dg (at_ + 1 + jf)).size) := by omega
  have hm3 : (xn.size + 2 + (dg (at_ + 1 + jt)).size + 2 + (dg (at_ + 1 + jf)).size > 9223372036854775807) = False := eq_false (by omega)
  go_enter Tryd.func16, Tryd.ntmps16
  go_wp2_with (first
    | (go_at_call 27; ((with_reducible refine (HP.out _).mono ?_); rintro e w1 ⟨rfl, b1⟩); have Q1 := Lib.hid (keepL b1 HB.out); obtain ⟨p0, p1, p2, p3, _⟩ := Q1.out)
    | (go_at_call 33; ((with_reducible refine (HO.out _).mono ?_); rintro e w2 ⟨rfl, b2⟩); have Q2 := Lib.hid (keepL b2 Q1.out); obtain ⟨q0, q1, q2, q3, _⟩ := Q2.out)
    | (go_at_call 26; ((with_reducible refine (HS.out _).mono ?_); rintro e w3 ⟨rfl, b3⟩); have Q3 := Lib.hid (keepL b3 Q2.out); obtain ⟨r0, r1, r2, r3, _⟩ := Q3.out))
  go_region_held3 (fun w' => w'.cell? ⟨w.heap.size, 0, none⟩ = some (.int .u16 c) ∧ w'.cell? ⟨w.heap.size, 1, none⟩ = some (.int .u8 jt) ∧ w'.cell? ⟨w.heap.size, 2, none⟩ = some (.int .u8 jf) ∧ w'.cell? ⟨w.heap.size, 3, none⟩ = some (.int .u32 k) ∧ Below w3.heap.size w3 w') (first | with_reducible assumption | (with_reducible exact startL Q3.out) | (with_reducible exact keepL (by assumption) (by assumption))) (first
    | (go_at_call 29; refine (HD.out _ _ (by omega) (by omega)).mono ?_; rintro e w5 ⟨rfl, b5⟩))
  have BE := (by assumption : _ ∧ _ ∧ _ ∧ _ ∧ Below _ _ _).2.2.2.2
  go_wp2
  go_ret
  exact ⟨rfl, ((Below.refl _ _).alloc (Nat.le_refl _) _).trans ((Q3.out.2.2.2.2.trans (BE.mono Q3.out.2.2.2.2.size)).mono (by simp))⟩

set_option maxRecDepth 100000 in
set_option maxHeartbeats 8000000 in
theorem line_3 (c jt jf k at_ : Int) (w : World) (xc xk : Int) (xn  : ByteArray) (a0 : 0 ≤ at_) (a1 : at_ ≤ 1099511627776) (t0 : 0 ≤ jt) (t1 : jt < 256) (f0 : 0 ≤ jf) (f1 : jf < 256) (k0 : 0 ≤ k) (k1 : k < 4294967296) (hx : (xn.size : Int) ≤ 6) (dg : Int → ByteArray) (hd1 : ((dg (at_ + 1 + jt)).size : Int) ≤ 19) (hd2 : ((dg (at_ + 1 + jf)).size : Int) ≤ 19) (hd3 : ((dg k).size : Int) ≤ 19) (HDG : ∀ n W, 0 ≤ n → n ≤ 9223372036854775807 → Calls Tryd.prog 29 #[.int .i64 n] W fun e w' => e = .returned (.string (dg n)) ∧ Below W.heap.size W w')
    (HP : ∀ W, Calls Tryd.prog 27 #[.agg #[.int .u16 c, .int .u8 jt, .int .u8 jf, .int .u32 k]] W fun e w' => e = .returned (.bool true) ∧ Below W.heap.size W w') (HO : ∀ W, Calls Tryd.prog 33 #[.int .u16 c] W fun e w' => e = .returned (.agg #[.int .u16 xc, .string xn, .int .u8 xk]) ∧ Below W.heap.size W w')
    (HS : ∀ W, Calls Tryd.prog 26 #[.int .u16 c] W fun e w' => e = .returned (.int .i64 3) ∧ Below W.heap.size W w') :
    Calls Tryd.prog 16 #[.agg #[.int .u16 c, .int .u8 jt, .int .u8 jf, .int .u32 k], .int .i64 at_] w fun e w' => e = .returned (.string (xn ++ ⟨#[32]⟩ ++ dg k ++ ⟨#[32, 76]⟩ ++ dg (at_ + 1 + jt) ++ ⟨#[32, 76]⟩ ++ dg (at_ + 1 + jf))) ∧ Below w.heap.size w w' := by
  have HP := Lib.hid HP
  have HO := Lib.hid HO
  have HS := Lib.hid HS
  have hf := one_field1
  have HB := Lib.hid (firstL w c jt jf k)
  have HD := Lib.hid HDG
  have hw0 : IntKind.i64.wrap (at_ + 1) = at_ + 1 := by rw [IntKind.wrap_i64]; omega
  have hw1 : IntKind.i64.wrap (jt) = jt := by rw [IntKind.wrap_i64]; omega
  have hw2 : IntKind.i64.wrap (jf) = jf := by rw [IntKind.wrap_i64]; omega
  have hw3 : IntKind.i64.wrap (at_ + 1 + jt) = at_ + 1 + jt := by rw [IntKind.wrap_i64]; omega
  have hw4 : IntKind.i64.wrap (at_ + 1 + jf) = at_ + 1 + jf := by rw [IntKind.wrap_i64]; omega
  have HD3 := Lib.hid (fun W => HDG k W (by omega) (by omega))
  have hs0 := fun W => run_string_add_sum (P := Tryd.prog) W (xn ++ (⟨#[32]⟩ : ByteArray) ++ dg k) (⟨#[32, 76]⟩ : ByteArray) (by have z2 : (⟨#[32, 76]⟩ : ByteArray).size = 2 := rfl; have z1 : (⟨#[32]⟩ : ByteArray).size = 1 := rfl; (try rw [ByteArray.size_append]); (try rw [ByteArray.size_append]); (try rw [ByteArray.size_append]); (try rw [ByteArray.size_append]); (try rw [ByteArray.size_append]); omega)
  have hs1 := fun W => run_string_add_sum (P := Tryd.prog) W (xn ++ (⟨#[32]⟩ : ByteArray) ++ dg k ++ (⟨#[32, 76]⟩ : ByteArray)) (dg (at_ + 1 + jt)) (by have z2 : (⟨#[32, 76]⟩ : ByteArray).size = 2 := rfl; have z1 : (⟨#[32]⟩ : ByteArray).size = 1 := rfl; (try rw [ByteArray.size_append]); (try rw [ByteArray.size_append]); (try rw [ByteArray.size_append]); (try rw [ByteArray.size_append]); (try rw [ByteArray.size_append]); omega)
  have hs2 := fun W => run_string_add_sum (P := Tryd.prog) W (xn ++ (⟨#[32]⟩ : ByteArray) ++ dg k ++ (⟨#[32, 76]⟩ : ByteArray) ++ (dg (at_ + 1 + jt))) (⟨#[32, 76]⟩ : ByteArray) (by have z2 : (⟨#[32, 76]⟩ : ByteArray).size = 2 := rfl; have z1 : (⟨#[32]⟩ : ByteArray).size = 1 := rfl; (try rw [ByteArray.size_append]); (try rw [ByteArray.size_append]); (try rw [ByteArray.size_append]); (try rw [ByteArray.size_append]); (try rw [ByteArray.size_append]); omega)
  have hs3 := fun W => run_string_add_sum (P := Tryd.prog) W (xn ++ (⟨#[32]⟩ : ByteArray) ++ dg k ++ (⟨#[32, 76]⟩ : ByteArray) ++ (dg (at_ + 1 + jt)) ++ (⟨#[32, 76]⟩ : ByteArray)) (dg (at_ + 1 + jf)) (by have z2 : (⟨#[32, 76]⟩ : ByteArray).size = 2 := rfl; have z1 : (⟨#[32]⟩ : ByteArray).size = 1 := rfl; (try rw [ByteArray.size_append]); (try rw [ByteArray.size_append]); (try rw [ByteArray.size_append]); (try rw [ByteArray.size_append]); (try rw [ByteArray.size_append]); omega)
  have hn0 : ¬ (9223372036854775807 < xn.size + 1 + (dg k).size + 2) := by omega
  have hm0 : (xn.size + 1 + (dg k).size + 2 > 9223372036854775807) = False := eq_false (by omega)
  have hn1 : ¬ (9223372036854775807 < xn.size + 1 + (dg k).size + 2 + (dg (at_ + 1 + jt)).size) := by omega
  have hm1 : (xn.size + 1 + (dg k).size + 2 + (dg (at_ + 1 + jt)).size > 9223372036854775807) = False := eq_false (by omega)
  have hn2 : ¬ (9223372036854775807 < xn.size + 1 + (dg k).size + 2 + (dg (at_ + 1 + jt)).size + 2) := by omega
  have hm2 : (xn.size + 1 + (dg k).size + 2 + (dg (at_ + 1 + jt)).size + 2 > 9223372036854775807) = False := eq_false (by omega)
  have hn3 : ¬ (9223372036854775807 < xn.size + 1 + (dg k).size + 2 + (dg (at_ + 1 + jt)).size + 2 + (dg (at_ + 1 + jf)).size) := by omega
  have hm3 : (xn.size + 1 + (dg k).size + 2 + (dg (at_ + 1 + jt)).size + 2 + (dg (at_ + 1 + jf)).size > 9223372036854775807) = False := eq_false (by omega)
  go_enter Tryd.func16, Tryd.ntmps16
  go_wp2_with (first
    | (go_at_call 27; ((with_reducible refine (HP.out _).mono ?_); rintro e w1 ⟨rfl, b1⟩); have Q1 := Lib.hid (keepL b1 HB.out); obtain ⟨p0, p1, p2, p3, _⟩ := Q1.out)
    | (go_at_call 33; ((with_reducible refine (HO.out _).mono ?_); rintro e w2 ⟨rfl, b2⟩); have Q2 := Lib.hid (keepL b2 Q1.out); obtain ⟨q0, q1, q2, q3, _⟩ := Q2.out)
    | (go_at_call 26; ((with_reducible refine (HS.out _).mono ?_); rintro e w3 ⟨rfl, b3⟩); have Q3 := Lib.hid (keepL b3 Q2.out); obtain ⟨r0, r1, r2, r3, _⟩ := Q3.out)
    | (go_at_call 29; ((with_reducible refine (HD3.out _).mono ?_); rintro e w4 ⟨rfl, b4⟩); have Q4 := Lib.hid (keepL b4 Q3.out)))
  go_region_held3 (fun w' => w'.cell? ⟨w.heap.size, 0, none⟩ = some (.int .u16 c) ∧ w'.cell? ⟨w.heap.size, 1, none⟩ = some (.int .u8 jt) ∧ w'.cell? ⟨w.heap.size, 2, none⟩ = some (.int .u8 jf) ∧ w'.cell? ⟨w.heap.size, 3, none⟩ = some (.int .u32 k) ∧ Below w4.heap.size w4 w') (first | with_reducible assumption | (with_reducible exact startL Q4.out) | (with_reducible exact keepL (by assumption) (by assumption))) (first
    | (go_at_call 29; refine (HD.out _ _ (by omega) (by omega)).mono ?_; rintro e w5 ⟨rfl, b5⟩))
  have BE := (by assumption : _ ∧ _ ∧ _ ∧ _ ∧ Below _ _ _).2.2.2.2
  go_wp2
  go_ret
  exact ⟨rfl, ((Below.refl _ _).alloc (Nat.le_refl _) _).trans ((Q4.out.2.2.2.2.trans (BE.mono Q4.out.2.2.2.2.size)).mono (by simp))⟩

theorem line_no (c jt jf k at_ : Int) (w : World) 
    (HP : ∀ W, Calls Tryd.prog 27 #[.agg #[.int .u16 c, .int .u8 jt, .int .u8 jf, .int .u32 k]] W fun e w' => e = .returned (.bool false) ∧ Below W.heap.size W w') :
    Calls Tryd.prog 16 #[.agg #[.int .u16 c, .int .u8 jt, .int .u8 jf, .int .u32 k], .int .i64 at_] w fun e w' => e = .returned (.string (bs [])) ∧ Below w.heap.size w w' := by
  have HP := Lib.hid HP
  go_enter Tryd.func16, Tryd.ntmps16
  go_wp2_with (go_at_call 27; ((with_reducible refine (HP.out _).mono ?_); rintro e w1 ⟨rfl, b1⟩))
  go_ret
  exact ⟨rfl, ((Below.refl _ _).alloc (Nat.le_refl _) _).trans (b1.mono (by simp))⟩
theorem line_neg (c jt jf k at_ : Int) (w : World) (ha : at_ < 0)
    (HP : ∀ W, Calls Tryd.prog 27 #[.agg #[.int .u16 c, .int .u8 jt, .int .u8 jf, .int .u32 k]] W fun e w' => e = .returned (.bool true) ∧ Below W.heap.size W w') :
    Calls Tryd.prog 16 #[.agg #[.int .u16 c, .int .u8 jt, .int .u8 jf, .int .u32 k], .int .i64 at_] w fun e w' => e = .returned (.string (bs [])) ∧ Below w.heap.size w w' := by
  have HP := Lib.hid HP
  go_enter Tryd.func16, Tryd.ntmps16
  go_wp2_with (go_at_call 27; ((with_reducible refine (HP.out _).mono ?_); rintro e w1 ⟨rfl, b1⟩))
  go_ret
  exact ⟨rfl, ((Below.refl _ _).alloc (Nat.le_refl _) _).trans (b1.mono (by simp))⟩
/-- The digits of a number, as a string. -/
def dgB (n : Int) : ByteArray := bs (digL n.toNat)
theorem dgB_le {n : Int} (h : n ≤ 9223372036854775807) : ((dgB n).size : Int) ≤ 19 := by
  unfold dgB
  rw [bs_size]
  have := digL_len (n := n.toNat) (by omega)
  omega
theorem dgB_call (n : Int) (W : World) (h0 : 0 ≤ n) (h1 : n ≤ 9223372036854775807) : Calls Tryd.prog 29 #[.int .i64 n] W fun e w' => e = .returned (.string (dgB n)) ∧ Below W.heap.size W w' := by
  obtain ⟨m, rfl⟩ := Int.eq_ofNat_of_zero_le h0
  have := refDigits m (by omega) W
  unfold dgB
  rw [Int.toNat_natCast]
  exact this
theorem name_size (c : Int) : ((ofL allL c).name.size : Int) ≤ 6 := by
  rcases known_name c with ⟨_, _, h⟩ | ⟨_, h⟩
  · omega
  · rw [h]; decide
theorem refLine (i : Ins) (hi : i.Ok) (at_ : Int) (a1 : at_ ≤ 1099511627776) (w : World) : Calls Tryd.prog 16 #[.agg #[.int .u16 i.c, .int .u8 i.jt, .int .u8 i.jf, .int .u32 i.k], .int .i64 at_] w fun e w' => e = .returned (.string (bs (lineI i at_))) ∧ Below w.heap.size w w' := by
  have HP := fun W => refPlain i W
  unfold lineI
  cases hp : plainI i with
  | false =>
    rw [hp] at HP
    rw [if_pos (Or.inl rfl)]
    exact line_no _ _ _ _ _ w HP
  | true =>
    rw [hp] at HP
    by_cases ha : at_ < 0
    · rw [if_pos (Or.inr ha)]
      exact line_neg _ _ _ _ _ w ha HP
    · rw [if_neg (fun h => h.elim (fun h => by cases h) ha)]
      have HO := fun W => refOf_any i.c W
      have HS := fun W => refShape i.c W
      have h5 := shapeI_five i.c
      obtain ⟨c, jt, jf, k⟩ := i
      obtain ⟨c0, c1, t0, t1, f0, f1, k0, k1⟩ := hi
      simp only at t0 t1 f0 f1 k0 k1 h5 HS HO HP
      have hn : (ofL allL c).name = bs (nameA c) := (bs_self _).symm
      have hx := name_size c
      have ha0 : 0 ≤ at_ := by omega
      have d1 := dgB_le (n := at_ + 1 + jt) (by omega)
      have d2 := dgB_le (n := at_ + 1 + jf) (by omega)
      have d3 := dgB_le (n := k) (by omega)
      have d4 := dgB_le (n := at_ + 1 + k) (by omega)
      unfold opsI
      simp only
      have e32 : (⟨#[32]⟩ : ByteArray) = bs [32] := rfl
      have e76 : (⟨#[32, 76]⟩ : ByteArray) = bs [32, 76] := rfl
      obtain ⟨sh, hs⟩ : ∃ x, x = shapeI c := ⟨_, rfl⟩
      rw [← hs] at HS h5
      rw [← hs]
      clear hs
      rcases h5 with rfl | rfl | rfl | rfl | rfl
      · have := line_0 c jt jf k at_ w _ _ _ ha0 a1 t0 t1 f0 f1 k0 k1 hx HP HO HS
        rw [hn] at this
        simpa using this
      · have := line_1 c jt jf k at_ w _ _ _ _ ha0 a1 t0 t1 f0 f1 k0 k1 hx d3 (fun W => dgB_call k W (by omega) (by omega)) HP HO HS
        rw [hn, e32] at this
        unfold dgB at this
        rw [bs_app, bs_app] at this
        simpa using this
      · have := line_2 c jt jf k at_ w _ _ _ _ ha0 a1 t0 t1 f0 f1 k0 k1 hx d4 (fun W => dgB_call (at_ + 1 + k) W (by omega) (by omega)) HP HO HS
        rw [hn, e76] at this
        unfold dgB at this
        rw [bs_app, bs_app] at this
        simpa using this
      · have := line_3 c jt jf k at_ w _ _ _ ha0 a1 t0 t1 f0 f1 k0 k1 hx dgB d1 d2 d3 (fun n W h0 h1 => dgB_call n W h0 h1) HP HO HS
        rw [hn, e32, e76] at this
        unfold dgB at this
        rw [bs_app, bs_app, bs_app, bs_app, bs_app, bs_app] at this
        simpa using this
      · have := line_4 c jt jf k at_ w _ _ _ ha0 a1 t0 t1 f0 f1 k0 k1 hx dgB d1 d2 d3 (fun n W h0 h1 => dgB_call n W h0 h1) HP HO HS
        rw [hn, e76] at this
        unfold dgB at this
        rw [bs_app, bs_app, bs_app, bs_app] at this
        simpa using this
end Go.Proofs.YtlneiiljdghmjaaDoor
