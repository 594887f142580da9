/- What a filter looks at as a list of bytes: the bytes, what bytes it is, the words at its places; plain lists and integers, no program. The sixteen words of the data, in order: they are the words at the places, and their bytes are the data's. Plain lists and integers, no program. -/
import Derived.Test.YtohfampfnhfnlaaDoorMa
namespace Go.Proofs.YtohfampfnhfnlaaDoor
set_option linter.unusedVariables false

/-- The number of the call, the architecture, the place, the six arguments. -/
structure Dat where
  nr : Int
  arch : Int
  ip : Int
  a0 : Int
  a1 : Int
  a2 : Int
  a3 : Int
  a4 : Int
  a5 : Int
/-- Each number fits its kind. -/
structure Dat.Ok (d : Dat) : Prop where
  nr0 : 0 ≤ d.nr
  nr1 : d.nr < 4294967296
  arch0 : 0 ≤ d.arch
  arch1 : d.arch < 4294967296
  ip0 : 0 ≤ d.ip
  ip1 : d.ip < 18446744073709551616
  a00 : 0 ≤ d.a0
  a01 : d.a0 < 18446744073709551616
  a10 : 0 ≤ d.a1
  a11 : d.a1 < 18446744073709551616
  a20 : 0 ≤ d.a2
  a21 : d.a2 < 18446744073709551616
  a30 : 0 ≤ d.a3
  a31 : d.a3 < 18446744073709551616
  a40 : 0 ≤ d.a4
  a41 : d.a4 < 18446744073709551616
  a50 : 0 ≤ d.a5
  a51 : d.a5 < 18446744073709551616
/-- The 64 bytes. -/
def datB (d : Dat) : List Int := putL 4 d.nr ++ putL 4 d.arch ++ putL 8 d.ip ++ putL 8 d.a0 ++ putL 8 d.a1 ++ putL 8 d.a2 ++ putL 8 d.a3 ++ putL 8 d.a4 ++ putL 8 d.a5
/-- What 64 bytes are. -/
def datOf (b : List Int) : Dat := ⟨leV ((b.drop 0).take 4), leV ((b.drop 4).take 4), leV ((b.drop 8).take 8), leV ((b.drop 16).take 8), leV ((b.drop 24).take 8), leV ((b.drop 32).take 8), leV ((b.drop 40).take 8), leV ((b.drop 48).take 8), leV ((b.drop 56).take 8)⟩
/-- The argument with that index. -/
def Dat.arg (d : Dat) (k : Nat) : Int := [d.a0, d.a1, d.a2, d.a3, d.a4, d.a5].getD k 0
/-- Is there a word at the place? -/
def wordB (a : Int) : Bool := decide (a % 4 = 0 ∧ a < 64)
def wordV (d : Dat) (a : Int) : Int := if wordB a then leV (((datB d).drop a.toNat).take 4) else 0
def wordE (a : Int) : Int := if wordB a then 0 else 41
theorem datB_length (d : Dat) : (datB d).length = 64 := by simp [datB, putL_length]
theorem datB_byt (d : Dat) : Byt (datB d) := by
  unfold datB
  repeat (first | exact putL_byt _ _ | refine Byt.app ?_ (putL_byt _ _))
theorem datB_nr (d : Dat) : ((datB d).drop 0).take 4 = putL 4 d.nr := by
  have h : datB d = ([]) ++ (putL 4 d.nr ++ (putL 4 d.arch ++ putL 8 d.ip ++ putL 8 d.a0 ++ putL 8 d.a1 ++ putL 8 d.a2 ++ putL 8 d.a3 ++ putL 8 d.a4 ++ putL 8 d.a5)) := by simp [datB]
  rw [h, List.drop_left' (by simp), List.take_left' (putL_length 4 d.nr)]
theorem datB_arch (d : Dat) : ((datB d).drop 4).take 4 = putL 4 d.arch := by
  have h : datB d = (putL 4 d.nr) ++ (putL 4 d.arch ++ (putL 8 d.ip ++ putL 8 d.a0 ++ putL 8 d.a1 ++ putL 8 d.a2 ++ putL 8 d.a3 ++ putL 8 d.a4 ++ putL 8 d.a5)) := by simp [datB]
  rw [h, List.drop_left' (by simp [putL_length]), List.take_left' (putL_length 4 d.arch)]
theorem datB_ip (d : Dat) : ((datB d).drop 8).take 8 = putL 8 d.ip := by
  have h : datB d = (putL 4 d.nr ++ putL 4 d.arch) ++ (putL 8 d.ip ++ (putL 8 d.a0 ++ putL 8 d.a1 ++ putL 8 d.a2 ++ putL 8 d.a3 ++ putL 8 d.a4 ++ putL 8 d.a5)) := by simp [datB]
  rw [h, List.drop_left' (by simp [putL_length]), List.take_left' (putL_length 8 d.ip)]
theorem datB_a0 (d : Dat) : ((datB d).drop 16).take 8 = putL 8 d.a0 := by
  have h : datB d = (putL 4 d.nr ++ putL 4 d.arch ++ putL 8 d.ip) ++ (putL 8 d.a0 ++ (putL 8 d.a1 ++ putL 8 d.a2 ++ putL 8 d.a3 ++ putL 8 d.a4 ++ putL 8 d.a5)) := by simp [datB]
  rw [h, List.drop_left' (by simp [putL_length]), List.take_left' (putL_length 8 d.a0)]
theorem datB_a1 (d : Dat) : ((datB d).drop 24).take 8 = putL 8 d.a1 := by
  have h : datB d = (putL 4 d.nr ++ putL 4 d.arch ++ putL 8 d.ip ++ putL 8 d.a0) ++ (putL 8 d.a1 ++ (putL 8 d.a2 ++ putL 8 d.a3 ++ putL 8 d.a4 ++ putL 8 d.a5)) := by simp [datB]
  rw [h, List.drop_left' (by simp [putL_length]), List.take_left' (putL_length 8 d.a1)]
theorem datB_a2 (d : Dat) : ((datB d).drop 32).take 8 = putL 8 d.a2 := by
  have h : datB d = (putL 4 d.nr ++ putL 4 d.arch ++ putL 8 d.ip ++ putL 8 d.a0 ++ putL 8 d.a1) ++ (putL 8 d.a2 ++ (putL 8 d.a3 ++ putL 8 d.a4 ++ putL 8 d.a5)) := by simp [datB]
  rw [h, List.drop_left' (by simp [putL_length]), List.take_left' (putL_length 8 d.a2)]
theorem datB_a3 (d : Dat) : ((datB d).drop 40).take 8 = putL 8 d.a3 := by
  have h : datB d = (putL 4 d.nr ++ putL 4 d.arch ++ putL 8 d.ip ++ putL 8 d.a0 ++ putL 8 d.a1 ++ putL 8 d.a2) ++ (putL 8 d.a3 ++ (putL 8 d.a4 ++ putL 8 d.a5)) := by simp [datB]
  rw [h, List.drop_left' (by simp [putL_length]), List.take_left' (putL_length 8 d.a3)]
theorem datB_a4 (d : Dat) : ((datB d).drop 48).take 8 = putL 8 d.a4 := by
  have h : datB d = (putL 4 d.nr ++ putL 4 d.arch ++ putL 8 d.ip ++ putL 8 d.a0 ++ putL 8 d.a1 ++ putL 8 d.a2 ++ putL 8 d.a3) ++ (putL 8 d.a4 ++ (putL 8 d.a5)) := by simp [datB]
  rw [h, List.drop_left' (by simp [putL_length]), List.take_left' (putL_length 8 d.a4)]
theorem datB_a5 (d : Dat) : ((datB d).drop 56).take 8 = putL 8 d.a5 := by
  have h : datB d = (putL 4 d.nr ++ putL 4 d.arch ++ putL 8 d.ip ++ putL 8 d.a0 ++ putL 8 d.a1 ++ putL 8 d.a2 ++ putL 8 d.a3 ++ putL 8 d.a4) ++ (putL 8 d.a5 ++ ([])) := by simp [datB]
  rw [h, List.drop_left' (by simp [putL_length]), List.take_left' (putL_length 8 d.a5)]
theorem leV_cut {b : List Int} (h : Byt b) (o w : Nat) : 0 ≤ leV ((b.drop o).take w) ∧ leV ((b.drop o).take w) < 256 ^ w := by
  refine ⟨leV_nonneg ((h.drop o).take w), ?_⟩
  have h1 := leV_lt ((h.drop o).take w)
  have hn : (256 : Nat) ^ ((b.drop o).take w).length ≤ 256 ^ w := Nat.pow_le_pow_right (by decide) (by rw [List.length_take]; omega)
  have e1 : ((256 ^ ((b.drop o).take w).length : Nat) : Int) = 256 ^ ((b.drop o).take w).length := by rw [Int.natCast_pow]; rfl
  have e2 : ((256 ^ w : Nat) : Int) = 256 ^ w := by rw [Int.natCast_pow]; rfl
  omega
theorem p4 : (256 : Int) ^ 4 = 4294967296 := by decide
theorem p8 : (256 : Int) ^ 8 = 18446744073709551616 := by decide
theorem datOf_ok {b : List Int} (h : Byt b) : (datOf b).Ok := by
  have h0 := leV_cut h 0 4
  rw [p4] at h0
  have h1 := leV_cut h 4 4
  rw [p4] at h1
  have h2 := leV_cut h 8 8
  rw [p8] at h2
  have h3 := leV_cut h 16 8
  rw [p8] at h3
  have h4 := leV_cut h 24 8
  rw [p8] at h4
  have h5 := leV_cut h 32 8
  rw [p8] at h5
  have h6 := leV_cut h 40 8
  rw [p8] at h6
  have h7 := leV_cut h 48 8
  rw [p8] at h7
  have h8 := leV_cut h 56 8
  rw [p8] at h8
  exact ⟨h0.1, h0.2, h1.1, h1.2, h2.1, h2.2, h3.1, h3.2, h4.1, h4.2, h5.1, h5.2, h6.1, h6.2, h7.1, h7.2, h8.1, h8.2⟩
theorem putL_val4 {x : Int} (h0 : 0 ≤ x) (h1 : x < 4294967296) : leV (putL 4 x) = x := by rw [leV_putL, p4]; exact Int.emod_eq_of_lt h0 h1
theorem putL_val8 {x : Int} (h0 : 0 ≤ x) (h1 : x < 18446744073709551616) : leV (putL 8 x) = x := by rw [leV_putL, p8]; exact Int.emod_eq_of_lt h0 h1
theorem datOf_datB {d : Dat} (h : d.Ok) : datOf (datB d) = d := by
  unfold datOf
  rw [datB_nr, datB_arch, datB_ip, datB_a0, datB_a1, datB_a2, datB_a3, datB_a4, datB_a5, putL_val4 h.nr0 h.nr1, putL_val4 h.arch0 h.arch1, putL_val8 h.ip0 h.ip1, putL_val8 h.a00 h.a01, putL_val8 h.a10 h.a11, putL_val8 h.a20 h.a21, putL_val8 h.a30 h.a31, putL_val8 h.a40 h.a41, putL_val8 h.a50 h.a51]
theorem putL_cut {b : List Int} (h : Byt b) {o w : Nat} (hl : o + w ≤ b.length) : putL w (leV ((b.drop o).take w)) = (b.drop o).take w := by
  have e : ((b.drop o).take w).length = w := by rw [List.length_take, List.length_drop]; omega
  have := putL_leV _ ((h.drop o).take w)
  rwa [e] at this
theorem cut_join (b : List Int) (o v w : Nat) : (b.drop o).take v ++ (b.drop (o + v)).take w = (b.drop o).take (v + w) := by
  rw [List.take_add, List.drop_drop]
theorem datB_datOf {b : List Int} (h : Byt b) (hl : b.length = 64) : datB (datOf b) = b := by
  unfold datB datOf
  simp only
  rw [putL_cut h (show 0 + 4 ≤ b.length by omega), putL_cut h (show 4 + 4 ≤ b.length by omega), putL_cut h (show 8 + 8 ≤ b.length by omega), putL_cut h (show 16 + 8 ≤ b.length by omega), putL_cut h (show 24 + 8 ≤ b.length by omega), putL_cut h (show 32 + 8 ≤ b.length by omega), putL_cut h (show 40 + 8 ≤ b.length by omega), putL_cut h (show 48 + 8 ≤ b.length by omega), putL_cut h (show 56 + 8 ≤ b.length by omega)]
  have hb : (b.drop 0).take 64 = b := by rw [List.drop_zero, List.take_of_length_le (by omega)]
  rw [show (b.drop 0).take 4 ++ (b.drop 4).take 4 = (b.drop 0).take 8 from cut_join b 0 4 4, show (b.drop 0).take 8 ++ (b.drop 8).take 8 = (b.drop 0).take 16 from cut_join b 0 8 8, show (b.drop 0).take 16 ++ (b.drop 16).take 8 = (b.drop 0).take 24 from cut_join b 0 16 8, show (b.drop 0).take 24 ++ (b.drop 24).take 8 = (b.drop 0).take 32 from cut_join b 0 24 8, show (b.drop 0).take 32 ++ (b.drop 32).take 8 = (b.drop 0).take 40 from cut_join b 0 32 8, show (b.drop 0).take 40 ++ (b.drop 40).take 8 = (b.drop 0).take 48 from cut_join b 0 40 8, show (b.drop 0).take 48 ++ (b.drop 48).take 8 = (b.drop 0).take 56 from cut_join b 0 48 8, show (b.drop 0).take 56 ++ (b.drop 56).take 8 = (b.drop 0).take 64 from cut_join b 0 56 8]
  exact hb
theorem datB_inj {d e : Dat} (h : d.Ok) (k : e.Ok) (x : datB d = datB e) : d = e := by rw [← datOf_datB h, x, datOf_datB k]
/-- The bytes up to behind the first k arguments. -/
def datP (d : Dat) (k : Nat) : List Int := (datB d).take (16 + 8 * k)
theorem datP_length (d : Dat) {k : Nat} (hk : k ≤ 6) : (datP d k).length = 16 + 8 * k := by unfold datP; rw [List.length_take, datB_length]; omega
theorem datP_all (d : Dat) : datP d 6 = datB d := by unfold datP; rw [List.take_of_length_le (by rw [datB_length]; omega)]
theorem datB_arg (d : Dat) {k : Nat} (hk : k < 6) : ((datB d).drop (16 + 8 * k)).take 8 = putL 8 (d.arg k) := by
  match k, hk with
  | 0, _ => exact datB_a0 d
  | 1, _ => exact datB_a1 d
  | 2, _ => exact datB_a2 d
  | 3, _ => exact datB_a3 d
  | 4, _ => exact datB_a4 d
  | 5, _ => exact datB_a5 d
theorem datP_succ (d : Dat) {k : Nat} (hk : k < 6) : datP d (k + 1) = datP d k ++ putL 8 (d.arg k) := by
  unfold datP
  rw [← datB_arg d hk, show 16 + 8 * (k + 1) = (16 + 8 * k) + 8 by omega, List.take_add]
theorem datP_zero (d : Dat) : datP d 0 = putL 4 d.nr ++ putL 4 d.arch ++ putL 8 d.ip := by
  have h : datB d = (putL 4 d.nr ++ putL 4 d.arch ++ putL 8 d.ip) ++ (putL 8 d.a0 ++ putL 8 d.a1 ++ putL 8 d.a2 ++ putL 8 d.a3 ++ putL 8 d.a4 ++ putL 8 d.a5) := by simp [datB]
  unfold datP
  rw [h, List.take_left' (by simp [putL_length])]
theorem Dat.Ok.arg {d : Dat} (h : d.Ok) {k : Nat} (hk : k < 6) : 0 ≤ d.arg k ∧ d.arg k < 18446744073709551616 := by
  match k, hk with
  | 0, _ => exact ⟨h.a00, h.a01⟩
  | 1, _ => exact ⟨h.a10, h.a11⟩
  | 2, _ => exact ⟨h.a20, h.a21⟩
  | 3, _ => exact ⟨h.a30, h.a31⟩
  | 4, _ => exact ⟨h.a40, h.a41⟩
  | 5, _ => exact ⟨h.a50, h.a51⟩
theorem wordV_ok (d : Dat) (a : Int) : 0 ≤ wordV d a ∧ wordV d a < 4294967296 := by
  unfold wordV
  split
  · have := leV_cut (datB_byt d) a.toNat 4
    rwa [p4] at this
  · omega
/-- The halves of an argument are the words at its places. -/
theorem halves_arg {d : Dat} (h : d.Ok) {k : Nat} (hk : k < 6) : wordV d (16 + 8 * (k : Int)) + wordV d (20 + 8 * (k : Int)) * 4294967296 = d.arg k := by
  have w1 : wordB (16 + 8 * (k : Int)) = true := decide_eq_true (by omega)
  have w2 : wordB (20 + 8 * (k : Int)) = true := decide_eq_true (by omega)
  unfold wordV
  rw [if_pos w1, if_pos w2, show (16 + 8 * (k : Int)).toNat = 16 + 8 * k by omega, show (20 + 8 * (k : Int)).toNat = 16 + 8 * k + 4 by omega]
  have e : leV (((datB d).drop (16 + 8 * k)).take 8) = leV (((datB d).drop (16 + 8 * k)).take 4) + leV (((datB d).drop (16 + 8 * k + 4)).take 4) * 4294967296 := by
    rw [← cut_join (datB d) (16 + 8 * k) 4 4, leV_app, List.length_take, List.length_drop, datB_length, show min 4 (64 - (16 + 8 * k)) = 4 by omega, p4, Int.mul_comm]
  rw [← e]
  match k, hk with
  | 0, _ => rw [show 16 + 8 * 0 = 16 from rfl, datB_a0, putL_val8 h.a00 h.a01]; rfl
  | 1, _ => rw [show 16 + 8 * 1 = 24 from rfl, datB_a1, putL_val8 h.a10 h.a11]; rfl
  | 2, _ => rw [show 16 + 8 * 2 = 32 from rfl, datB_a2, putL_val8 h.a20 h.a21]; rfl
  | 3, _ => rw [show 16 + 8 * 3 = 40 from rfl, datB_a3, putL_val8 h.a30 h.a31]; rfl
  | 4, _ => rw [show 16 + 8 * 4 = 48 from rfl, datB_a4, putL_val8 h.a40 h.a41]; rfl
  | 5, _ => rw [show 16 + 8 * 5 = 56 from rfl, datB_a5, putL_val8 h.a50 h.a51]; rfl
instance : DecidableEq Dat := fun a b => decidable_of_iff (a.nr = b.nr ∧ a.arch = b.arch ∧ a.ip = b.ip ∧ a.a0 = b.a0 ∧ a.a1 = b.a1 ∧ a.a2 = b.a2 ∧ a.a3 = b.a3 ∧ a.a4 = b.a4 ∧ a.a5 = b.a5) (by cases a; cases b; simp)
end Go.Proofs.YtohfampfnhfnlaaDoor
namespace Go.Proofs.YtohfampfnhfnlaaDoor
set_option linter.unusedVariables false

/-- The words in order. -/
def tblL (d : Dat) : List Int := [d.nr, d.arch, d.ip % 4294967296, d.ip / 4294967296, d.a0 % 4294967296, d.a0 / 4294967296, d.a1 % 4294967296, d.a1 / 4294967296, d.a2 % 4294967296, d.a2 / 4294967296, d.a3 % 4294967296, d.a3 / 4294967296, d.a4 % 4294967296, d.a4 / 4294967296, d.a5 % 4294967296, d.a5 / 4294967296]
theorem tblL_length (d : Dat) : (tblL d).length = 16 := rfl
theorem lo_ok {x : Int} : 0 ≤ x % 4294967296 ∧ x % 4294967296 < 4294967296 := ⟨Int.emod_nonneg _ (by decide), Int.emod_lt_of_pos _ (by decide)⟩
theorem hi_ok {x : Int} (h0 : 0 ≤ x) (h1 : x < 18446744073709551616) : 0 ≤ x / 4294967296 ∧ x / 4294967296 < 4294967296 := by omega
theorem tblL_ok {d : Dat} (h : d.Ok) {k : Nat} (hk : k < 16) : 0 ≤ (tblL d).getD k 0 ∧ (tblL d).getD k 0 < 4294967296 := by
  match k, hk with
  | 0, _ => exact ⟨h.nr0, h.nr1⟩
  | 1, _ => exact ⟨h.arch0, h.arch1⟩
  | 2, _ => exact lo_ok
  | 3, _ => exact hi_ok h.ip0 h.ip1
  | 4, _ => exact lo_ok
  | 5, _ => exact hi_ok h.a00 h.a01
  | 6, _ => exact lo_ok
  | 7, _ => exact hi_ok h.a10 h.a11
  | 8, _ => exact lo_ok
  | 9, _ => exact hi_ok h.a20 h.a21
  | 10, _ => exact lo_ok
  | 11, _ => exact hi_ok h.a30 h.a31
  | 12, _ => exact lo_ok
  | 13, _ => exact hi_ok h.a40 h.a41
  | 14, _ => exact lo_ok
  | 15, _ => exact hi_ok h.a50 h.a51
  | k + 16, hk => omega
theorem putL8_halves (x : Int) : putL 8 x = putL 4 (x % 4294967296) ++ putL 4 (x / 4294967296) := by
  have e0 : x % 4294967296 % 256 = x % 256 := by omega
  have e1 : x % 4294967296 / 256 % 256 = x / 256 % 256 := by omega
  have e2 : x % 4294967296 / 256 / 256 % 256 = x / 256 / 256 % 256 := by omega
  have e3 : x % 4294967296 / 256 / 256 / 256 % 256 = x / 256 / 256 / 256 % 256 := by omega
  have e4 : x / 4294967296 = x / 256 / 256 / 256 / 256 := by omega
  simp only [putL, List.cons_append, List.nil_append, e0, e1, e2, e3, e4]
/-- The words' bytes are the data's. -/
theorem tblL_bytes (d : Dat) : ((tblL d).map (putL 4)).flatten = datB d := by
  unfold datB
  rw [putL8_halves d.ip, putL8_halves d.a0, putL8_halves d.a1, putL8_halves d.a2, putL8_halves d.a3, putL8_halves d.a4, putL8_halves d.a5]
  simp only [tblL, List.map_cons, List.map_nil, List.flatten_cons, List.flatten_nil, List.append_assoc, List.append_nil]
theorem flat4_at : ∀ (l : List Int) (k : Nat), k < l.length → (((l.map (putL 4)).flatten).drop (4 * k)).take 4 = putL 4 (l.getD k 0)
  | [], k, h => absurd h (by simp)
  | x :: l, 0, _ => by
    rw [Nat.mul_zero, List.drop_zero, List.map_cons, List.flatten_cons, List.take_left' (putL_length 4 x)]; rfl
  | x :: l, k + 1, h => by
    rw [List.map_cons, List.flatten_cons, show 4 * (k + 1) = 4 + 4 * k by omega, ← List.drop_drop, List.drop_left' (putL_length 4 x)]
    exact flat4_at l k (by simpa using h)
/-- The word at a place is the table's. -/
theorem wordV_tbl {d : Dat} (h : d.Ok) {a : Int} (h0 : 0 ≤ a) (hm : a % 4 = 0) (h1 : a < 64) : wordV d a = (tblL d).getD (a / 4).toNat 0 ∧ wordE a = 0 := by
  have e : wordB a = true := decide_eq_true ⟨hm, h1⟩
  have hk : (a / 4).toNat < 16 := by omega
  have ha : a.toNat = 4 * (a / 4).toNat := by omega
  unfold wordV wordE
  rw [e]
  simp only [if_true, and_true]
  obtain ⟨k0, k1⟩ := tblL_ok h hk
  rw [ha, ← tblL_bytes, flat4_at _ _ (by rw [tblL_length]; exact hk), putL_val4 k0 k1]
/-- What the words in order are: the data. -/
theorem tblL_cut {b : List Int} (hB : Byt b) (hl : b.length = 64) {k : Nat} (hk : k < 16) : leV ((b.drop (4 * k)).take 4) = (tblL (datOf b)).getD k 0 := by
  have h := flat4_at (tblL (datOf b)) k (by rw [tblL_length]; exact hk)
  rw [tblL_bytes, datB_datOf hB hl] at h
  obtain ⟨k0, k1⟩ := tblL_ok (datOf_ok hB) hk
  rw [h, putL_val4 k0 k1]
theorem whole_halves (x : Int) : x % 4294967296 + x / 4294967296 * 4294967296 = x := by omega
end Go.Proofs.YtohfampfnhfnlaaDoor
