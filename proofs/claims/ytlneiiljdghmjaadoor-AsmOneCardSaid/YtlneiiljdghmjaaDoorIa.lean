/- Instructions as lists of bytes: what an instruction's bytes are, what bytes an instruction is, a program's bytes; plain lists and integers, no program. -/
import Derived.Test.YtlneiiljdghmjaaDoorMa
namespace Go.Proofs.YtlneiiljdghmjaaDoor
set_option linter.unusedVariables false

/-- An instruction: its code, its two short jumps, its constant. -/
structure Ins where
  c : Int
  jt : Int
  jf : Int
  k : Int
/-- Each number fits its kind. -/
structure Ins.Ok (i : Ins) : Prop where
  c0 : 0 ≤ i.c
  c1 : i.c < 65536
  t0 : 0 ≤ i.jt
  t1 : i.jt < 256
  f0 : 0 ≤ i.jf
  f1 : i.jf < 256
  k0 : 0 ≤ i.k
  k1 : i.k < 4294967296
def OkL (l : List Ins) : Prop := ∀ i ∈ l, i.Ok
/-- The 8 bytes of an instruction. -/
def encL (i : Ins) : List Int := putL 2 i.c ++ [i.jt, i.jf] ++ putL 4 i.k
/-- The instruction of 8 bytes. -/
def decL (b : List Int) : Ins := ⟨leV (b.take 2), b.getD 2 0, b.getD 3 0, leV ((b.drop 4).take 4)⟩
/-- The bytes of a program. -/
def progB (l : List Ins) : List Int := l.flatMap encL
/-- The program of bytes, eight by eight: n instructions. -/
def progI : Nat → List Int → List Ins
  | 0, _ => []
  | n + 1, b => decL (b.take 8) :: progI n (b.drop 8)

theorem encL_length (i : Ins) : (encL i).length = 8 := by simp [encL, putL_length]
theorem encL_byt {i : Ins} (h : i.Ok) : Byt (encL i) :=
  ((putL_byt _ _).app (Byt.cons h.t0 h.t1 (Byt.cons h.f0 h.f1 Byt.nil))).app (putL_byt _ _)
theorem OkL.nil : OkL [] := fun _ h => by cases h
theorem OkL.cons {i : Ins} {l : List Ins} (h : i.Ok) (k : OkL l) : OkL (i :: l) := fun x hx => by
  rcases List.mem_cons.1 hx with rfl | hx
  · exact h
  · exact k x hx
theorem OkL.app {l m : List Ins} (h : OkL l) (k : OkL m) : OkL (l ++ m) := fun x hx => by
  rcases List.mem_append.1 hx with hx | hx
  · exact h x hx
  · exact k x hx
theorem OkL.tail {i : Ins} {l : List Ins} (h : OkL (i :: l)) : OkL l := fun x hx => h x (List.mem_cons_of_mem _ hx)
theorem OkL.head {i : Ins} {l : List Ins} (h : OkL (i :: l)) : i.Ok := h i (List.mem_cons_self ..)
theorem OkL.take {l : List Ins} (h : OkL l) (n : Nat) : OkL (l.take n) := fun x hx => h x (List.mem_of_mem_take hx)
theorem OkL.drop {l : List Ins} (h : OkL l) (n : Nat) : OkL (l.drop n) := fun x hx => h x (List.mem_of_mem_drop hx)
theorem OkL.get {l : List Ins} (h : OkL l) {n : Nat} (hn : n < l.length) : (l[n]).Ok := h _ (List.getElem_mem hn)
theorem progB_byt : ∀ {l : List Ins}, OkL l → Byt (progB l)
  | [], _ => Byt.nil
  | i :: r, h => (encL_byt h.head).app (progB_byt h.tail)
theorem progB_length : ∀ (l : List Ins), (progB l).length = 8 * l.length
  | [] => rfl
  | i :: r => by
    have := progB_length r
    show (encL i ++ progB r).length = _
    rw [List.length_append, encL_length, this, List.length_cons]; omega
theorem progB_app (l m : List Ins) : progB (l ++ m) = progB l ++ progB m := List.flatMap_append
theorem progB_snoc (l : List Ins) (i : Ins) : progB (l ++ [i]) = progB l ++ encL i := by rw [progB_app]; simp [progB]
theorem progB_cons (i : Ins) (l : List Ins) : progB (i :: l) = encL i ++ progB l := rfl
theorem decL_ok {b : List Int} (h : Byt b) : (decL b).Ok := by
  have h1 := leV_lt (h.take 2)
  have h2 := leV_lt ((h.drop 4).take 4)
  have h3 : (256 : Int) ^ (b.take 2).length ≤ 65536 := by
    have hn : (256 : Nat) ^ (b.take 2).length ≤ 256 ^ 2 := Nat.pow_le_pow_right (by decide) (by rw [List.length_take]; omega)
    have e : ((256 ^ (b.take 2).length : Nat) : Int) = 256 ^ (b.take 2).length := by rw [Int.natCast_pow]; rfl
    have h3 : (256 : Nat) ^ 2 = 65536 := rfl
    omega
  have h4 : (256 : Int) ^ ((b.drop 4).take 4).length ≤ 4294967296 := by
    have hn : (256 : Nat) ^ ((b.drop 4).take 4).length ≤ 256 ^ 4 := Nat.pow_le_pow_right (by decide) (by rw [List.length_take]; omega)
    have e : ((256 ^ ((b.drop 4).take 4).length : Nat) : Int) = 256 ^ ((b.drop 4).take 4).length := by rw [Int.natCast_pow]; rfl
    have h3 : (256 : Nat) ^ 4 = 4294967296 := rfl
    omega
  exact ⟨leV_nonneg (h.take 2), by show leV (b.take 2) < _; omega, (h.getD 2).1, (h.getD 2).2, (h.getD 3).1, (h.getD 3).2, leV_nonneg ((h.drop 4).take 4), by show leV ((b.drop 4).take 4) < _; omega⟩
theorem dec_enc {i : Ins} (h : i.Ok) : decL (encL i) = i := by
  obtain ⟨c, jt, jf, k⟩ := i
  have e1 : (encL ⟨c, jt, jf, k⟩).take 2 = putL 2 c := by unfold encL; rw [List.append_assoc, List.take_left' (putL_length 2 c)]
  have e2 : ((encL ⟨c, jt, jf, k⟩).drop 4).take 4 = putL 4 k := by
    unfold encL
    rw [List.drop_left' (by simp [putL_length]), List.take_of_length_le (by rw [putL_length]; exact Nat.le_refl _)]
  have e3 : (encL ⟨c, jt, jf, k⟩).getD 2 0 = jt := rfl
  have e4 : (encL ⟨c, jt, jf, k⟩).getD 3 0 = jf := rfl
  have m1 : leV (putL 2 c) = c := by
    rw [leV_putL]
    have : (256 : Int) ^ 2 = 65536 := by decide
    rw [this]; exact Int.emod_eq_of_lt h.c0 h.c1
  have m2 : leV (putL 4 k) = k := by
    rw [leV_putL]
    have : (256 : Int) ^ 4 = 4294967296 := by decide
    rw [this]; exact Int.emod_eq_of_lt h.k0 h.k1
  unfold decL
  rw [e1, e2, e3, e4, m1, m2]
theorem enc_dec {b : List Int} (h : Byt b) (hl : b.length = 8) : encL (decL b) = b := by
  match b, hl with
  | [b0, b1, b2, b3, b4, b5, b6, b7], _ =>
    have h1 := putL_leV [b0, b1] (h.take 2)
    have h2 := putL_leV [b4, b5, b6, b7] ((h.drop 4).take 4)
    simp only [List.length_cons, List.length_nil] at h1 h2
    show putL 2 (leV [b0, b1]) ++ [b2, b3] ++ putL 4 (leV [b4, b5, b6, b7]) = _
    rw [h1, h2]; rfl
theorem progI_length : ∀ (n : Nat) (b : List Int), (progI n b).length = n
  | 0, _ => rfl
  | n + 1, b => by simp [progI, progI_length n]
theorem progI_ok : ∀ (n : Nat) {b : List Int}, Byt b → OkL (progI n b)
  | 0, _, _ => OkL.nil
  | n + 1, b, h => OkL.cons (decL_ok (h.take 8)) (progI_ok n (h.drop 8))
theorem progI_progB : ∀ {l : List Ins}, OkL l → progI l.length (progB l) = l
  | [], _ => rfl
  | i :: r, h => by
    show decL ((encL i ++ progB r).take 8) :: progI r.length ((encL i ++ progB r).drop 8) = _
    rw [List.take_left' (encL_length i), List.drop_left' (encL_length i), dec_enc h.head, progI_progB h.tail]
theorem progB_progI : ∀ (n : Nat) {b : List Int}, Byt b → b.length = 8 * n → progB (progI n b) = b
  | 0, b, _, hl => by
    obtain rfl : b = [] := List.eq_nil_of_length_eq_zero (by omega)
    rfl
  | n + 1, b, h, hl => by
    show encL (decL (b.take 8)) ++ progB (progI n (b.drop 8)) = b
    rw [enc_dec (h.take 8) (by rw [List.length_take]; omega), progB_progI n (h.drop 8) (by rw [List.length_drop]; omega), List.take_append_drop]
theorem progI_snoc : ∀ (n : Nat) (b : List Int), progI (n + 1) b = progI n b ++ [decL ((b.drop (8 * n)).take 8)]
  | 0, b => by simp [progI]
  | n + 1, b => by
    have h := progI_snoc n (b.drop 8)
    show decL (b.take 8) :: progI (n + 1) (b.drop 8) = _
    rw [h, List.drop_drop]
    have e : 8 + 8 * n = 8 * (n + 1) := by omega
    rw [e]; rfl
theorem progB_inj {l m : List Ins} (h : OkL l) (k : OkL m) (e : progB l = progB m) : l = m := by
  have hl : l.length = m.length := by
    have h1 := progB_length l
    have h2 := progB_length m
    rw [e] at h1; omega
  have h1 := progI_progB h
  rw [e, hl, progI_progB k] at h1
  exact h1.symm
instance : Inhabited Ins := ⟨⟨0, 0, 0, 0⟩⟩
instance : DecidableEq Ins := fun a b => decidable_of_iff (a.c = b.c ∧ a.jt = b.jt ∧ a.jf = b.jf ∧ a.k = b.k) (by cases a; cases b; simp)
/-- Are the two programs the same? -/
def sameI (l m : List Ins) : Bool := decide (l = m)
theorem sameI_true {l m : List Ins} (h : l = m) : sameI l m = true := by unfold sameI; exact decide_eq_true h
theorem sameI_false {l m : List Ins} (h : l ≠ m) : sameI l m = false := by unfold sameI; exact decide_eq_false h
end Go.Proofs.YtlneiiljdghmjaaDoor
