/- What the document's own Digits, ErrnoName, All, Flags of the names return. Condition: none. -/
import Derived.Test.YtfmfjnnbldmdlaaDoorJb
namespace Go.Proofs.YtfmfjnnbldmdlaaDoor
open Go.RowKit
set_option linter.unusedVariables false
set_option linter.unusedSimpArgs false
attribute [local go_sem ↓] Go.wp_at_zero Go.wp_at_succ

def db (n : Nat) : UInt8 := UInt8.ofNat (48 + n)
/-- The decimal digits of a number of at most four. -/
def dig4 (n : Nat) : List UInt8 :=
  if n < 10 then [db n] else if n < 100 then [db (n / 10), db (n % 10)] else if n < 1000 then [db (n / 100), db (n / 10 % 10), db (n % 10)] else [db (n / 1000), db (n / 100 % 10), db (n / 10 % 10), db (n % 10)]
def bs10 (l : List UInt8) : ByteArray := ⟨l.toArray⟩
theorem db_byte {d : Nat} (h : d < 10) : ((db d).toNat : Int) = 48 + d := by unfold db; rw [UInt8.toNat_ofNat']; omega
theorem bs10_app (a b : List UInt8) : bs10 a ++ bs10 b = bs10 (a ++ b) := by
  apply ByteArray.ext
  show (bs10 a ++ bs10 b).data = _
  rw [ByteArray.data_append]
  simp [bs10]
theorem bs10_size (l : List UInt8) : (bs10 l).size = l.length := by show l.toArray.size = _; simp
theorem wpList_cat10 {ops : Array Oper} {rest : List Oper} {op : Oper} {A B : Operand} {ty yt : TypeId} {a : Act} {w : World} {Q : Exit → Act → World → Prop} {x y : List UInt8} (hgd : op.guard = none) (ho : op.op = .binOp .add ty A B yt)
    (hA : a.eval A = .string (bs10 x)) (hB : a.eval B = .string (bs10 y)) (hs : x.length + y.length ≤ 4611686018427387904)
    (h : wpList Tryd.prog ops Q rest (a.put op.dst (.string (bs10 (x ++ y)))) w) : wpList Tryd.prog ops Q (op :: rest) a w :=
  wpList_plain hgd fun _ hK => by
    have hr : (execOp a.eval op).run Tryd.prog w = .ok (.value (.string (bs10 (x ++ y)))) w := by
      have := run_string_add_sum (P := Tryd.prog) w (bs10 x) (bs10 y) (by rw [bs10_size, bs10_size]; omega)
      rw [bs10_app] at this
      unfold execOp
      rw [ho]
      simp [hA, hB, binOp, this, eqGuard]
    unfold Oper.wp; rw [hr]; exact hK _ _ h
theorem wpList_str10 {ops : Array Oper} {rest : List Oper} {op : Oper} {A : Operand} {a : Act} {w : World} {Q : Exit → Act → World → Prop} {l : List UInt8} {p : Addr} {cap : Nat} (hgd : op.guard = none) (ho : op.op = .convert 83 9 A)
    (hA : a.eval A = .slice (some p) l.length cap) (hc : ∀ j (hj : j < l.length), w.cell? (p.add j) = some (.int .u8 (l[j].toNat : Int)))
    (h : wpList Tryd.prog ops Q rest (a.put op.dst (.string (bs10 l))) w) : wpList Tryd.prog ops Q (op :: rest) a w :=
  wpList_plain hgd fun _ hK => by
    have hr : (execOp a.eval op).run Tryd.prog w = .ok (.value (.string (bs10 l))) w := by
      have := run_convert_bytes_back (P := Tryd.prog) w 83 9 5 p cap l Tryd.underlying83 Tryd.underlying5 Tryd.underlying9 hc
      unfold execOp
      rw [ho]
      simp [hA, this]
      rfl
    unfold Oper.wp; rw [hr]; exact hK _ _ h
theorem box_byte10 (w : World) (v : Value) (t : TypeId) : (w.alloc (.cells #[v] t)).cell? ⟨w.heap.size, 0, none⟩ = some v := by
  rw [cell_of_row _ _ _ _ _ (0, 0) (heap_alloc_new w _)]; rfl
theorem str_one10 (w : World) (d : Nat) (hd : d < 10) (x : Int) (hx : x = 48 + d) (t : TypeId) : ∀ j (hj : j < [db d].length), (w.alloc (.cells #[.int .u8 x] t)).cell? ((⟨w.heap.size, 0, none⟩ : Addr).add j) = some (.int .u8 ([db d][j].toNat : Int)) := by
  intro j hj
  match j, hj with
  | 0, _ =>
    show (w.alloc _).cell? ⟨w.heap.size, 0, none⟩ = _
    rw [box_byte10, hx]
    exact congrArg (fun v => some (Value.int .u8 v)) (db_byte hd).symm
/-- What Digits returns. -/
def DigTo (l : List UInt8) (w : World) (e : Ending) (w' : World) : Prop := e = .returned (.string (bs10 l)) ∧ Below w.heap.size w w'
set_option maxRecDepth 100000 in
theorem digits_one (n : Nat) (hn : n < 10) (w : World) : Calls Tryd.prog 39 #[.int .u32 n] w (DigTo [db n] w) := by
  have i1 : (n : Int) < 10 := by omega
  have u1 : IntKind.u32.wrap (48 + (n : Int)) = 48 + n := by rw [IntKind.wrap_u32]; omega
  have u2 : IntKind.u8.wrap (48 + (n : Int)) = 48 + n := by rw [IntKind.wrap_u8]; omega
  have HC := Lib.hid (str_one10 w n hn (48 + n) rfl 5)
  clear hn
  go_enter Tryd.func39, Tryd.ntmps39
  go_wp2_with ((with_reducible show wpList _ _ _ (⟨some 9, _, _, _, _, _⟩ :: _) _ _)
               refine wpList_str10 (l := [db n]) rfl rfl rfl HC.out ?_)
  go_ret
  exact ⟨rfl, (Below.refl _ _).alloc (Nat.le_refl _) _⟩
set_option maxRecDepth 100000 in
theorem digits_more (n : Nat) (h10 : 10 ≤ n) (hn : n < 4294967296) (l : List UInt8) (hl : l.length ≤ 10) (HQ : ∀ W, Calls Tryd.prog 39 #[.int .u32 (n / 10 : Nat)] W (DigTo l W)) (w : World) : Calls Tryd.prog 39 #[.int .u32 n] w (DigTo (l ++ [db (n % 10)]) w) := by
  have i1 : ¬ (n : Int) < 10 := by omega
  have e1 : Int.tdiv (n : Int) 10 = ((n / 10 : Nat) : Int) := by rw [Int.tdiv_eq_ediv_of_nonneg (by omega)]; omega
  have e2 : Int.tmod (n : Int) 10 = ((n % 10 : Nat) : Int) := by rw [Int.tmod_eq_emod_of_nonneg (by omega)]; omega
  have u1 : IntKind.u32.wrap ((n / 10 : Nat) : Int) = ((n / 10 : Nat) : Int) := by rw [IntKind.wrap_u32]; omega
  have u2 : IntKind.u32.wrap ((n % 10 : Nat) : Int) = ((n % 10 : Nat) : Int) := by rw [IntKind.wrap_u32]; omega
  have HQ := Lib.hid HQ
  have HD := Lib.hid (fun W => digits_one (n % 10) (by omega) W)
  obtain ⟨a, ha⟩ : ∃ a, a = n / 10 := ⟨_, rfl⟩
  obtain ⟨b, hb⟩ : ∃ a, a = n % 10 := ⟨_, rfl⟩
  rw [← ha] at HQ e1 u1
  rw [← hb] at HD e2 u2 ⊢
  obtain ⟨d, hd⟩ : ∃ d, d = db b := ⟨_, rfl⟩
  rw [← hd] at HD ⊢
  unfold DigTo at HQ HD ⊢
  clear ha hb hd h10 hn
  go_enter Tryd.func39, Tryd.ntmps39
  go_wp2_with (first
    | (go_at_call 39; ((with_reducible refine (HQ.out _).mono ?_); rintro e w1 ⟨rfl, b1⟩))
    | (go_at_call 39; ((with_reducible refine (HD.out _).mono ?_); rintro e w2 ⟨rfl, b2⟩))
    | ((with_reducible show wpList _ _ _ (⟨some 16, _, _, _, _, _⟩ :: _) _ _)
       refine wpList_cat10 (x := l) (y := [d]) rfl rfl rfl rfl (by simp; omega) ?_))
  go_ret
  exact ⟨rfl, b1.trans (b2.mono b1.size)⟩
/-- What Digits returns of a number up to 4095. -/
theorem refDigits10 (n : Nat) (hn : n < 10000) (w : World) : Calls Tryd.prog 39 #[.int .u32 n] w (DigTo (dig4 n) w) := by
  have h1 : ∀ m, m < 10 → ∀ W, Calls Tryd.prog 39 #[.int .u32 (m : Nat)] W (DigTo [db m] W) := fun m hm W => digits_one m hm W
  unfold dig4
  by_cases a1 : n < 10
  · rw [if_pos a1]; exact h1 n a1 w
  · rw [if_neg a1]
    by_cases a2 : n < 100
    · rw [if_pos a2]; exact digits_more n (by omega) (by omega) _ (by simp) (h1 (n / 10) (by omega)) w
    · rw [if_neg a2]
      have h2 : ∀ m, 10 ≤ m → m < 100 → ∀ W, Calls Tryd.prog 39 #[.int .u32 (m : Nat)] W (DigTo [db (m / 10), db (m % 10)] W) := fun m g1 g2 W => digits_more m g1 (by omega) [db (m / 10)] (by simp) (h1 (m / 10) (by omega)) W
      by_cases a3 : n < 1000
      · rw [if_pos a3]
        have := digits_more n (by omega) (by omega) _ (by simp) (h2 (n / 10) (by omega) (by omega)) w
        rw [Nat.div_div_eq_div_mul] at this
        exact this
      · rw [if_neg a3]
        have h3 : ∀ m, 100 ≤ m → m < 1000 → ∀ W, Calls Tryd.prog 39 #[.int .u32 (m : Nat)] W (DigTo [db (m / 100), db (m / 10 % 10), db (m % 10)] W) := fun m g1 g2 W => by
          have := digits_more m (by omega) (by omega) _ (by simp) (h2 (m / 10) (by omega) (by omega)) W
          rw [Nat.div_div_eq_div_mul] at this
          exact this
        have := digits_more n (by omega) (by omega) _ (by simp) (h3 (n / 10) (by omega) (by omega)) w
        rw [Nat.div_div_eq_div_mul, Nat.div_div_eq_div_mul] at this
        exact this
/-- The text of an errno. -/
def errnoNameR (n : Nat) : ByteArray := match nameR errnoT n with | some t => t | none => if n < 4096 then bs10 (dig4 n) else ⟨#[]⟩
theorem name_mem : ∀ {l : List En10} {n : Nat} {t : ByteArray}, nameR l n = some t → ∃ e ∈ l, e.1 = t
  | [], _, _, h => by cases h
  | e :: r, n, t, h => by
    unfold nameR at h
    split at h
    · injection h with h; exact ⟨e, List.mem_cons_self .., h⟩
    · obtain ⟨e', h1, h2⟩ := name_mem h
      exact ⟨e', List.mem_cons_of_mem _ h1, h2⟩
theorem errno_full : ∀ e ∈ errnoT, e.1.toList.isEmpty = false := by decide +kernel
set_option maxRecDepth 100000 in
theorem refErrnoName (n : Nat) (hn : n < 4294967296) (w : World) : Calls Tryd.prog 28 #[.int .u32 n] w fun e w' => e = .returned (.string (errnoNameR n)) ∧ Below w.heap.size w w' := by
  have HT := Lib.hid (refErrnos w)
  have HF := Lib.hid (fun W (h : RowsN W w.heap.size errnoT) => refName errnoT w.heap.size n W (by decide) h (by omega))
  have HD := Lib.hid (fun (h : n < 4096) W => refDigits10 n (by omega) W)
  have u1 : IntKind.u64.wrap (n : Int) = n := by rw [IntKind.wrap_u64]; omega
  rw [Int.toNat_natCast] at HF
  have HV := Lib.hid (show errnoNameR n = match nameR errnoT n with | some t => t | none => if n < 4096 then bs10 (dig4 n) else ⟨#[]⟩ from rfl)
  unfold TabTo at HT
  unfold DigTo at HD
  cases hf : nameR errnoT n with
  | some t =>
    rw [hf] at HF HV
    obtain ⟨e, he, rfl⟩ := name_mem hf
    have e1 := errno_full e he
    obtain ⟨t, ht⟩ : ∃ t, t = e.1 := ⟨_, rfl⟩
    rw [← ht] at HF HV e1
    clear hf he ht hn
    go_enter Tryd.func28, Tryd.ntmps28
    go_wp2_with (first
      | (go_at_call 37; ((with_reducible refine (HT.out).mono ?_); rintro e w1 ⟨rfl, r1, b1⟩); have R1 := Lib.hid r1; have B1 := Lib.hid b1; clear r1 b1)
      | (go_at_call 38; ((with_reducible refine (HF.out _ R1.out).mono ?_); rintro e w2 ⟨rfl, rfl⟩)))
    go_ret
    exact ⟨by rw [HV.out]; rfl, B1.out⟩
  | none =>
    rw [hf] at HF HV
    by_cases h4 : n < 4096
    · have i1 : (n : Int) < 4096 := by omega
      have HV2 := Lib.hid (show errnoNameR n = bs10 (dig4 n) by rw [HV.out]; show (if n < 4096 then _ else _) = _; rw [if_pos h4])
      have HD2 := Lib.hid (HD.out h4)
      clear hf h4 hn HD
      go_enter Tryd.func28, Tryd.ntmps28
      go_wp2_with (first
        | (go_at_call 37; ((with_reducible refine (HT.out).mono ?_); rintro e w1 ⟨rfl, r1, b1⟩); have R1 := Lib.hid r1; have B1 := Lib.hid b1; clear r1 b1)
        | (go_at_call 38; ((with_reducible refine (HF.out _ R1.out).mono ?_); rintro e w2 ⟨rfl, rfl⟩))
        | (go_at_call 39; ((with_reducible refine (HD2.out _).mono ?_); rintro e w3 ⟨rfl, b3⟩)))
      go_ret
      exact ⟨by rw [HV2.out]; rfl, B1.out.trans (b3.mono B1.out.size)⟩
    · have i1 : ¬ (n : Int) < 4096 := by omega
      have HV2 := Lib.hid (show errnoNameR n = ⟨#[]⟩ by rw [HV.out]; show (if n < 4096 then _ else _) = _; rw [if_neg h4])
      clear hf h4 hn HD
      go_enter Tryd.func28, Tryd.ntmps28
      go_wp2_with (first
        | (go_at_call 37; ((with_reducible refine (HT.out).mono ?_); rintro e w1 ⟨rfl, r1, b1⟩); have R1 := Lib.hid r1; have B1 := Lib.hid b1; clear r1 b1)
        | (go_at_call 38; ((with_reducible refine (HF.out _ R1.out).mono ?_); rintro e w2 ⟨rfl, rfl⟩)))
      go_ret
      exact ⟨by rw [HV2.out]; rfl, B1.out⟩
end Go.Proofs.YtfmfjnnbldmdlaaDoor
