/- What the document's own digits returns: the decimal digits of a number. Condition: a number of at most 19 digits. -/
import Derived.Test.YtlneiiljdghmjaaDoorAa
import Derived.Laws.IdiomStrings
import Derived.Laws.Concat
namespace Go.Proofs.YtlneiiljdghmjaaDoor
open Go.RowKit
set_option linter.unusedVariables false
attribute [local go_sem ↓] Go.wp_at_zero Go.wp_at_succ

/-- One string behind the other. -/
theorem wpList_cat {ops : Array Oper} {rest : List Oper} {op : Oper} {A B : Operand} {ty yt : TypeId} {a : Act} {w : World} {Q : Exit → Act → World → Prop} {x y : List UInt8} (hgd : op.guard = none) (ho : op.op = .binOp .add ty A B yt)
    (hA : a.eval A = .string (bs x)) (hB : a.eval B = .string (bs y)) (hs : x.length + y.length ≤ 4611686018427387904)
    (h : wpList Tryd.prog ops Q rest (a.put op.dst (.string (bs (x ++ y)))) w) : wpList Tryd.prog ops Q (op :: rest) a w :=
  wpList_plain hgd fun _ hK => by
    have hr : (execOp a.eval op).run Tryd.prog w = .ok (.value (.string (bs (x ++ y)))) w := by
      have := run_string_add_sum (P := Tryd.prog) w (bs x) (bs y) (by rw [bs_size, bs_size]; omega)
      rw [bs_app] at this
      unfold execOp
      rw [ho]
      simp [hA, hB, binOp, this, eqGuard]
    unfold Oper.wp; rw [hr]; exact hK _ _ h
/-- A string of the bytes that lie in memory. -/
theorem wpList_str {ops : Array Oper} {rest : List Oper} {op : Oper} {A : Operand} {a : Act} {w : World} {Q : Exit → Act → World → Prop} {l : List UInt8} {p : Addr} {cap : Nat} (hgd : op.guard = none) (ho : op.op = .convert 36 9 A)
    (hA : a.eval A = .slice (some p) l.length cap) (hc : ∀ j (hj : j < l.length), w.cell? (p.add j) = some (.int .u8 (l[j].toNat : Int)))
    (h : wpList Tryd.prog ops Q rest (a.put op.dst (.string (bs l))) w) : wpList Tryd.prog ops Q (op :: rest) a w :=
  wpList_plain hgd fun _ hK => by
    have hr : (execOp a.eval op).run Tryd.prog w = .ok (.value (.string (bs l))) w := by
      have := run_convert_bytes_back (P := Tryd.prog) w 36 9 5 p cap l Tryd.underlying36 Tryd.underlying5 Tryd.underlying9 hc
      unfold execOp
      rw [ho]
      simp [hA, this]
      rfl
    unfold Oper.wp; rw [hr]; exact hK _ _ h
theorem digit_byte {d : Nat} (h : d < 10) : ((UInt8.ofNat (48 + d)).toNat : Int) = 48 + d := by
  rw [UInt8.toNat_ofNat']; omega
theorem box_byte (w : World) (v : Value) (t : TypeId) : (w.alloc (.cells #[v] t)).cell? ⟨w.heap.size, 0, none⟩ = some v := by
  rw [cell_of_row _ _ _ _ _ (0, 0) (heap_alloc_new w _)]; rfl
theorem str_one (w : World) (d : Nat) (hd : d < 10) (x : Int) (hx : x = 48 + d) (t : TypeId) : ∀ j (hj : j < [UInt8.ofNat (48 + d)].length), (w.alloc (.cells #[.int .u8 x] t)).cell? ((⟨w.heap.size, 0, none⟩ : Addr).add j) = some (.int .u8 ([UInt8.ofNat (48 + d)][j].toNat : Int)) := by
  intro j hj
  match j, hj with
  | 0, _ =>
    show (w.alloc _).cell? ⟨w.heap.size, 0, none⟩ = _
    rw [box_byte, hx]
    exact congrArg (fun v => some (Value.int .u8 v)) (digit_byte hd).symm
set_option maxRecDepth 100000 in
set_option maxHeartbeats 8000000 in
theorem refDigits (n : Nat) (hn : n ≤ 9223372036854775807) (w : World) : Calls Tryd.prog 29 #[.int .i64 n] w fun e w' => e = .returned (.string (bs (digL n))) ∧ Below w.heap.size w w' := by
  have HL := Lib.hid (digL_len (n := n) (by omega))
  go_enter Tryd.func29, Tryd.ntmps29
  go_wp2_with fail
  go_loopw [0, 3] (fun v0 v3 wr => ∃ (m : Nat) (s : List UInt8), v0 = .int .i64 m ∧ v3 = .string (bs s) ∧ m ≤ n ∧ Hid (digL m ++ s = digL n) ∧ Hid (Below w.heap.size w wr)) (fun v0 _ _ => (intOf v0).toNat)
  case atStart => exact ⟨n, [], rfl, rfl, Nat.le_refl _, Lib.hid (List.append_nil _), Lib.hid (Below.refl _ _)⟩
  case round =>
    obtain ⟨m, s, rfl, rfl, hm, HS, HB⟩ := hrel
    obtain ⟨W, rfl⟩ : ∃ wo : World, wo = wr := ⟨_, rfl⟩
    have hs : s.length ≤ 19 := by
      have h1 := HL.out
      rw [← HS.out, List.length_append] at h1
      omega
    obtain ⟨d, hd⟩ : ∃ d, d = m % 10 := ⟨_, rfl⟩
    have hd9 : d < 10 := by rw [hd]; omega
    have hmod : (m : Int).tmod 10 = d := by rw [Int.tmod_eq_emod_of_nonneg (by omega)]; omega
    have hw8 : IntKind.u8.wrap (48 + (d : Int)) = 48 + d := by rw [IntKind.wrap_u8]; omega
    have HST0 := str_one W d hd9 (48 + d) rfl 5
    have HC8 := Lib.hid (show digL m = (if m < 10 then [] else digL (m / 10)) ++ [UInt8.ofNat (48 + d)] from by
      by_cases h : m < 10
      · rw [if_pos h, digL_one h, hd, Nat.mod_eq_of_lt h]; rfl
      · rw [if_neg h, digL_more (by omega), hd])
    obtain ⟨c8, hc8⟩ : ∃ c, c = UInt8.ofNat (48 + d) := ⟨_, rfl⟩
    rw [← hc8] at HST0 HC8
    have HST := Lib.hid HST0
    clear HST0 hc8
    by_cases h : m < 10
    · have t1 : ¬ (10 : Int) ≤ m := by omega
      have hmd : m = d := by omega
      have HS2 := Lib.hid (show [c8] ++ s = digL n from by rw [← HS.out, HC8.out, if_pos h]; rfl)
      have hw9 : IntKind.u8.wrap (48 + (m : Int)) = 48 + d := by rw [hmd]; exact hw8
      clear hd HS hmd
      go_wp2_with (first
        | ((with_reducible show wpList _ _ _ (⟨some 20, _, _, _, _, _⟩ :: _) _ _)
           refine wpList_str (l := [c8]) rfl rfl rfl HST.out ?_)
        | ((with_reducible show wpList _ _ _ (⟨some 22, _, _, _, _, _⟩ :: _) _ _)
           refine wpList_cat rfl rfl rfl rfl (by simp; omega) ?_))
      go_ret
      exact ⟨congrArg (fun l => Ending.returned (.string (bs l))) HS2.out, HB.out.alloc HB.out.size _⟩
    · have t1 : (10 : Int) ≤ m := by omega
      have HS2 := Lib.hid (show digL (m / 10) ++ (c8 :: s) = digL n from by rw [← HS.out, HC8.out, if_neg h, List.append_assoc]; rfl)
      clear hd HS
      go_wp2_with (first
        | ((with_reducible show wpList _ _ _ (⟨some 11, _, _, _, _, _⟩ :: _) _ _)
           refine wpList_str (l := [c8]) rfl rfl rfl HST.out ?_)
        | ((with_reducible show wpList _ _ _ (⟨some 13, _, _, _, _, _⟩ :: _) _ _)
           refine wpList_cat rfl rfl rfl rfl (by simp; omega) ?_))
      go_roundw
      case rel => exact ⟨m / 10, c8 :: s, by simp, rfl, by omega, HS2, Lib.hid (HB.out.alloc HB.out.size _)⟩
      case measure => simp [intOf]; omega
end Go.Proofs.YtlneiiljdghmjaaDoor
