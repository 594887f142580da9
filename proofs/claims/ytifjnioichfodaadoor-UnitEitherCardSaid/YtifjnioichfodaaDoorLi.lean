/- What the document's own Split returns; what the calls of the package lines have to return, as the chapter says it; what the statements' own small calls return over it. -/
import Derived.Test.YtifjnioichfodaaDoorLf
import Derived.Lib.SlBytesConst
import Derived.Deep.QuietTactic
import Derived.BigQuiet
namespace Go.Proofs.YtifjnioichfodaaDoor
open Go.RowKit
set_option linter.unusedVariables false
set_option linter.unusedSimpArgs false
attribute [local go_sem ↓] Go.wp_at_zero Go.wp_at_succ

theorem refSplit (a0 : Option Addr) (n cap : Nat) (l : List UInt8) (w : World) (hl : l.length = n) (hn : n ≤ 1000000) (hc : n ≤ cap) (hm : cap ≤ maxLen) (hr : RdB w w.heap.size a0 l) : Calls Tryd.prog 23 #[.slice a0 n cap] w fun e w' =>
    ∃ v, e = .returned (.tuple #[v, .int .i64 (splE l)]) ∧ LnsAt w' v (splL l) ∧ Below w.heap.size w w' := by
  by_cases h1 : 65536 < n
  · have e1 : splE l = 3 := by unfold splE; rw [if_pos (by omega)]
    have e2 : splL l = [] := by unfold splL; rw [if_pos (by omega)]
    rw [e1, e2]
    have n1 : (65536 : Int) < n := by omega
    clear e1 e2 hl hr h1
    go_enter Tryd.func23, Tryd.ntmps23
    go_wp2_with fail
    go_ret2
    exact ⟨_, rfl, LnsAt.nil _, Below.refl _ _⟩
  · by_cases h2 : 1000 < (linL l).length
    · have e1 : splE l = 4 := by unfold splE; rw [if_neg (by omega), if_pos h2]
      have e2 : splL l = [] := by unfold splL; rw [if_neg (by omega), if_pos h2]
      rw [e1, e2]
      have n1 : ¬ (65536 : Int) < n := by omega
      have HLN := Lib.hid (refLines a0 n cap l w hl (by omega) hc hm hr)
      obtain ⟨N, hN⟩ : ∃ N, N = (linL l).length := ⟨_, rfl⟩
      rw [← hN] at h2 HLN
      have n2 : (1000 : Int) < N := by omega
      clear e1 e2 hl hr h1 hN h2
      go_enter Tryd.func23, Tryd.ntmps23
      go_wp2_with (go_at_call 36; ((with_reducible refine (HLN.out).mono ?_); rintro e W1 ⟨q, c, rfl, o1, b1⟩))
      go_ret2
      exact ⟨_, rfl, LnsAt.nil _, b1⟩
    · have e1 : splE l = 0 := by unfold splE; rw [if_neg (by omega), if_neg h2]
      have e2 : splL l = logR (linL l).length (linL l) := by unfold splL; rw [if_neg (by omega), if_neg h2]
      rw [e1, e2]
      exact split_log a0 n cap l w hl (by omega) (by omega) hc hm hr
/-- What lines.Split, Trim, Comment, Count have to return, over what must lie in memory. -/
structure LinesC (G : World → Prop) : Prop where
  on : ∀ {w w' : World}, G w → Below w.heap.size w w' → G w'
  split : ∀ (a0 : Option Addr) (n cap : Nat) (l : List UInt8) (w : World), G w → l.length = n → n ≤ 140737488355328 → n ≤ cap → cap ≤ maxLen → (a0 = none → cap = 0) → RdB w w.heap.size a0 l → Calls Tryd.prog 19 #[.slice a0 n cap] w fun e w' =>
    ∃ v, e = .returned (.tuple #[v, .int .i64 (splE l)]) ∧ LnsAt w' v (splL l) ∧ Below w.heap.size w w'
  trim : ∀ (s : ByteArray) (w : World), G w → s.size ≤ maxLen → Calls Tryd.prog 32 #[.string s] w fun e w' => e = .returned (.string (bs (trimL s.data.toList))) ∧ Below w.heap.size w w'
  comment : ∀ (s : ByteArray) (w : World), G w → s.size ≤ maxLen → Calls Tryd.prog 54 #[.string s] w fun e w' => e = .returned (.bool (comL s.data.toList)) ∧ Below w.heap.size w w'
  count : ∀ (a0 : Option Addr) (n cap : Nat) (l : List UInt8) (w : World), G w → l.length = n → n ≤ 140737488355328 → n ≤ cap → cap ≤ maxLen → (a0 = none → cap = 0) → RdB w w.heap.size a0 l → Calls Tryd.prog 34 #[.slice a0 n cap] w fun e w' =>
    e = .returned (.int .i64 ((linL l).length : Nat)) ∧ Below w.heap.size w w'
/-- The bytes of a string, in memory of their own. -/
theorem wpList_bytes12 {ops : Array Oper} {rest : List Oper} {op : Oper} {A : Operand} {a : Act} {w : World} {Q : Exit → Act → World → Prop} {l : List UInt8} (hgd : op.guard = none) (ho : op.op = .convert 9 22 A)
    (hA : a.eval A = .string (bs l)) (hl : l.length ≤ maxLen)
    (h : ∀ (w1 : World) (cap : Nat), Below w.heap.size w w1 → RdB w1 w1.heap.size (some ⟨w.heap.size, 0, none⟩) l → l.length ≤ cap → cap ≤ maxLen → wpList Tryd.prog ops Q rest (a.put op.dst (.slice (some ⟨w.heap.size, 0, none⟩) l.length cap)) w1) : wpList Tryd.prog ops Q (op :: rest) a w :=
  wpList_plain hgd fun _ hK => by
    have hrun := run_bytes_of_string (P := Tryd.prog) w 9 22 5 (bs l) Tryd.underlying9 Tryd.underlying22 Tryd.underlying5
    rw [bs_size] at hrun
    have hge := grownCap_ge w l.length 0 5
    have hle := grownCap_le_maxLen w l.length 0 5 hl
    obtain ⟨cp, hcp⟩ : ∃ c, c = grownCap w l.length 0 5 := ⟨_, rfl⟩
    rw [← hcp] at hrun hge hle
    have hc : ∀ (j : Nat) (hj : j < l.length), (bytesRow (bs l) cp)[j]? = some (.int .u8 (l[j].toNat : Int)) := fun j hj => by
      unfold bytesRow bs
      rw [Array.getElem?_append_left (by simp; exact hj)]
      simp [hj]
    have hr : (execOp a.eval op).run Tryd.prog w = .ok (.value (.slice (some ⟨w.heap.size, 0, none⟩) l.length cp)) (w.drew.alloc (.cells (bytesRow (bs l) cp) 5 ((bytesRow (bs l) cp).size, (bytesRow (bs l) cp).size + 1))) := by
      unfold execOp
      rw [ho]
      simp [hA, hrun]
    unfold Oper.wp
    rw [hr]
    refine hK _ _ (h _ cp ((Below.refl _ _).drew.alloc (Nat.le_refl _) _) (fun h0 => ⟨w.heap.size, 0, rfl, by simp, fun j hj => ?_⟩) hge hle)
    rw [Nat.zero_add, show w.heap.size = w.drew.heap.size from rfl, World.cell?_alloc_mark]; exact hc j hj
theorem lns_lit (w : World) (O : List (Nat × List UInt8)) (t : TypeId) : LnsAt (w.alloc (.cells (lnC O).toArray t)) (.slice (some ⟨w.heap.size, 0, none⟩) O.length O.length) O := by
  refine ⟨_, _, rfl, fun k p hk => ⟨w.heap.size, 0, rfl, ?_, ?_⟩⟩
  · rw [Nat.zero_add, cell_of_row _ _ _ _ _ (0, 0) (heap_alloc_new w _), List.getElem?_toArray]
    exact (lnC_get hk).1
  · rw [Nat.zero_add, cell_of_row _ _ _ _ _ (0, 0) (heap_alloc_new w _), List.getElem?_toArray]
    exact (lnC_get hk).2
end Go.Proofs.YtifjnioichfodaaDoor
