/- What the document's own Split returns; what the calls of the package lines have to return, as the chapter says it; what the statements' own small calls return over it. -/
import Derived.Test.YtagmlphhmjdaiaaDoorLf
import Derived.Lib.SlBytesConst
import Derived.Deep.QuietTactic
import Derived.BigQuiet
namespace Go.Proofs.YtagmlphhmjdaiaaDoor
open Go.RowKit
set_option linter.unusedVariables false
set_option linter.unusedSimpArgs false
attribute [local go_sem ↓] Go.wp_at_zero Go.wp_at_succ

theorem refSplit (a0 : Option Addr) (n cap : Nat) (l : List UInt8) (w : World) (hl : l.length = n) (hn : n ≤ 1000000) (hc : n ≤ cap) (hm : cap ≤ maxLen) (hr : RdB w w.heap.size a0 l) : Calls Tryd.prog 9 #[.slice a0 n cap] w fun e w' =>
    ∃ v, e = .returned (.tuple #[v, .int .i64 (splE l)]) ∧ LnsAt w' v (splL l) ∧ Below w.heap.size w w' := by
  by_cases h1 : 65536 < n
  · have e1 : splE l = 3 := by unfold splE; rw [if_pos (by omega)]
    have e2 : splL l = [] := by unfold splL; rw [if_pos (by omega)]
    rw [e1, e2]
    have n1 : (65536 : Int) < n := by omega
    clear e1 e2 hl hr h1
    go_enter Tryd.func9, Tryd.ntmps9
    go_wp2_with fail
    go_ret2
    exact ⟨_, rfl, LnsAt.nil _, Below.refl _ _⟩
  · by_cases h2 : 1000 < (linL l).length
    · have e1 : splE l = 4 := by unfold splE; rw [if_neg (by omega), if_pos h2]
      have e2 : splL l = [] := by unfold splL; rw [if_neg (by omega), if_pos h2]
      rw [e1, e2]
      have n1 : ¬ (65536 : Int) < n := by omega
      have HLN := Lib.hid (refLines a0 n cap l w hl (by omega) hc hm hr)
      obtain ⟨N, hN⟩ : ∃ N, N = (linL l).length := ⟨_, rfl⟩
      rw [← hN] at h2 HLN
      have n2 : (1000 : Int) < N := by omega
      clear e1 e2 hl hr h1 hN h2
      go_enter Tryd.func9, Tryd.ntmps9
      go_wp2_with (go_at_call 11; ((with_reducible refine (HLN.out).mono ?_); rintro e W1 ⟨q, c, rfl, o1, b1⟩))
      go_ret2
      exact ⟨_, rfl, LnsAt.nil _, b1⟩
    · have e1 : splE l = 0 := by unfold splE; rw [if_neg (by omega), if_neg h2]
      have e2 : splL l = logR (linL l).length (linL l) := by unfold splL; rw [if_neg (by omega), if_neg h2]
      rw [e1, e2]
      exact split_log a0 n cap l w hl (by omega) (by omega) hc hm hr
/-- What lines.Split, Trim, Comment, Count have to return, over what must lie in memory. -/
structure LinesC (G : World → Prop) : Prop where
  on : ∀ {w w' : World}, G w → Below w.heap.size w w' → G w'
  split : ∀ (a0 : Option Addr) (n cap : Nat) (l : List UInt8) (w : World), G w → l.length = n → n ≤ 140737488355328 → n ≤ cap → cap ≤ maxLen → (a0 = none → cap = 0) → RdB w w.heap.size a0 l → Calls Tryd.prog 8 #[.slice a0 n cap] w fun e w' =>
    ∃ v, e = .returned (.tuple #[v, .int .i64 (splE l)]) ∧ LnsAt w' v (splL l) ∧ Below w.heap.size w w'
  trim : ∀ (s : ByteArray) (w : World), G w → s.size ≤ maxLen → Calls Tryd.prog 13 #[.string s] w fun e w' => e = .returned (.string (bs (trimL s.data.toList))) ∧ Below w.heap.size w w'
  comment : ∀ (s : ByteArray) (w : World), G w → s.size ≤ maxLen → Calls Tryd.prog 15 #[.string s] w fun e w' => e = .returned (.bool (comL s.data.toList)) ∧ Below w.heap.size w w'
  count : ∀ (a0 : Option Addr) (n cap : Nat) (l : List UInt8) (w : World), G w → l.length = n → n ≤ 140737488355328 → n ≤ cap → cap ≤ maxLen → (a0 = none → cap = 0) → RdB w w.heap.size a0 l → Calls Tryd.prog 10 #[.slice a0 n cap] w fun e w' =>
    e = .returned (.int .i64 ((linL l).length : Nat)) ∧ Below w.heap.size w w'
/-- The bytes of a string, in memory of their own. -/
theorem wpList_bytes12 {ops : Array Oper} {rest : List Oper} {op : Oper} {A : Operand} {a : Act} {w : World} {Q : Exit → Act → World → Prop} {l : List UInt8} (hgd : op.guard = none) (ho : op.op = .convert 9 22 A)
    (hA : a.eval A = .string (bs l)) (hl : l.length ≤ maxLen)
    (h : ∀ (w1 : World) (cap : Nat), Below w.heap.size w w1 → RdB w1 w1.heap.size (some ⟨w.heap.size, 0, none⟩) l → l.length ≤ cap → cap ≤ maxLen → wpList Tryd.prog ops Q rest (a.put op.dst (.slice (some ⟨w.heap.size, 0, none⟩) l.length cap)) w1) : wpList Tryd.prog ops Q (op :: rest) a w :=
  wpList_plain hgd fun _ hK => by
    have hrun := run_bytes_of_string (P := Tryd.prog) w 9 22 5 (bs l) Tryd.underlying9 Tryd.underlying22 Tryd.underlying5
    rw [bs_size] at hrun
    have hge := grownCap_ge w l.length 0 5
    have hle := grownCap_le_maxLen w l.length 0 5 hl
    obtain ⟨cp, hcp⟩ : ∃ c, c = grownCap w l.length 0 5 := ⟨_, rfl⟩
    rw [← hcp] at hrun hge hle
    have hc : ∀ (j : Nat) (hj : j < l.length), (bytesRow (bs l) cp)[j]? = some (.int .u8 (l[j].toNat : Int)) := fun j hj => by
      unfold bytesRow bs
      rw [Array.getElem?_append_left (by simp; exact hj)]
      simp [hj]
    have hr : (execOp a.eval op).run Tryd.prog w = .ok (.value (.slice (some ⟨w.heap.size, 0, none⟩) l.length cp)) (w.drew.alloc (.cells (bytesRow (bs l) cp) 5 ((bytesRow (bs l) cp).size, (bytesRow (bs l) cp).size + 1))) := by
      unfold execOp
      rw [ho]
      simp [hA, hrun]
    unfold Oper.wp
    rw [hr]
    refine hK _ _ (h _ cp ((Below.refl _ _).drew.alloc (Nat.le_refl _) _) (fun h0 => ⟨w.heap.size, 0, rfl, by simp, fun j hj => ?_⟩) hge hle)
    rw [Nat.zero_add, show w.heap.size = w.drew.heap.size from rfl, World.cell?_alloc_mark]; exact hc j hj
theorem lns_lit (w : World) (O : List (Nat × List UInt8)) (t : TypeId) : LnsAt (w.alloc (.cells (lnC O).toArray t)) (.slice (some ⟨w.heap.size, 0, none⟩) O.length O.length) O := by
  refine ⟨_, _, rfl, fun k p hk => ⟨w.heap.size, 0, rfl, ?_, ?_⟩⟩
  · rw [Nat.zero_add, cell_of_row _ _ _ _ _ (0, 0) (heap_alloc_new w _), List.getElem?_toArray]
    exact (lnC_get hk).1
  · rw [Nat.zero_add, cell_of_row _ _ _ _ _ (0, 0) (heap_alloc_new w _), List.getElem?_toArray]
    exact (lnC_get hk).2
theorem of_c (k : Int) (x : ByteArray) (w : World) : Calls Tryd.prog 17 #[.int .i64 k, .string x] w fun e w' => e = .returned (.agg #[.int .i64 k, .string x]) ∧ Below w.heap.size w w' := by
  go_enter Tryd.func17, Tryd.ntmps17
  go_wp2
  refine bodyPost_ret (v := .agg #[.int .i64 k, .string x]) (by simp [results, Tryd.results17, go_sem]) rfl ⟨rfl, ?_⟩
  exact (Below.refl _ _).alloc (Nat.le_refl _) _
set_option maxRecDepth 100000 in
set_option maxHeartbeats 8000000 in
theorem is_yes {G : World → Prop} (HC : LinesC G) (l : List UInt8) (hl : l.length ≤ 140737488355328) (v : Value) (O : List (Nat × List UInt8)) (hE : splE l = 0) (hO : splL l = O) (w : World) (hG : G w) (hv : LnsAt w v O) :
    Calls Tryd.prog 18 #[.string (bs l), v] w fun e w' => e = .returned (.bool true) ∧ Below w.heap.size w w' := by
  have HSP := Lib.hid (fun (W : World) (a0 : Option Addr) (n cap : Nat) (g : G W) (h1 : l.length = n) (h2 : n ≤ cap) (h3 : cap ≤ maxLen) (h4 : a0 = none → cap = 0) (h5 : RdB W W.heap.size a0 l) => HC.split a0 n cap l W g h1 (by omega) h2 h3 h4 h5)
  rw [hE, hO] at HSP
  have HON := Lib.hid (fun (w w' : World) => HC.on (w := w) (w' := w'))
  have HG := Lib.hid hG
  have hO1 : O.length ≤ 1000 := by rw [← hO]; exact splL_len l
  obtain ⟨q, c, rfl, hc⟩ := hv
  have HV := Lib.hid hc
  obtain ⟨n, hn⟩ : ∃ n, n = O.length := ⟨_, rfl⟩
  have HN := Lib.hid hn
  rw [← hn] at hO1 ⊢
  clear HC hG hE hO hc hn
  go_enter Tryd.func18, Tryd.ntmps18
  go_wp2_with (first
    | ((with_reducible show wpList _ _ _ (⟨some 10, _, _, _, _, _⟩ :: _) _ _)
       refine wpList_bytes12 (l := l) rfl rfl rfl (by unfold maxLen; omega) ?_
       intro W1 c1 b1 r1 h1 h2
       have B1 := Lib.hid b1
       have R1 := Lib.hid r1
       have G1 := Lib.hid (HON.out _ _ HG.out b1)
       clear b1 r1)
    | (go_at_call 8; ((with_reducible refine (HSP.out _ _ _ _ G1.out rfl h1 h2 (fun h => by cases h) R1.out).mono ?_); rintro e W2 ⟨v2, rfl, s2, b2⟩); have B2 := Lib.hid (thn B1.out b2); obtain ⟨q2, c2, rfl, hc2⟩ := s2; have HV2 := Lib.hid hc2; clear hc2 b2; rw [← HN.out]))
  go_loopw [7] (fun v7 wr => ∃ k : Nat, k ≤ n ∧ v7 = .int .i64 k ∧ Hid (Below W2.heap.size W2 wr)) (fun v7 _ => n - (intOf v7).toNat)
  case atStart => exact ⟨0, by omega, rfl, Lib.hid (Below.refl _ _)⟩
  case round =>
    obtain ⟨k, hk, rfl, PB⟩ := hrel
    obtain ⟨V, rfl⟩ : ∃ wo : World, wo = wr := ⟨_, rfl⟩
    by_cases hlt : k < n
    · have hx : O[k]? = some (O[k]'(by rw [← HN.out]; exact hlt)) := List.getElem?_eq_getElem _
      obtain ⟨p, hp⟩ : ∃ p, p = O[k]'(by rw [← HN.out]; exact hlt) := ⟨_, rfl⟩
      rw [← hp] at hx
      obtain ⟨g1, o1, rfl, d1, d2⟩ := HV.out k p hx
      obtain ⟨g2, o2, rfl, d3, d4⟩ := HV2.out k p hx
      have BV := thn B2.out PB.out
      have c1 := (BV.cell (World.block_lt_of_cell? w _ d1)).trans d1
      have c2 := (BV.cell (World.block_lt_of_cell? w _ d2)).trans d2
      have c3 := (PB.out.cell (World.block_lt_of_cell? W2 _ d3)).trans d3
      have c4 := (PB.out.cell (World.block_lt_of_cell? W2 _ d4)).trans d4
      obtain ⟨x, hx1⟩ : ∃ x, x = ((p.1 : Nat) : Int) := ⟨_, rfl⟩
      obtain ⟨y, hy1⟩ : ∃ x, x = bs p.2 := ⟨_, rfl⟩
      rw [← hx1] at c1 c3
      rw [← hy1] at c2 c4
      have k1 : (k : Int) < n := by omega
      have k0 : (0 : Int) ≤ k := by omega
      have hw1 : IntKind.i64.wrap ((k : Int) + 1) = k + 1 := by rw [IntKind.wrap_i64]; omega
      have t1 : (x == x) = true := by simp
      have t2 : (y.toList == y.toList) = true := by simp
      clear hx hp d1 d2 d3 d4 hx1 hy1 BV
      go_wp2_with fail
      go_quiet (fail)
      go_wp2_with fail
      go_roundw
      case rel => exact ⟨k + 1, by omega, by go_num, Lib.hid (below_drewN PB.out _)⟩
      case measure => simp [intOf]; omega
    · obtain rfl : k = n := by omega
      have k1 : ¬ (k : Int) < k := by omega
      go_wp2_with fail
      go_ret
      exact ⟨rfl, thn B2.out PB.out⟩
end Go.Proofs.YtagmlphhmjdaiaaDoor
