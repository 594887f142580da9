/- What the document's own Reached returns: what is reached. Condition: a program of at most MaxInsns instructions. -/
import Derived.Test.YthhfpehngdohhaaDoorOc
import Derived.Test.YthhfpehngdohhaaDoorFi
namespace Go.Proofs.YthhfpehngdohhaaDoor
open Go.RowKit
set_option linter.unusedVariables false
attribute [local go_sem ↓] Go.wp_at_zero Go.wp_at_succ

/-- A row of truths. -/
def rowB (n : Nat) (f : Nat → Bool) : List Value := (List.range n).map (fun j => Value.bool (f j))
theorem rowB_length (n : Nat) (f : Nat → Bool) : (rowB n f).length = n := by simp [rowB]
theorem rowB_get {n : Nat} (f : Nat → Bool) {j : Nat} (h : j < n) : (rowB n f)[j]? = some (.bool (f j)) := by
  unfold rowB
  rw [List.getElem?_map, List.getElem?_range h]; rfl
theorem rowB_congr {n : Nat} {f g : Nat → Bool} (h : ∀ j, j < n → f j = g j) : rowB n f = rowB n g := by
  unfold rowB
  exact List.map_congr_left fun j hj => by rw [h j (List.mem_range.1 hj)]
theorem rowB_set (n x : Nat) (f : Nat → Bool) : (rowB n f).set x (.bool true) = rowB n (fun j => f j || j == x) := by
  apply List.ext_getElem?
  intro j
  by_cases hj : j < n
  · rw [List.getElem?_set, rowB_get _ hj]
    by_cases e : x = j
    · subst e; rw [if_pos rfl, if_pos (by rw [rowB_length]; exact hj), rowB_get _ hj, beq_self_eq_true, Bool.or_true]
    · rw [if_neg e, rowB_get _ hj, beq_eq_false_iff_ne.2 (fun h => e h.symm), Bool.or_false]
  · rw [List.getElem?_eq_none (by rw [List.length_set, rowB_length]; omega), List.getElem?_eq_none (by rw [rowB_length]; omega)]
theorem made_bools (n : Nat) : (madeCells (Value.bool false).cells (n * 1)).toList = rowB n (fun _ => false) := by
  apply List.ext_getElem?
  intro j
  by_cases hj : j < n
  · rw [rowB_get _ hj]
    unfold madeCells
    rw [Array.getElem?_toList, Array.getElem?_map, Array.getElem?_range, if_pos (by omega)]
    show some ((#[Value.bool false] : Array Value)[j % 1]!) = _
    rw [Nat.mod_one]; rfl
  · rw [List.getElem?_eq_none (by simp [madeCells]; omega), List.getElem?_eq_none (by rw [rowB_length]; omega)]
theorem bool_info : (Tryd.prog.info? 4).map (fun i => (i.zero, i.size, i.bytes)) = some (some (.bool false), 1, 1) := by kernel_rfl
/-- A row of truths of one's own. -/
def BoolsTo (n : Nat) (f : Nat → Bool) (w : World) (e : Ending) (w' : World) : Prop := ∃ q c, e = .returned (.slice q n c) ∧ w'.ownsRow w.heap.size 4 1 (.slice q n c) n (rowB n f) ∧ Below w.heap.size w w'
theorem nextA_nat (p : List Ins) (i : Nat) : nextA p (i : Int) = nextL p i := by
  unfold nextA
  rw [if_pos (by omega), Int.toNat_natCast]
theorem plV_get' {l : List Nat} {i : Nat} (h : i < l.length) : (plV l)[i]? = some (.int .i64 ((l.getD i 0 : Nat) : Int)) := by
  unfold plV
  rw [List.getElem?_map, List.getD_eq_getElem?_getD, List.getElem?_eq_getElem h]; rfl
/-- The slice's cells are the places. -/
theorem pl_cells' {w : World} {B c : Nat} {q : Option Addr} {l : List Nat} (h : w.ownsRow B 3 1 (.slice q l.length c) l.length (plV l)) (h0 : 0 < l.length) : ∃ g, q = some ⟨g, 0, none⟩ ∧ B ≤ g ∧ ∀ i, i < l.length → w.cell? ⟨g, i, none⟩ = some (.int .i64 ((l.getD i 0 : Nat) : Int)) := by
  rcases h.2 with ⟨_, h1⟩ | ⟨g, cap, cur, hv, hb, _⟩
  · omega
  · injection hv with e1 e2 e3
    subst e1
    refine ⟨g, rfl, hb, fun i hi => ?_⟩
    rw [h.cellAt i (by omega)]
    exact plV_get' hi
theorem take_contains {l : List Nat} {k : Nat} (h : k < l.length) (j : Nat) : (l.take (k + 1)).contains j = ((l.take k).contains j || j == l.getD k 0) := by
  have e : l.take (k + 1) = l.take k ++ [l.getD k 0] := by
    rw [List.take_add_one, List.getD_eq_getElem?_getD, List.getElem?_eq_getElem h]; rfl
  rw [Bool.eq_iff_iff, List.contains_iff_mem, Bool.or_eq_true, List.contains_iff_mem, beq_iff_eq, e, List.mem_append, List.mem_singleton]
set_option maxRecDepth 100000 in
set_option maxHeartbeats 16000000 in
theorem refReached (a0 : Option Addr) (n cap : Nat) (p : List Ins) (w : World) (hl : p.length = n) (hn : n ≤ 4096) (hp : OkL p) (hr : RdI w w.heap.size a0 p) :
    Calls Tryd.prog 11 #[.slice a0 n cap] w (BoolsTo n (reachB p) w) := by
  obtain ⟨i0, hi, hz0, hz1, hz2⟩ := info_parts bool_info
  have HI := Lib.hid hi
  have H0 := Lib.hid hz0
  have H1 := Lib.hid hz1
  have hm0 : i0.bytes * n ≤ 281474976710656 := by rw [hz2]; omega
  have hm1 : n ≤ maxLen := by unfold maxLen; omega
  have HL := Lib.hid hl
  have HR := Lib.hid hr
  have HN := Lib.hid (fun (W : World) (i : Nat) (h : Below w.heap.size w W) => refNext a0 n cap p i W hl hn hp ((hr.keep fun q hq => h.cell hq).more h.size))
  have n5 : decide ((4096 : Int) < n) = false := decide_eq_false (by omega)
  have n4 : (n : Int) ≤ 4096 := by omega
  have HE := Lib.hid (show reachB p = mark (nextL p) (fun _ => true) n by unfold reachB; rw [hl])
  clear hi hz0 hz1 hz2 hl hn hp hr
  rw [HE.out]
  obtain ⟨M, hM⟩ : ∃ M, M = mark (nextL p) (fun _ => true) := ⟨_, rfl⟩
  have HM := Lib.hid hM
  rw [← hM]
  clear hM HE
  by_cases hn0 : 0 < n
  · have n1 : (0 : Int) < n := by omega
    go_enter Tryd.func11, Tryd.ntmps11
    go_wp2_with (first
      | (at_make
         refine wpList_make_full _ rfl _ _ 24 rfl w.heap.size 4 i0 _ 1 Tryd.underlying24 HI.out H0.out H1.out .i64 .i64 n n n rfl rfl rfl rfl hm0 hm1 (Nat.le_refl _) ?_
         intro w1 o1 g1
         have b1 : Below w.heap.size w w1 := (Below.refl _ _).grown g1 (Nat.le_refl _) (by intro k hk; cases hk)
         rw [made_bools] at o1
         have s0 : w1.cell? ⟨w.heap.size, 0, none⟩ = some (.bool false) := (o1.cellAt 0 (by omega)).trans (rowB_get _ hn0)
         have f0 := o1.frozenAt 0
         have O1 := Lib.hid (o1.stored 0 (.bool true)).1
         have B1 := Lib.hid (b1.setCell (p := ⟨w.heap.size, 0, none⟩) (Nat.le_refl _) (.bool true))
         clear o1 g1 b1))
    go_loopw [4] (fun v4 wr => ∃ i : Nat, i ≤ n ∧ v4 = .int .i64 i ∧ Hid (wr.ownsRow w.heap.size 4 1 (.slice (some ⟨w.heap.size, 0, none⟩) n n) n (rowB n (M i))) ∧ Hid (Below w.heap.size w wr)) (fun v4 _ => n - (intOf v4).toNat)
    case atStart =>
      refine ⟨0, Nat.zero_le _, rfl, Lib.hid ?_, B1⟩
      have h := O1.out
      rw [rowB_set] at h
      rw [show rowB n (M 0) = rowB n (fun j => false || j == 0) from rowB_congr fun j _ => by rw [HM.out]; simp [mark]]
      exact h
    case round =>
      clear s0 f0 O1 B1
      obtain ⟨i, hi, rfl, HO, HB⟩ := hrel
      obtain ⟨W, rfl⟩ : ∃ wo : World, wo = wr := ⟨_, rfl⟩
      by_cases hlt : i < n
      · have s1 : W.cell? ⟨w.heap.size, i, none⟩ = some (.bool (M i i)) := (HO.out.cellAt i (by omega)).trans (rowB_get _ hlt)
        have i1 : (i : Int) < n := by omega
        have hst := Lib.hid (show ∀ j, M (i + 1) j = (M i j || (M i i && (nextL p i).contains j)) from fun j => by rw [HM.out]; show (_ || (_ && true && _)) = _; rw [Bool.and_true])
        cases hmi : M i i with
        | false =>
          rw [hmi] at s1 hst
          clear hmi
          go_wp2_with fail
          go_roundw
          case rel => exact ⟨i + 1, by omega, by go_num, Lib.hid (by rw [rowB_congr (g := M i) (fun j _ => by rw [hst.out j]; simp)]; exact HO.out), HB⟩
          case measure => simp [intOf]; omega
        | true =>
          rw [hmi] at s1 hst
          clear hmi
          have HNX := Lib.hid (HN.out W i HB.out)
          rw [nextA_nat] at HNX
          obtain ⟨l, hll⟩ : ∃ l, l = nextL p i := ⟨_, rfl⟩
          rw [← hll] at HNX hst
          have HLT := Lib.hid (show ∀ x ∈ l, x < n from fun x hx => by rw [hll] at hx; have := (nextL_lt hx).2; rw [HL.out] at this; exact this)
          have hl2 : l.length ≤ 2 := by rw [hll]; exact nextL_length p i
          obtain ⟨m, hm⟩ : ∃ m, m = l.length := ⟨_, rfl⟩
          unfold NextOf NextTo at HNX
          rw [← hm] at HNX hl2
          have HMM := Lib.hid hm
          clear hll hm
          go_wp2_with (go_at_call 14; ((with_reducible refine (HNX.out).mono ?_); rintro e v2 ⟨q, c, rfl, o2, b2⟩); have O2 := Lib.hid o2; have HO2 := Lib.hid (own_on HO.out b2); have HB2 := Lib.hid (thn HB.out b2); have HG := Lib.hid (show w.heap.size < W.heap.size from (HO.out.lt _ rfl).2); clear o2 b2 s1)
          go_loopw [6] (fun v6 wr => ∃ k : Nat, k ≤ m ∧ v6 = .int .i64 k ∧ Hid (wr.ownsRow w.heap.size 4 1 (.slice (some ⟨w.heap.size, 0, none⟩) n n) n (rowB n (fun j => M i j || (l.take k).contains j))) ∧ Hid (wr.ownsRow W.heap.size 3 1 (.slice q m c) m (plV l)) ∧ Hid (Below w.heap.size w wr)) (fun v6 _ => m - (intOf v6).toNat)
          case atStart => exact ⟨0, Nat.zero_le _, rfl, Lib.hid (by rw [rowB_congr (g := M i) (fun j _ => by simp)]; exact HO2.out), O2, HB2⟩
          case round =>
            clear O2 HO2 HB2
            obtain ⟨k, hk, rfl, P1, P2, P3⟩ := hrel
            obtain ⟨V, rfl⟩ : ∃ wo : World, wo = wr := ⟨_, rfl⟩
            by_cases hlk : k < m
            · have h2 := P2.out
              rw [HMM.out] at h2
              obtain ⟨g, hq, hgB, hc⟩ := pl_cells' h2 (by have := HMM.out; omega)
              subst hq
              have c1 := hc k (by have := HMM.out; omega)
              have htk := Lib.hid (fun j => take_contains (l := l) (k := k) (by have := HMM.out; omega) j)
              have hx := HLT.out (l.getD k 0) (by rw [List.getD_eq_getElem?_getD, List.getElem?_eq_getElem (by have := HMM.out; omega)]; exact List.getElem_mem _)
              obtain ⟨x, hxx⟩ : ∃ x, x = l.getD k 0 := ⟨_, rfl⟩
              rw [← hxx] at c1 htk hx
              have x1 : (x : Int) < n := by omega
              have k1 : (k : Int) < m := by omega
              have k2 : (0 : Int) ≤ k := by omega
              have s2 : V.cell? ⟨w.heap.size, x, none⟩ = some (.bool (M i x || (l.take k).contains x)) := (P1.out.cellAt x (by omega)).trans (rowB_get _ hx)
              have f2 := P1.out.frozenAt x
              have Q1 := Lib.hid (P1.out.stored x (.bool true)).1
              have Q2 := Lib.hid (own_but P2.out (of_set V w.heap.size x (.bool true)) HG.out)
              have Q3 := Lib.hid (P3.out.setCell (p := ⟨w.heap.size, x, none⟩) (Nat.le_refl _) (.bool true))
              clear hc h2 hxx P1 P2 P3
              go_wp2_with fail
              go_roundw
              case rel =>
                refine ⟨k + 1, by omega, by go_num, Lib.hid ?_, Q2, Q3⟩
                have h := Q1.out
                rw [rowB_set] at h
                rw [rowB_congr (g := fun j => (M i j || (l.take k).contains j) || j == x) (fun j _ => by rw [htk.out j, Bool.or_assoc])]
                exact h
              case measure => simp [intOf]; omega
            · obtain rfl : m = k := by omega
              go_wp2_with fail
              go_roundw
              case rel =>
                refine ⟨i + 1, by omega, by go_num, Lib.hid ?_, P3⟩
                have h := P1.out
                rw [List.take_of_length_le (by rw [← HMM.out]; exact Nat.le_refl _)] at h
                rw [rowB_congr (g := fun j => M i j || l.contains j) (fun j _ => by rw [hst.out j, Bool.true_and])]
                exact h
              case measure => simp [intOf]; omega
      · obtain rfl : n = i := by omega
        go_wp2_with fail
        go_ret
        exact ⟨_, _, rfl, HO.out, HB.out⟩
  · obtain rfl : n = 0 := by omega
    go_enter Tryd.func11, Tryd.ntmps11
    go_wp2_with (first
      | (at_make
         refine wpList_make_full _ rfl _ _ 24 rfl w.heap.size 4 i0 _ 1 Tryd.underlying24 HI.out H0.out H1.out .i64 .i64 0 0 0 rfl rfl rfl rfl hm0 hm1 (Nat.le_refl _) ?_
         intro w1 o1 g1
         have b1 : Below w.heap.size w w1 := (Below.refl _ _).grown g1 (Nat.le_refl _) (by intro k hk; cases hk)
         rw [made_bools] at o1
         have O1 := Lib.hid o1
         clear o1 g1))
    go_loopw [4] (fun v4 wr => v4 = .int .i64 0 ∧ wr = w1) (fun v4 _ => 0 - (intOf v4).toNat)
    case atStart => exact ⟨rfl, rfl⟩
    case round =>
      obtain ⟨rfl, rfl⟩ := hrel
      go_wp2_with fail
      go_ret
      exact ⟨_, _, rfl, O1.out, b1⟩
end Go.Proofs.YthhfpehngdohhaaDoor
