/- What the call Parse of the package insn returns, as the chapter says. Condition: a slice is as long as its capacity allows. -/
import Derived.Test.YtekmbhjdacaphaaDoorEc
import Derived.RegionIn
import Derived.IntWalk
namespace Go.Proofs.YtekmbhjdacaphaaDoor
open Go.RowKit Go.Shelf
set_option linter.unusedVariables false
attribute [local go_sem] Oper.semAt_some

/-- What a round of the library's iterator is handed: the k-th eight bytes of the slice. -/
def ChunkAt (p : Option Addr) (s : Nat × Value) (_ : World) : Prop := ∃ b o, p = some ⟨b, o, none⟩ ∧ s.2 = .slice (some ⟨b, o + 8 * s.1, none⟩) 8 8
theorem chunkAt_own (p : Option Addr) (B : Nat) : OwnFrom B (ChunkAt p) := fun _ _ _ _ h _ _ => h
/-- What a round must keep: what lay below n₀, and two more blocks. -/
def Keep2 (n₀ a b : Nat) (V V' : World) : Prop := Below n₀ V V' ∧ V.heap.size ≤ V'.heap.size ∧ V'.heap[a]? = V.heap[a]? ∧ V'.heap[b]? = V.heap[b]?
theorem Keep2.refl (n₀ a b : Nat) (V : World) : Keep2 n₀ a b V V := ⟨Below.refl _ _, Nat.le_refl _, rfl, rfl⟩
theorem Keep2.trans {n₀ a b : Nat} {A B C : World} (h : Keep2 n₀ a b A B) (k : Keep2 n₀ a b B C) : Keep2 n₀ a b A C := ⟨h.1.trans k.1, Nat.le_trans h.2.1 k.2.1, k.2.2.1.trans h.2.2.1, k.2.2.2.trans h.2.2.2⟩
theorem keep2_b {n₀ a b : Nat} {w : World} (hn : n₀ ≤ w.heap.size) (ha : a < w.heap.size) (hb : b < w.heap.size) (V : World) (l : Nat) (o o' : Obj) (hl : w.heap.size ≤ l) (h : V.heap[l]? = some o) (hc : o.isCells = false) (hw : o.isWalk = false) : Keep2 n₀ a b V (V.putObj l o') :=
  ⟨belowK_b hn V l o o' hl h hc hw, by simp, World.putObj_heap_other (by omega), World.putObj_heap_other (by omega)⟩
theorem cell_of_block {V W : World} {a : Nat} {v : Value} (h : W.cell? ⟨a, 0, none⟩ = some v) (hk : V.heap[a]? = W.heap[a]?) : V.cell? ⟨a, 0, none⟩ = some v := by
  rw [World.cell?_of_block (a := ⟨a, 0, none⟩) hk]; exact h
theorem chunk_call (p : Option Addr) (n c : Nat) (w : World) : Calls Tryd.prog 27 #[.slice p n c, .int .i64 8] w fun e w' =>
    e = .returned (.func (.func 35) #[] #[.pointer (some ⟨w.heap.size, 0, none⟩), .pointer (some ⟨w.heap.size + 1, 0, none⟩)]) ∧ w' = (w.alloc (.cells #[.slice p n c] 34)).alloc (.cells #[.int .i64 8] 3) := by
  go_enter Tryd.func27, Tryd.ntmps27
  go_wp2
  go_ret
  exact ⟨rfl, rfl⟩
set_option maxRecDepth 100000 in
set_option maxHeartbeats 4000000 in
theorem chunk_counts (Bs Bn n₀ n c N : Nat) (p : Option Addr) (w0 : World) (hN : n = 8 * N) (hn : N ≤ 4096) (hnc : n ≤ c) (hc : c ≤ maxLen) (hp : 0 < n → ∃ b o, p = some ⟨b, o, none⟩) (hs : Bs < w0.heap.size) (hm : Bn < w0.heap.size)
    (c1 : w0.cell? ⟨Bs, 0, none⟩ = some (.slice p n c)) (c2 : w0.cell? ⟨Bn, 0, none⟩ = some (.int .i64 8)) :
    Counts Tryd.prog 35 #[.pointer (some ⟨Bs, 0, none⟩), .pointer (some ⟨Bn, 0, none⟩)] N (ChunkAt p) (Keep2 n₀ Bs Bn) w0 := by
  intro lp J W hW hJ hY h0
  have d1 : W.cell? ⟨Bs, 0, none⟩ = some (.slice p n c) := (hW.cell (p := ⟨Bs, 0, none⟩) hs).trans c1
  have d2 : W.cell? ⟨Bn, 0, none⟩ = some (.int .i64 8) := (hW.cell (p := ⟨Bn, 0, none⟩) hm).trans c2
  have HJ := Lib.hid hJ
  have HY := Lib.hid hY
  have D1 := Lib.hid d1
  have D2 := Lib.hid d2
  have HP := Lib.hid hp
  have HN := Lib.hid hN
  have hcm : c ≤ 9223372036854775807 := by unfold maxLen at hc; omega
  clear c1 c2 d1 d2 hW hs hm hJ hY hp hN hc
  refine (callsIn_wide (n := 4)).1 ?_
  refine callsIn_of_wp Tryd.func35 rfl trivial ?_ rfl
  simp only [Tryd.ntmps35, List.size_toArray, List.length_cons, List.length_nil, Nat.reduceAdd, Nat.reduceSub, Array.replicate_succ, Array.replicate_zero, List.push_toArray, List.append_toArray, List.nil_append, List.cons_append]
  gi_wp2
  gi_loopw [4] (fun i wr => ∃ m k : Nat, m ≤ n ∧ i = .int .i64 m ∧ Hid (m = 8 * k) ∧ J k wr ∧ Keep2 n₀ Bs Bn W wr) (fun i _ => n - (intOf i).toNat)
  case atStart => exact ⟨0, 0, Nat.zero_le _, rfl, rfl, h0, Keep2.refl _ _ _ _⟩
  case round =>
    obtain ⟨m, k, hk, rfl, hmk, hJs, hnx⟩ := hrel
    have e1 := cell_of_block D1.out hnx.2.2.1
    have e2 := cell_of_block D2.out hnx.2.2.2
    by_cases hlt : m < n
    · obtain ⟨b, o, rfl⟩ := HP.out (by omega)
      have h8 : m + 8 ≤ n := by have := hmk.out; have := HN.out; omega
      have m0 : (0 : Int) ≤ m := by omega
      have m1 : (m : Int) ≤ n := by omega
      have m2 : ¬ c = m := by omega
      have m3 : (8 : Int) ≤ (n : Int) - m := by omega
      have m4 : (m : Int) + 8 ≤ c := by omega
      have m5 : (m : Int) ≤ m + 8 := by omega
      have m6 : IntKind.i64.wrap ((m : Int) + 8) = m + 8 := IntWalk.i64_in _ (by omega)
      have HX := Lib.hid (show ChunkAt (some ⟨b, o, none⟩) (k, .slice (some ⟨b, o + m, none⟩) 8 8) wr from ⟨b, o, rfl, by show Value.slice (some ⟨b, o + m, none⟩) 8 8 = .slice (some ⟨b, o + 8 * k, none⟩) 8 8; rw [hmk.out]⟩)
      have hk' : k < N := by have := hmk.out; have := HN.out; omega
      have m7 : min (8 : Int) ((n - m : Nat) : Int) = 8 := by omega
      have m8 : ((m : Int) + 8).toNat = m + 8 := by omega
      have hJ2 := HJ.out k wr wr.drew none hJs (grown_of_below (Below.refl _ _).drew) (fun r e => by cases e)
      obtain ⟨fn, tmps, assign, body, hy, hR2⟩ := HY.out k (.slice (some ⟨b, o + m, none⟩) 8 8) wr.drew hk' hJ2 HX.out
      gi_wp2
      gi_region
      gi_wp2
      refine hR2.mono ?_
      rintro e W3 ⟨rfl, hJ3, hk3⟩
      have hk4 : Keep2 n₀ Bs Bn wr W3 := ⟨⟨hk3.1.os, hk3.1.tape, hk3.1.output, hk3.1.size, hk3.1.block⟩, hk3.2⟩
      have f2 := cell_of_block e2 hk4.2.2.2
      clear hy hk3
      gi_wp2
      go_roundw
      case rel => exact ⟨m + 8, k + 1, h8, by go_num, by have := hmk.out; show m + 8 = 8 * (k + 1); omega, hJ3, hnx.trans hk4⟩
      case measure => simp [intOf]; omega
    · obtain rfl : m = n := by omega
      obtain rfl : k = N := by have := hmk.out; have := HN.out; omega
      gi_wp2
      go_end0
      exact ⟨⟨_, rfl⟩, hJs⟩
theorem parseBadC : ParseBadC := by
  intro p n c w h hm
  have h1 : (((n : Int) % 8) != 0) = true := by simp; omega
  have h2 : ¬ (n : Int) % 8 = 0 := by omega
  clear h
  go_enter Tryd.func18, Tryd.ntmps18
  go_wp2
  go_ret2
  exact ⟨rfl, Below.refl _ _⟩
theorem parseLongC : ParseLongC := by
  intro p n c w h hn hm
  have h1 : (((n : Int) % 8) != 0) = false := by simp; omega
  have h2 : (4096 : Int) < (n : Int) / 8 := by omega
  have h3 : (n : Int).tdiv 8 = (n : Int) / 8 := Int.tdiv_eq_ediv_of_nonneg (by omega)
  clear h
  go_enter Tryd.func18, Tryd.ntmps18
  go_wp2
  go_ret2
  exact ⟨rfl, Below.refl _ _⟩
end Go.Proofs.YtekmbhjdacaphaaDoor
