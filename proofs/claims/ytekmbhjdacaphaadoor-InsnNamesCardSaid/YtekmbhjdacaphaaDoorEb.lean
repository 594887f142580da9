/- What the call Print of the package insn returns, as the chapter says. Condition: a slice is as long as its capacity allows. -/
import Derived.Test.YtekmbhjdacaphaaDoorEa
import Derived.Test.YtekmbhjdacaphaaDoorRa
namespace Go.Proofs.YtekmbhjdacaphaaDoor
open Go.RowKit
set_option linter.unusedVariables false
attribute [local go_sem] Oper.semAt_some

theorem grown_of_below {w w' : World} (b : Below w.heap.size w w') : w.grownBy w' none := ⟨b.os, b.tape, b.output, b.size, fun k hk _ => b.block k hk⟩
/-- Two rows of unlike elements lie in two blocks. -/
theorem rows_ne {w : World} {B B' n n' s s' : Nat} {e t : TypeId} {v v' : Value} {xs xs' : List Value} (h : w.ownsRow B e s v n xs) (h' : w.ownsRow B' t s' v' n' xs') (hne : e ≠ t) : v.ownBlock = none ∨ v.ownBlock ≠ v'.ownBlock := by
  rcases h.2 with ⟨rfl, _⟩ | ⟨g, cap, cur, rfl, _, hh, _⟩
  · exact .inl rfl
  · right
    intro he
    rcases h'.2 with ⟨rfl, _⟩ | ⟨g', cap', cur', rfl, _, hh', _⟩
    · cases he
    · injection he with he
      have he : g = g' := he
      subst he
      rw [hh] at hh'
      injection hh' with hh'
      injection hh' with _ hh'
      exact hne hh'
/-- An owned row stays where another block turns that does not hold its kind of elements. -/
theorem own_kept {w w' : World} {B n s : Nat} {e : TypeId} {v : Value} {xs : List Value} {row : Option Nat} (h : w.ownsRow B e s v n xs) (hg : w.grownBy w' row) (hr : ∀ r cs, row = some r → w.heap[r]? ≠ some (.cells cs e (0, 0))) : w'.ownsRow B e s v n xs := by
  refine h.kept hg ?_
  rcases h.2 with ⟨rfl, _⟩ | ⟨g, cap, cur, rfl, _, hh, _⟩
  · exact .inl rfl
  · right
    intro he
    exact hr g cur he.symm hh
/-- What a round of the program's own iterator is handed: the bytes of the instruction, in new memory. -/
def PieceAt (l : List Ins) (n₀ : Nat) (s : Nat × Value) (W : World) : Prop := ∃ q d i, s.2 = .slice q 8 d ∧ l[s.1]? = some i ∧ W.ownsRow n₀ 5 1 (.slice q 8 d) 8 (bv (encL i))
theorem no_cells {W : World} {B r : Nat} {row : Option Nat} {cs : Array Value} {t : TypeId} (hr : ∀ r, row = some r → B ≤ r ∧ ∃ o : Obj, W.heap[r]? = some o ∧ o.isCells = false) (e : row = some r) : W.heap[r]? ≠ some (.cells cs t (0, 0)) := by
  obtain ⟨_, o, ho, hc⟩ := hr r e
  intro h
  rw [h] at ho
  cases ho
  cases hc
theorem pieceAt_own (l : List Ins) (n₀ B : Nat) : OwnFrom B (PieceAt l n₀) := by
  rintro ⟨k, x⟩ W W' row ⟨q, d, i, a, b, o⟩ hg hr
  exact ⟨q, d, i, a, b, own_kept o hg fun r cs e => no_cells hr e⟩
theorem pieces_call (p : Option Addr) (n c : Nat) (w : World) : Calls Tryd.prog 26 #[.slice p n c] w fun e w' =>
    e = .returned (.func (.func 34) #[] #[.pointer (some ⟨w.heap.size, 0, none⟩)]) ∧ w' = w.alloc (.cells #[.slice p n c] 33) := by
  go_enter Tryd.func26, Tryd.ntmps26
  go_wp2
  go_ret
  exact ⟨rfl, rfl⟩
set_option maxRecDepth 100000 in
set_option maxHeartbeats 4000000 in
theorem pieces_counts (Bs n₀ n c : Nat) (p : Option Addr) (l : List Ins) (w0 : World) (hl : l.length = n) (hok : OkL l) (hn : n ≤ 4096) (hB : Bs < w0.heap.size) (hn₀ : n₀ ≤ w0.heap.size) (hc : w0.cell? ⟨Bs, 0, none⟩ = some (.slice p n c)) (hR0 : RdI w0 n₀ p l) :
    Counts Tryd.prog 34 #[.pointer (some ⟨Bs, 0, none⟩)] n (PieceAt l n₀) (Below n₀) w0 := by
  intro lp J W hW hJ hY h0
  have hcell : W.cell? ⟨Bs, 0, none⟩ = some (.slice p n c) := (hW.cell (p := ⟨Bs, 0, none⟩) hB).trans hc
  have hR := Lib.hid (hR0.below hW hn₀)
  have HL := Lib.hid hl
  have HO := Lib.hid hok
  have HJ := Lib.hid hJ
  have HY := Lib.hid hY
  have HN := Lib.hid (Nat.le_trans hn₀ hW.size)
  clear hc hR0 hW hB hn₀ hl hok hJ hY
  refine (callsIn_wide (n := 4)).1 ?_
  refine callsIn_of_wp Tryd.func34 rfl trivial ?_ rfl
  simp only [Tryd.ntmps34, List.size_toArray, List.length_cons, List.length_nil, Nat.reduceAdd, Nat.reduceSub, Array.replicate_succ, Array.replicate_zero, List.push_toArray, List.append_toArray, List.nil_append, List.cons_append]
  gi_wp2
  gi_loopw [7] (fun i wr => ∃ k : Nat, k ≤ n ∧ i = .int .i64 k ∧ J k wr ∧ Below n₀ W wr) (fun i _ => n - (intOf i).toNat)
  case atStart => exact ⟨0, Nat.zero_le _, rfl, h0, Below.refl _ _⟩
  case round =>
    obtain ⟨k, hk, rfl, hJs, hnx⟩ := hrel
    by_cases hlt : k < n
    · have hkl : k < l.length := by have := HL.out; omega
      obtain ⟨b, o, rfl, hbb, hcs⟩ := (hR.out.below hnx (Nat.le_refl _)) (by omega)
      have hat := hcs k hkl
      have hio := HO.out.get hkl
      have hli := Lib.hid (List.getElem?_eq_getElem hkl)
      obtain ⟨i, hi⟩ : ∃ i, i = l[k] := ⟨_, rfl⟩
      rw [← hi] at hat hio hli
      obtain ⟨ci, jt, jf, ki⟩ := i
      obtain ⟨a0, a1, a2, a3⟩ := hat
      have HE := Lib.hid (fun W => encodeC ⟨ci, jt, jf, ki⟩ W hio)
      have hnr := Lib.hid (Nat.le_trans HN.out hnx.size)
      clear hi hcs hio hkl hk
      gi_wp2_with (refine ⟨trivial, ?_⟩
                   gi_at_call 22
                   refine (callsIn_wide.2 (HE.out _)).mono ?_
                   rintro e w2 ⟨q, d, rfl, o2, b2⟩
                   have b20 : Below wr.heap.size wr w2 := ((Below.refl _ _).alloc (Nat.le_refl _) _).trans (b2.mono (by simp))
                   have hJ2 := HJ.out k wr w2 none hJs (grown_of_below b20) (fun r e => by cases e)
                   have hn2 := own_mono (B' := n₀) o2 (by have := hnr.out; simp; omega)
                   obtain ⟨fn, tmps, assign, body, hy, hR2⟩ := HY.out k (.slice q 8 d) w2 hlt hJ2 ⟨q, d, _, rfl, hli.out, hn2⟩
                   clear o2 hn2)
      refine hR2.mono ?_
      rintro e W3 ⟨rfl, hJ3, hk3⟩
      gi_wp2
      go_roundw
      case rel => exact ⟨k + 1, by omega, by go_num, hJ3, (hnx.trans (b20.mono hnr.out)).trans hk3⟩
      case measure => simp [intOf]; omega
    · obtain rfl : k = n := by omega
      gi_wp2
      go_end0
      exact ⟨⟨_, rfl⟩, hJs⟩
end Go.Proofs.YtekmbhjdacaphaaDoor
