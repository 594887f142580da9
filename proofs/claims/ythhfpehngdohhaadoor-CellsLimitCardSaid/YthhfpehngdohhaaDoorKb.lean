/- What Code and WithX of the package insn return, and with them all its calls: as the chapter says. Condition: a name is at most 2 to the 40th bytes long. -/
import Derived.Test.YthhfpehngdohhaaDoorKa
namespace Go.Proofs.YthhfpehngdohhaaDoor
open Go.RowKit
set_option linter.unusedVariables false

theorem suffix_eq (s : ByteArray) (h : 1 ≤ s.size) : ((s.extract (s.size - 1) s.size).toList == [120]) = decide (s.toList.getLast? = some 120) := by
  rw [ByteArray.toList_eq, ByteArray.toList_eq]
  obtain ⟨⟨l⟩⟩ := s
  have hl : l ≠ [] := by rintro rfl; exact absurd h (by decide)
  obtain ⟨i, a, rfl⟩ : ∃ i a, l = i ++ [a] := ⟨l.dropLast, l.getLast hl, (List.dropLast_concat_getLast hl).symm⟩
  have hs : (ByteArray.mk ⟨i ++ [a]⟩).size = i.length + 1 := by show (i ++ [a]).length = _; simp
  have e : ((ByteArray.mk ⟨i ++ [a]⟩).extract ((ByteArray.mk ⟨i ++ [a]⟩).size - 1) (ByteArray.mk ⟨i ++ [a]⟩).size).data.toList = [a] := by
    rw [hs]; simp
  rw [e]
  show ([a] == [120]) = decide ((i ++ [a]).getLast? = some 120)
  rw [List.getLast?_concat]
  by_cases ha : a = 120
  · subst ha; simp
  · simp [ha]
theorem suffix_any (s : ByteArray) (w : World) (h1 : 1 ≤ s.size) (h2 : s.size ≤ 6) : Calls Tryd.prog 78 #[.string s, .string ⟨#[120]⟩] w fun e w' =>
    e = .returned (.bool (decide (s.toList.getLast? = some 120))) ∧ w = w' := by
  have q1 : (1 : Int) ≤ s.size := by omega
  have q2 : (s.size : Int) ≤ 6 := by omega
  have q3 : (0 : Int) ≤ (s.size : Int) - 1 := by omega
  have q4 : (s.size : Int) - 1 ≤ s.size := by omega
  go_enter Tryd.func78, Tryd.ntmps78
  go_wp2
  go_ret
  exact ⟨congrArg (fun b => Ending.returned (.bool b)) (suffix_eq s h1), rfl⟩
theorem suffix_c (s : ByteArray) (w : World) (h1 : 1 ≤ s.size) (h2 : s.size ≤ 6) : Calls Tryd.prog 75 #[.string s, .string ⟨#[120]⟩] w fun e w' =>
    e = .returned (.bool (decide (s.toList.getLast? = some 120))) ∧ w = w' := by
  have H := Lib.hid (suffix_any s w h1 h2)
  clear h1 h2
  go_enter Tryd.func75, Tryd.ntmps75
  go_wp2_with (go_at_call 78; ((with_reducible refine H.out.mono ?_); rintro e w1 ⟨rfl, rfl⟩))
  go_ret
  exact ⟨rfl, rfl⟩
theorem wx_no (c xc xk : Int) (xn : ByteArray) (k : Bool) (w : World) (h3 : xk ≠ 3) (h4 : xk ≠ 4)
    (H : Calls Tryd.prog 59 #[.int .u16 c] w fun e w' => e = .returned (.tuple #[.agg #[.int .u16 xc, .int .u8 xk, .string xn], .bool k]) ∧ Below w.heap.size w w') :
    Calls Tryd.prog 73 #[.int .u16 c] w fun e w' => e = .returned (.bool false) ∧ Below w.heap.size w w' := by
  have HH := Lib.hid H
  have e3 := beq_eq_false_iff_ne.2 h3
  have e4 := beq_eq_false_iff_ne.2 h4
  clear H h3 h4
  go_enter Tryd.func73, Tryd.ntmps73
  go_wp2_with (go_at_call 59; ((with_reducible refine HH.out.mono ?_); rintro e w1 ⟨rfl, b1⟩))
  go_ret
  exact ⟨rfl, b1.alloc b1.size _⟩
theorem wx_yes (c xc xk : Int) (xn : ByteArray) (k : Bool) (w : World) (h : xk = 3 ∨ xk = 4) (h1 : 1 ≤ xn.size) (h2 : xn.size ≤ 6)
    (H : Calls Tryd.prog 59 #[.int .u16 c] w fun e w' => e = .returned (.tuple #[.agg #[.int .u16 xc, .int .u8 xk, .string xn], .bool k]) ∧ Below w.heap.size w w') :
    Calls Tryd.prog 73 #[.int .u16 c] w fun e w' => e = .returned (.bool (decide (xn.toList.getLast? = some 120))) ∧ Below w.heap.size w w' := by
  have HH := Lib.hid H
  have HS := Lib.hid (fun W => suffix_c xn W h1 h2)
  clear H h1 h2
  rcases h with rfl | rfl
  · go_enter Tryd.func73, Tryd.ntmps73
    go_wp2_with (first
      | (go_at_call 59; ((with_reducible refine HH.out.mono ?_); rintro e w1 ⟨rfl, b1⟩))
      | (go_at_call 75; ((with_reducible refine (HS.out _).mono ?_); rintro e w2 ⟨rfl, rfl⟩)))
    go_ret
    exact ⟨rfl, b1.alloc b1.size _⟩
  · go_enter Tryd.func73, Tryd.ntmps73
    go_wp2_with (first
      | (go_at_call 59; ((with_reducible refine HH.out.mono ?_); rintro e w1 ⟨rfl, b1⟩))
      | (go_at_call 75; ((with_reducible refine (HS.out _).mono ?_); rintro e w2 ⟨rfl, rfl⟩)))
    go_ret
    exact ⟨rfl, b1.alloc b1.size _⟩
theorem withXC : WithXC := by
  intro c w hG h0 h1
  have H := find_c c w hG
  rcases known_name c with ⟨_, h2, h3⟩ | ⟨_, h2⟩
  · by_cases hk : (ofL allL c).cls = 3 ∨ (ofL allL c).cls = 4
    · have e : withXB c = decide ((ofL allL c).name.toList.getLast? = some 120) := by unfold withXB; simp [hk]
      rw [e]
      exact wx_yes c _ _ _ _ w hk (by omega) h3 H
    · have e : withXB c = false := by unfold withXB; simp [hk]
      rw [e]
      exact wx_no c _ _ _ _ w (fun h => hk (Or.inl h)) (fun h => hk (Or.inr h)) H
  · have e : withXB c = false := by unfold withXB; rw [h2]; decide
    rw [e]
    refine wx_no c _ _ _ _ w ?_ ?_ H
    · rw [h2]; decide
    · rw [h2]; decide
end Go.Proofs.YthhfpehngdohhaaDoor
