/- The statement InsnNames holds: two codes that are known have unlike names; a name's code has that name; one that is known has a class. No condition. -/
import Derived.Test.YtekmbhjdacaphaaDoorRows
import Derived.Test.YtekmbhjdacaphaaDoorCards
import Derived.Test.YtekmbhjdacaphaaDoorTie
import Derived.SevenTiedAt
import Derived.Test.YtekmbhjdacaphaaDoorFr
import Derived.Test.YtekmbhjdacaphaaDoorLw
import Derived.Test.YtekmbhjdacaphaaDoorIt
namespace Go.Proofs.YtekmbhjdacaphaaDoor.insnNames
open Go.ChangeShapes Go.WideShapes Go.ChangeAt Go.RowKit
open Go.ChangeMaps (open_string shut_string)
set_option linter.unusedVariables false

theorem unlike : ∀ o ∈ allL, ∀ o' ∈ allL, o.name = o'.name → o.code = o'.code := by
  have h : allL.all (fun o => allL.all fun o' => decide (o.name = o'.name → o.code = o'.code)) = true := by decide +kernel
  intro o ho o' ho'
  exact of_decide_eq_true (List.all_eq_true.1 (List.all_eq_true.1 h o ho) o' ho')
theorem ofL_code : ∀ (l : List One) (c : Int), ofL l c = noOne ∨ (ofL l c ∈ l ∧ (ofL l c).code = c)
  | [], _ => Or.inl rfl
  | o :: r, c => by
    by_cases h : o.code = c
    · right
      have e : ofL (o :: r) c = o := if_pos h
      rw [e]; exact ⟨List.mem_cons_self .., h⟩
    · have e : ofL (o :: r) c = ofL r c := if_neg h
      rw [e]
      rcases ofL_code r c with h1 | ⟨h1, h2⟩
      · exact Or.inl h1
      · exact Or.inr ⟨List.mem_cons_of_mem _ h1, h2⟩
theorem codeL_some : ∀ {l : List One} {o : One}, o ∈ l → ∃ o', codeL l o.name = some o' ∧ o' ∈ l ∧ o'.name = o.name
  | a :: r, o, h => by
    by_cases he : a.name = o.name
    · exact ⟨a, if_pos he, List.mem_cons_self .., he⟩
    · have e : codeL (a :: r) o.name = codeL r o.name := if_neg he
      rcases List.mem_cons.1 h with rfl | h
      · exact absurd rfl he
      · obtain ⟨o', h1, h2, h3⟩ := codeL_some h
        exact ⟨o', by rw [e]; exact h1, List.mem_cons_of_mem _ h2, h3⟩
theorem known_cases (c : Int) : (ofL allL c = noOne ∧ knownB c = false) ∨ (ofL allL c ∈ allL ∧ (ofL allL c).code = c ∧ knownB c = true) := by
  rcases ofL_code allL c with h | ⟨h1, h2⟩
  · left; exact ⟨h, by unfold knownB; rw [h]; decide⟩
  · right
    have := allL_good _ h1
    exact ⟨h1, h2, decide_eq_true (by omega)⟩
theorem code_name {c : Int} (h1 : ofL allL c ∈ allL) (h2 : (ofL allL c).code = c) : codeV (ofL allL c).name = c ∧ codeB (ofL allL c).name = true := by
  obtain ⟨o', e, h3, h4⟩ := codeL_some h1
  unfold codeV codeB
  rw [e]
  refine ⟨?_, rfl⟩
  show o'.code = c
  rw [unlike o' h3 _ h1 h4]; exact h2
theorem code_none : codeB noOne.name = false := by decide +kernel
set_option maxHeartbeats 4000000 in
set_option maxRecDepth 100000 in
theorem both (HC : InsnC) (a0 a1 xk cv : Int) (na nb : ByteArray) (w : World) (hG : GW w) (hx : (xk != 0) = true) (hna : na.toList.isEmpty = false) (hne : (a0 != a1) = true) (hnn : (na.toList == nb.toList) = false)
    (HKa : Hid (∀ W : World, GW W → Calls Tryd.prog 10 #[.int .u16 a0] W fun e w' => e = .returned (.bool true) ∧ Below W.heap.size W w'))
    (HKb : Hid (∀ W : World, GW W → Calls Tryd.prog 10 #[.int .u16 a1] W fun e w' => e = .returned (.bool true) ∧ Below W.heap.size W w'))
    (HNa : Hid (∀ W : World, GW W → Calls Tryd.prog 13 #[.int .u16 a0] W fun e w' => e = .returned (.string na) ∧ Below W.heap.size W w'))
    (HNb : Hid (∀ W : World, GW W → Calls Tryd.prog 13 #[.int .u16 a1] W fun e w' => e = .returned (.string nb) ∧ Below W.heap.size W w'))
    (HOa : Hid (∀ W : World, GW W → Calls Tryd.prog 12 #[.int .u16 a0] W fun e w' => e = .returned (.int .u8 xk) ∧ Below W.heap.size W w'))
    (HCa : Hid (∀ W : World, GW W → Calls Tryd.prog 8 #[.string na] W fun e w' => e = .returned (.tuple #[.int .u16 a0, .bool true]) ∧ Below W.heap.size W w')) :
    Calls Tryd.prog 5 #[.int .u16 a0, .int .u16 a1] w fun e w' => e = .returned (.bool true) ∧ Below w.heap.size w w' := by
  have HW := Lib.hid (fun W hG => awake2_any HC W hG)
  have HG := Lib.hid hG
  have r3 : (ByteArray.mk #[]).toList.isEmpty = true := by rw [ByteArray.toList_eq]; rfl
  clear HC hG
  have hb0 : Below w.heap.size w w := Below.refl _ _
  go_enter Tryd.func5, Tryd.ntmps5
  go_wp2_with (first
    | (go_at_call 16; ((with_reducible refine (HW.out _ (HG.out.on hb0)).mono ?_); rintro e w1 ⟨rfl, b1⟩; replace hb0 := thn hb0 b1; clear b1))
    | (go_at_call 10; ((with_reducible refine (HKa.out _ (HG.out.on hb0)).mono ?_); rintro e w1 ⟨rfl, b1⟩; replace hb0 := thn hb0 b1; clear b1))
    | (go_at_call 10; ((with_reducible refine (HKb.out _ (HG.out.on hb0)).mono ?_); rintro e w1 ⟨rfl, b1⟩; replace hb0 := thn hb0 b1; clear b1))
    | (go_at_call 13; ((with_reducible refine (HNa.out _ (HG.out.on hb0)).mono ?_); rintro e w1 ⟨rfl, b1⟩; replace hb0 := thn hb0 b1; clear b1))
    | (go_at_call 13; ((with_reducible refine (HNb.out _ (HG.out.on hb0)).mono ?_); rintro e w1 ⟨rfl, b1⟩; replace hb0 := thn hb0 b1; clear b1))
    | (go_at_call 12; ((with_reducible refine (HOa.out _ (HG.out.on hb0)).mono ?_); rintro e w1 ⟨rfl, b1⟩; replace hb0 := thn hb0 b1; clear b1))
    | (go_at_call 8; ((with_reducible refine (HCa.out _ (HG.out.on hb0)).mono ?_); rintro e w1 ⟨rfl, b1⟩; replace hb0 := thn hb0 b1; clear b1)))
  go_ret
  exact ⟨rfl, hb0⟩
set_option maxHeartbeats 4000000 in
set_option maxRecDepth 100000 in
theorem one (HC : InsnC) (a0 a1 xk cv : Int) (na nb : ByteArray) (w : World) (hG : GW w) (hx : (xk != 0) = true) (hna : na.toList.isEmpty = false) (hne : (a0 != a1) = true)
    (HKa : Hid (∀ W : World, GW W → Calls Tryd.prog 10 #[.int .u16 a0] W fun e w' => e = .returned (.bool true) ∧ Below W.heap.size W w'))
    (HKb : Hid (∀ W : World, GW W → Calls Tryd.prog 10 #[.int .u16 a1] W fun e w' => e = .returned (.bool false) ∧ Below W.heap.size W w'))
    (HNa : Hid (∀ W : World, GW W → Calls Tryd.prog 13 #[.int .u16 a0] W fun e w' => e = .returned (.string na) ∧ Below W.heap.size W w'))
    (HNb : Hid (∀ W : World, GW W → Calls Tryd.prog 13 #[.int .u16 a1] W fun e w' => e = .returned (.string ⟨#[]⟩) ∧ Below W.heap.size W w'))
    (HOa : Hid (∀ W : World, GW W → Calls Tryd.prog 12 #[.int .u16 a0] W fun e w' => e = .returned (.int .u8 xk) ∧ Below W.heap.size W w'))
    (HCa : Hid (∀ W : World, GW W → Calls Tryd.prog 8 #[.string na] W fun e w' => e = .returned (.tuple #[.int .u16 a0, .bool true]) ∧ Below W.heap.size W w')) :
    Calls Tryd.prog 5 #[.int .u16 a0, .int .u16 a1] w fun e w' => e = .returned (.bool true) ∧ Below w.heap.size w w' := by
  have HW := Lib.hid (fun W hG => awake2_any HC W hG)
  have HG := Lib.hid hG
  have r3 : (ByteArray.mk #[]).toList.isEmpty = true := by rw [ByteArray.toList_eq]; rfl
  clear HC hG
  have hb0 : Below w.heap.size w w := Below.refl _ _
  go_enter Tryd.func5, Tryd.ntmps5
  go_wp2_with (first
    | (go_at_call 16; ((with_reducible refine (HW.out _ (HG.out.on hb0)).mono ?_); rintro e w1 ⟨rfl, b1⟩; replace hb0 := thn hb0 b1; clear b1))
    | (go_at_call 10; ((with_reducible refine (HKa.out _ (HG.out.on hb0)).mono ?_); rintro e w1 ⟨rfl, b1⟩; replace hb0 := thn hb0 b1; clear b1))
    | (go_at_call 10; ((with_reducible refine (HKb.out _ (HG.out.on hb0)).mono ?_); rintro e w1 ⟨rfl, b1⟩; replace hb0 := thn hb0 b1; clear b1))
    | (go_at_call 13; ((with_reducible refine (HNa.out _ (HG.out.on hb0)).mono ?_); rintro e w1 ⟨rfl, b1⟩; replace hb0 := thn hb0 b1; clear b1))
    | (go_at_call 13; ((with_reducible refine (HNb.out _ (HG.out.on hb0)).mono ?_); rintro e w1 ⟨rfl, b1⟩; replace hb0 := thn hb0 b1; clear b1))
    | (go_at_call 12; ((with_reducible refine (HOa.out _ (HG.out.on hb0)).mono ?_); rintro e w1 ⟨rfl, b1⟩; replace hb0 := thn hb0 b1; clear b1))
    | (go_at_call 8; ((with_reducible refine (HCa.out _ (HG.out.on hb0)).mono ?_); rintro e w1 ⟨rfl, b1⟩; replace hb0 := thn hb0 b1; clear b1)))
  go_ret
  exact ⟨rfl, hb0⟩
set_option maxHeartbeats 4000000 in
set_option maxRecDepth 100000 in
theorem none_ (HC : InsnC) (a0 a1 xk cv : Int) (na nb : ByteArray) (w : World) (hG : GW w) (hne : (a0 != a1) = true)
    (HKa : Hid (∀ W : World, GW W → Calls Tryd.prog 10 #[.int .u16 a0] W fun e w' => e = .returned (.bool false) ∧ Below W.heap.size W w'))
    (HKb : Hid (∀ W : World, GW W → Calls Tryd.prog 10 #[.int .u16 a1] W fun e w' => e = .returned (.bool true) ∧ Below W.heap.size W w'))
    (HNa : Hid (∀ W : World, GW W → Calls Tryd.prog 13 #[.int .u16 a0] W fun e w' => e = .returned (.string ⟨#[]⟩) ∧ Below W.heap.size W w'))
    (HNb : Hid (∀ W : World, GW W → Calls Tryd.prog 13 #[.int .u16 a1] W fun e w' => e = .returned (.string nb) ∧ Below W.heap.size W w'))
    (HOa : Hid (∀ W : World, GW W → Calls Tryd.prog 12 #[.int .u16 a0] W fun e w' => e = .returned (.int .u8 0) ∧ Below W.heap.size W w'))
    (HCa : Hid (∀ W : World, GW W → Calls Tryd.prog 8 #[.string ⟨#[]⟩] W fun e w' => e = .returned (.tuple #[.int .u16 cv, .bool false]) ∧ Below W.heap.size W w')) :
    Calls Tryd.prog 5 #[.int .u16 a0, .int .u16 a1] w fun e w' => e = .returned (.bool true) ∧ Below w.heap.size w w' := by
  have HW := Lib.hid (fun W hG => awake2_any HC W hG)
  have HG := Lib.hid hG
  have r3 : (ByteArray.mk #[]).toList.isEmpty = true := by rw [ByteArray.toList_eq]; rfl
  clear HC hG
  have hb0 : Below w.heap.size w w := Below.refl _ _
  go_enter Tryd.func5, Tryd.ntmps5
  go_wp2_with (first
    | (go_at_call 16; ((with_reducible refine (HW.out _ (HG.out.on hb0)).mono ?_); rintro e w1 ⟨rfl, b1⟩; replace hb0 := thn hb0 b1; clear b1))
    | (go_at_call 10; ((with_reducible refine (HKa.out _ (HG.out.on hb0)).mono ?_); rintro e w1 ⟨rfl, b1⟩; replace hb0 := thn hb0 b1; clear b1))
    | (go_at_call 10; ((with_reducible refine (HKb.out _ (HG.out.on hb0)).mono ?_); rintro e w1 ⟨rfl, b1⟩; replace hb0 := thn hb0 b1; clear b1))
    | (go_at_call 13; ((with_reducible refine (HNa.out _ (HG.out.on hb0)).mono ?_); rintro e w1 ⟨rfl, b1⟩; replace hb0 := thn hb0 b1; clear b1))
    | (go_at_call 13; ((with_reducible refine (HNb.out _ (HG.out.on hb0)).mono ?_); rintro e w1 ⟨rfl, b1⟩; replace hb0 := thn hb0 b1; clear b1))
    | (go_at_call 12; ((with_reducible refine (HOa.out _ (HG.out.on hb0)).mono ?_); rintro e w1 ⟨rfl, b1⟩; replace hb0 := thn hb0 b1; clear b1))
    | (go_at_call 8; ((with_reducible refine (HCa.out _ (HG.out.on hb0)).mono ?_); rintro e w1 ⟨rfl, b1⟩; replace hb0 := thn hb0 b1; clear b1)))
  go_ret
  exact ⟨rfl, hb0⟩
set_option maxHeartbeats 4000000 in
set_option maxRecDepth 100000 in
theorem none_2 (HC : InsnC) (a0 a1 xk cv : Int) (na nb : ByteArray) (w : World) (hG : GW w) (hne : (a0 != a1) = true)
    (HKa : Hid (∀ W : World, GW W → Calls Tryd.prog 10 #[.int .u16 a0] W fun e w' => e = .returned (.bool false) ∧ Below W.heap.size W w'))
    (HKb : Hid (∀ W : World, GW W → Calls Tryd.prog 10 #[.int .u16 a1] W fun e w' => e = .returned (.bool false) ∧ Below W.heap.size W w'))
    (HNa : Hid (∀ W : World, GW W → Calls Tryd.prog 13 #[.int .u16 a0] W fun e w' => e = .returned (.string ⟨#[]⟩) ∧ Below W.heap.size W w'))
    (HNb : Hid (∀ W : World, GW W → Calls Tryd.prog 13 #[.int .u16 a1] W fun e w' => e = .returned (.string ⟨#[]⟩) ∧ Below W.heap.size W w'))
    (HOa : Hid (∀ W : World, GW W → Calls Tryd.prog 12 #[.int .u16 a0] W fun e w' => e = .returned (.int .u8 0) ∧ Below W.heap.size W w'))
    (HCa : Hid (∀ W : World, GW W → Calls Tryd.prog 8 #[.string ⟨#[]⟩] W fun e w' => e = .returned (.tuple #[.int .u16 cv, .bool false]) ∧ Below W.heap.size W w')) :
    Calls Tryd.prog 5 #[.int .u16 a0, .int .u16 a1] w fun e w' => e = .returned (.bool true) ∧ Below w.heap.size w w' := by
  have HW := Lib.hid (fun W hG => awake2_any HC W hG)
  have HG := Lib.hid hG
  have r3 : (ByteArray.mk #[]).toList.isEmpty = true := by rw [ByteArray.toList_eq]; rfl
  clear HC hG
  have hb0 : Below w.heap.size w w := Below.refl _ _
  go_enter Tryd.func5, Tryd.ntmps5
  go_wp2_with (first
    | (go_at_call 16; ((with_reducible refine (HW.out _ (HG.out.on hb0)).mono ?_); rintro e w1 ⟨rfl, b1⟩; replace hb0 := thn hb0 b1; clear b1))
    | (go_at_call 10; ((with_reducible refine (HKa.out _ (HG.out.on hb0)).mono ?_); rintro e w1 ⟨rfl, b1⟩; replace hb0 := thn hb0 b1; clear b1))
    | (go_at_call 10; ((with_reducible refine (HKb.out _ (HG.out.on hb0)).mono ?_); rintro e w1 ⟨rfl, b1⟩; replace hb0 := thn hb0 b1; clear b1))
    | (go_at_call 13; ((with_reducible refine (HNa.out _ (HG.out.on hb0)).mono ?_); rintro e w1 ⟨rfl, b1⟩; replace hb0 := thn hb0 b1; clear b1))
    | (go_at_call 13; ((with_reducible refine (HNb.out _ (HG.out.on hb0)).mono ?_); rintro e w1 ⟨rfl, b1⟩; replace hb0 := thn hb0 b1; clear b1))
    | (go_at_call 12; ((with_reducible refine (HOa.out _ (HG.out.on hb0)).mono ?_); rintro e w1 ⟨rfl, b1⟩; replace hb0 := thn hb0 b1; clear b1))
    | (go_at_call 8; ((with_reducible refine (HCa.out _ (HG.out.on hb0)).mono ?_); rintro e w1 ⟨rfl, b1⟩; replace hb0 := thn hb0 b1; clear b1)))
  go_ret
  exact ⟨rfl, hb0⟩
set_option maxHeartbeats 4000000 in
set_option maxRecDepth 100000 in
theorem same_k (HC : InsnC) (a0 a1 xk cv : Int) (na nb : ByteArray) (w : World) (hG : GW w) (hx : (xk != 0) = true) (hna : na.toList.isEmpty = false) (hne : (a0 != a1) = false)
    (HKa : Hid (∀ W : World, GW W → Calls Tryd.prog 10 #[.int .u16 a0] W fun e w' => e = .returned (.bool true) ∧ Below W.heap.size W w'))
    (HKb : Hid (∀ W : World, GW W → Calls Tryd.prog 10 #[.int .u16 a1] W fun e w' => e = .returned (.bool true) ∧ Below W.heap.size W w'))
    (HNa : Hid (∀ W : World, GW W → Calls Tryd.prog 13 #[.int .u16 a0] W fun e w' => e = .returned (.string na) ∧ Below W.heap.size W w'))
    (HNb : Hid (∀ W : World, GW W → Calls Tryd.prog 13 #[.int .u16 a1] W fun e w' => e = .returned (.string nb) ∧ Below W.heap.size W w'))
    (HOa : Hid (∀ W : World, GW W → Calls Tryd.prog 12 #[.int .u16 a0] W fun e w' => e = .returned (.int .u8 xk) ∧ Below W.heap.size W w'))
    (HCa : Hid (∀ W : World, GW W → Calls Tryd.prog 8 #[.string na] W fun e w' => e = .returned (.tuple #[.int .u16 a0, .bool true]) ∧ Below W.heap.size W w')) :
    Calls Tryd.prog 5 #[.int .u16 a0, .int .u16 a1] w fun e w' => e = .returned (.bool true) ∧ Below w.heap.size w w' := by
  have HW := Lib.hid (fun W hG => awake2_any HC W hG)
  have HG := Lib.hid hG
  have r3 : (ByteArray.mk #[]).toList.isEmpty = true := by rw [ByteArray.toList_eq]; rfl
  clear HC hG
  have hb0 : Below w.heap.size w w := Below.refl _ _
  go_enter Tryd.func5, Tryd.ntmps5
  go_wp2_with (first
    | (go_at_call 16; ((with_reducible refine (HW.out _ (HG.out.on hb0)).mono ?_); rintro e w1 ⟨rfl, b1⟩; replace hb0 := thn hb0 b1; clear b1))
    | (go_at_call 10; ((with_reducible refine (HKa.out _ (HG.out.on hb0)).mono ?_); rintro e w1 ⟨rfl, b1⟩; replace hb0 := thn hb0 b1; clear b1))
    | (go_at_call 10; ((with_reducible refine (HKb.out _ (HG.out.on hb0)).mono ?_); rintro e w1 ⟨rfl, b1⟩; replace hb0 := thn hb0 b1; clear b1))
    | (go_at_call 13; ((with_reducible refine (HNa.out _ (HG.out.on hb0)).mono ?_); rintro e w1 ⟨rfl, b1⟩; replace hb0 := thn hb0 b1; clear b1))
    | (go_at_call 13; ((with_reducible refine (HNb.out _ (HG.out.on hb0)).mono ?_); rintro e w1 ⟨rfl, b1⟩; replace hb0 := thn hb0 b1; clear b1))
    | (go_at_call 12; ((with_reducible refine (HOa.out _ (HG.out.on hb0)).mono ?_); rintro e w1 ⟨rfl, b1⟩; replace hb0 := thn hb0 b1; clear b1))
    | (go_at_call 8; ((with_reducible refine (HCa.out _ (HG.out.on hb0)).mono ?_); rintro e w1 ⟨rfl, b1⟩; replace hb0 := thn hb0 b1; clear b1)))
  go_ret
  exact ⟨rfl, hb0⟩
set_option maxHeartbeats 4000000 in
set_option maxRecDepth 100000 in
theorem same_u (HC : InsnC) (a0 a1 xk cv : Int) (na nb : ByteArray) (w : World) (hG : GW w) (hne : (a0 != a1) = false)
    (HKa : Hid (∀ W : World, GW W → Calls Tryd.prog 10 #[.int .u16 a0] W fun e w' => e = .returned (.bool false) ∧ Below W.heap.size W w'))
    (HKb : Hid (∀ W : World, GW W → Calls Tryd.prog 10 #[.int .u16 a1] W fun e w' => e = .returned (.bool false) ∧ Below W.heap.size W w'))
    (HNa : Hid (∀ W : World, GW W → Calls Tryd.prog 13 #[.int .u16 a0] W fun e w' => e = .returned (.string ⟨#[]⟩) ∧ Below W.heap.size W w'))
    (HNb : Hid (∀ W : World, GW W → Calls Tryd.prog 13 #[.int .u16 a1] W fun e w' => e = .returned (.string ⟨#[]⟩) ∧ Below W.heap.size W w'))
    (HOa : Hid (∀ W : World, GW W → Calls Tryd.prog 12 #[.int .u16 a0] W fun e w' => e = .returned (.int .u8 0) ∧ Below W.heap.size W w'))
    (HCa : Hid (∀ W : World, GW W → Calls Tryd.prog 8 #[.string ⟨#[]⟩] W fun e w' => e = .returned (.tuple #[.int .u16 cv, .bool false]) ∧ Below W.heap.size W w')) :
    Calls Tryd.prog 5 #[.int .u16 a0, .int .u16 a1] w fun e w' => e = .returned (.bool true) ∧ Below w.heap.size w w' := by
  have HW := Lib.hid (fun W hG => awake2_any HC W hG)
  have HG := Lib.hid hG
  have r3 : (ByteArray.mk #[]).toList.isEmpty = true := by rw [ByteArray.toList_eq]; rfl
  clear HC hG
  have hb0 : Below w.heap.size w w := Below.refl _ _
  go_enter Tryd.func5, Tryd.ntmps5
  go_wp2_with (first
    | (go_at_call 16; ((with_reducible refine (HW.out _ (HG.out.on hb0)).mono ?_); rintro e w1 ⟨rfl, b1⟩; replace hb0 := thn hb0 b1; clear b1))
    | (go_at_call 10; ((with_reducible refine (HKa.out _ (HG.out.on hb0)).mono ?_); rintro e w1 ⟨rfl, b1⟩; replace hb0 := thn hb0 b1; clear b1))
    | (go_at_call 10; ((with_reducible refine (HKb.out _ (HG.out.on hb0)).mono ?_); rintro e w1 ⟨rfl, b1⟩; replace hb0 := thn hb0 b1; clear b1))
    | (go_at_call 13; ((with_reducible refine (HNa.out _ (HG.out.on hb0)).mono ?_); rintro e w1 ⟨rfl, b1⟩; replace hb0 := thn hb0 b1; clear b1))
    | (go_at_call 13; ((with_reducible refine (HNb.out _ (HG.out.on hb0)).mono ?_); rintro e w1 ⟨rfl, b1⟩; replace hb0 := thn hb0 b1; clear b1))
    | (go_at_call 12; ((with_reducible refine (HOa.out _ (HG.out.on hb0)).mono ?_); rintro e w1 ⟨rfl, b1⟩; replace hb0 := thn hb0 b1; clear b1))
    | (go_at_call 8; ((with_reducible refine (HCa.out _ (HG.out.on hb0)).mono ?_); rintro e w1 ⟨rfl, b1⟩; replace hb0 := thn hb0 b1; clear b1)))
  go_ret
  exact ⟨rfl, hb0⟩
theorem walk (HC : InsnC) (a0 : Int) (a1 : Int) (w : World) (hG : GW w) (w0 : (Lit.int .u16 a0).wf = true) (w1 : (Lit.int .u16 a1).wf = true) :
    Calls Tryd.prog 5 #[.int .u16 a0, .int .u16 a1] w fun e w' => e = .returned (.bool true) ∧ Below w.heap.size w w' := by
  obtain ⟨c0, c1⟩ := bounds_u16 w0
  obtain ⟨d0, d1⟩ := bounds_u16 w1
  have HKa := fun W hG => HC.known a0 W hG c0 (by omega)
  have HKb := fun W hG => HC.known a1 W hG d0 (by omega)
  have HNa := fun W hG => HC.name_ a0 W hG c0 (by omega)
  have HNb := fun W hG => HC.name_ a1 W hG d0 (by omega)
  have HOa := fun W hG => HC.of_ a0 W hG c0 (by omega)
  rcases known_cases a0 with ⟨ha, ka⟩ | ⟨ha, ka', ka⟩
  · have HCa := fun W hG => HC.code ⟨#[]⟩ W hG (by unfold maxLen; decide)
    rw [ka] at HKa
    rw [ha] at HNa HOa
    have e : codeB ⟨#[]⟩ = false := code_none
    rw [e] at HCa
    by_cases hab : a0 = a1
    · subst hab
      rw [ka] at HKb
      rw [ha] at HNb
      exact same_u HC a0 a0 0 _ ⟨#[]⟩ ⟨#[]⟩ w hG (by simp) HKa HKb HNa HNb HOa HCa
    · have hne : (a0 != a1) = true := bne_iff_ne.2 hab
      rcases known_cases a1 with ⟨hb, kb⟩ | ⟨hb, kb', kb⟩
      · rw [kb] at HKb
        rw [hb] at HNb
        exact none_2 HC a0 a1 0 _ ⟨#[]⟩ ⟨#[]⟩ w hG hne HKa HKb HNa HNb HOa HCa
      · rw [kb] at HKb
        exact none_ HC a0 a1 0 _ ⟨#[]⟩ _ w hG hne HKa HKb HNa HNb HOa HCa
  · have hg := allL_good _ ha
    have HCa := fun W hG => HC.code (ofL allL a0).name W hG (by unfold maxLen; omega)
    obtain ⟨e1, e2⟩ := code_name ha ka'
    rw [e1, e2] at HCa
    rw [ka] at HKa
    have hx : ((ofL allL a0).cls != 0) = true := bne_iff_ne.2 (by omega)
    have hna := isEmpty_of_size (s := (ofL allL a0).name) (by omega)
    by_cases hab : a0 = a1
    · subst hab
      rw [ka] at HKb
      exact same_k HC a0 a0 _ 0 _ _ w hG hx hna (by simp) HKa HKb HNa HNb HOa HCa
    · have hne : (a0 != a1) = true := bne_iff_ne.2 hab
      rcases known_cases a1 with ⟨hb, kb⟩ | ⟨hb, kb', kb⟩
      · rw [kb] at HKb
        rw [hb] at HNb
        exact one HC a0 a1 _ 0 _ ⟨#[]⟩ w hG hx hna hne HKa HKb HNa HNb HOa HCa
      · rw [kb] at HKb
        have hnn : ((ofL allL a0).name.toList == (ofL allL a1).name.toList) = false := beq_eq_false_iff_ne.2 (fun e => hab (by
          have := unlike _ ha _ hb (list_of_bytes e)
          rwa [ka', kb'] at this))
        exact both HC a0 a1 _ 0 _ _ w hG hx hna hne hnn HKa HKb HNa HNb HOa HCa

set_option maxRecDepth 100000 in
theorem lifted (HC : InsnC) (os : Os) (started : os.Started) (H : Type) (enc : TypeId × Value → H) :
    ReturnsInHanded {} Tryd.checked os 5 .any (fun w args => (Rows.insnNamesSpec.pre enc Tryd.prog Tryd.f5 [] false w args ∧ laidMetH Tryd.prog listed w) ∧ sizedMet enc Tryd.prog Tryd.f5 (OpenSpec.ofChange Rows.insnNamesSpec) false w args)
      (Rows.insnNamesSpec.post enc Tryd.prog Tryd.f5 false true false false) := by
  refine returnsInHanded_of_change_and (C := Tryd.checked) (X := fun w _ => laidMetH Tryd.prog listed w) (fun _ _ _ hh h => h.of_heap hh) ownKnob_none started (by kernel_rfl) Tryd.func5
    (ChangeSpec.witness_shaped (enc := enc) (C := Tryd.checked) (os := os) (X := fun w _ => laidMetH Tryd.prog listed w) false (World.doorLaid Tryd.prog 400 os) #[.int .u16 0, .int .u16 0] 8 rfl (World.shaped_of_RefB (by kernel_rfl) (by kernel_rfl)) (by kernel_rfl) (by kernel_rfl) (by kernel_rfl) (door_met os _)) ?_
  intro W base args ds gs before hval0 hW _ _ hL _
  have hG : GW W := of_laid hL
  have hval : ∀ (j : Nat) t v, Tryd.f5.params[j]? = some t → args[j]? = some v → Value.okWide Tryd.prog W .any base t v := hval0
  have hW' := hW
  obtain ⟨p, q, hA0, hV, rfl, hfz, hnd⟩ := hW
  have hA : DataW.TrodAll enc Tryd.prog W 0 (fun _ => true) true Tryd.f5.params.toList args.toList ds p := hA0
  rw [Tryd.params5] at hA hval
  obtain ⟨v0, vs0, d0, ds0, p0, q0, hargs, rfl, rfl, h0, r0⟩ := trodAll_cons hA
  obtain ⟨v1, vs1, d1, ds1, p1, q1, rfl, rfl, rfl, h1, r1⟩ := trodAll_cons r0
  obtain ⟨rfl, rfl, rfl⟩ := trodAll_nil r1
  obtain rfl : args = #[v0, v1] := by cases args; simp_all
  obtain ⟨rfl, rfl⟩ := trodVars_none hV
  obtain ⟨a0, rfl, rfl, rfl, w0⟩ := open_int Tryd.underlying22 (hval 0 22 v0 rfl rfl) h0
  obtain ⟨a1, rfl, rfl, rfl, w1⟩ := open_int Tryd.underlying22 (hval 1 22 v1 rfl rfl) h1
  clear hA0 hval0
  simp only [List.append_nil] at hW'
  refine (walk HC a0 a1 W hG w0 w1).mono fun e W' ⟨he, bel⟩ => ?_
  subst he
  exact ⟨_, rfl, _, _, _, [], [], [], hW', trodAll_mk1 (shut_bool Tryd.underlying4 _), (trodAll_cons_mk (shut_int Tryd.underlying22 w0) (trodAll_cons_mk (shut_int Tryd.underlying22 w1) trodAll_mk0)), rfl, bel.frame _, fun h => by cases h⟩

theorem over (HC : InsnC) : Rows.insnNamesRow.holds Tryd.pinned (OpenSpec.ofChange Rows.insnNamesSpec) :=
  OpenClaim.holds_of_wide 5 Tryd.f5 rfl rfl rfl rfl rfl rfl rfl ⟨rfl, rfl, rfl, rfl, rfl⟩ rfl rfl rfl rfl rfl (by kernel_rfl) Tryd.func5 (by kernel_rfl)
    (of_decide_eq_true (by kernel_rfl)) (by unfold Func.isWrapper; first | (rw [if_pos (by decide +kernel)]; kernel_rfl) | (rw [if_neg (by decide +kernel)]; exact ⟨rfl, rfl⟩))
    (fun os started H enc _ => lifted HC os started H enc)

/-- The row's statement. -/
theorem row_holds : Rows.InsnNamesSaid := over insnC
/-- The statement: the row, its table tied to the program's text. -/
theorem proved : Rows.InsnNamesCardSaid :=
  Claim7.holds_tied_plain_at .later [] [.data] true Rows.insnNamesCard.stood.harness Rows.insnNamesCard.stood.looks
    row_holds (fun _ h => by cases h) (by kernel_rfl) (fun _ h => by cases h) insnNames_row_tie rfl ⟨rfl, rfl⟩ (by kernel_rfl) rfl
    (fun f fn hf hfn => by
      obtain rfl : f = 5 := Option.some.inj ((show Tryd.prog.funcNamed "vestibule/vestibulelaw02.InsnNames" = some 5 by kernel_rfl).symm.trans hf) |>.symm
      obtain rfl : fn = Tryd.f5 := (Option.some.inj (Tryd.func5.symm.trans hfn)).symm
      exact ⟨by kernel_rfl, fun j t ht => by
        have hm : t ∈ Tryd.f5.params.toList := by simpa using Array.mem_of_getElem? ht
        have hall : (Tryd.f5.params.toList.all fun u => !Tryd.prog.wantsStandIn u) = true := by kernel_rfl
        exact (show Tryd.prog.wantsStandIn t = false by simpa using List.all_eq_true.1 hall t hm)⟩)
    (by kernel_rfl)
#print axioms proved

end Go.Proofs.YtekmbhjdacaphaaDoor.insnNames
