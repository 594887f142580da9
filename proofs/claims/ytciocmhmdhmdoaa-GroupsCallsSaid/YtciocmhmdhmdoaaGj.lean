/- The statement GroupsCalls holds, over what the calls have to return, where what a group has are calls: what a group has are known calls, rising, each once, those that it names and all that the groups have which it names, and no others. -/
import Derived.Test.YtciocmhmdhmdoaaRows
import Derived.Test.YtciocmhmdhmdoaaFr
import Derived.Test.YtciocmhmdhmdoaaG6
import Derived.Test.YtciocmhmdhmdoaaGf
import Derived.Test.YtciocmhmdhmdoaaGh
import Derived.Test.YtciocmhmdhmdoaaGk
namespace Go.Proofs.Ytciocmhmdhmdoaa.groupsCalls
set_option linter.unusedSimpArgs false
open Go.ChangeShapes Go.WideShapes Go.ChangeAt Go.RowKit
open Go.ChangeMaps (open_string shut_string)
set_option linter.unusedVariables false
attribute [local go_sem ↓] Go.wp_at_zero Go.wp_at_succ
/-- Is a name in a list? -/
def memB (x : ByteArray) (l : List ByteArray) : Bool := l.any fun y => decide (y = x)
theorem memB_iff {x : ByteArray} {l : List ByteArray} : memB x l = true ↔ x ∈ l := by
  unfold memB
  rw [List.any_eq_true]
  exact ⟨fun ⟨y, hy, e⟩ => by rw [← of_decide_eq_true e]; exact hy, fun h => ⟨x, h, decide_eq_true rfl⟩⟩
set_option maxHeartbeats 4000000 in
theorem has_c (v : Value) (a : List ByteArray) (x : ByteArray) (w : World) (hv : StrsAt w v a) (ha : a.length ≤ 100000) : Calls Try.prog 18 #[v, .string x] w fun e w' => e = .returned (.bool (memB x a)) ∧ w = w' := by
  obtain ⟨q, c, rfl, hr⟩ := hv
  have HA := Lib.hid hr
  have HIT := Lib.hid (fun (k : Nat) (h : a[k]? = some x) => show memB x a = true from memB_iff.2 (List.mem_of_getElem? h))
  have HMS := Lib.hid (fun (h : ∀ j, j < a.length → a[j]? ≠ some x) => show memB x a = false from Bool.eq_false_iff.2 (fun hm' => by
    have hm := memB_iff.1 hm'
    obtain ⟨j, hj, e⟩ := List.mem_iff_getElem.1 hm
    exact h j hj (by rw [List.getElem?_eq_getElem hj, e])))
  obtain ⟨r, hrr⟩ : ∃ r, r = memB x a := ⟨_, rfl⟩
  rw [← hrr] at HIT HMS ⊢
  obtain ⟨n, hn⟩ : ∃ n, n = a.length := ⟨_, rfl⟩
  have HN := Lib.hid hn
  rw [← hn] at ha HMS ⊢
  clear hr hrr hn
  go_enter Try.func18, Try.ntmps18
  go_wp2_with fail
  go_loop [5] (fun v5 => ∃ k : Nat, k ≤ n ∧ v5 = .int .i64 k ∧ Hid (∀ j, j < k → a[j]? ≠ some x)) (fun v5 => n - (intOf v5).toNat)
  case atStart => exact ⟨0, by omega, rfl, Lib.hid (fun j hj => absurd hj (by omega))⟩
  case round =>
    obtain ⟨k, hk, rfl, PS⟩ := hrel
    by_cases hlt : k < n
    · have hx : a[k]? = some (a[k]'(by rw [← HN.out]; exact hlt)) := List.getElem?_eq_getElem _
      obtain ⟨y, ey⟩ : ∃ t, t = a[k]'(by rw [← HN.out]; exact hlt) := ⟨_, rfl⟩
      rw [← ey] at hx
      obtain ⟨g1, o1, rfl, c0⟩ := HA.out k y hx
      have k1 : (k : Int) < n := by omega
      have k0 : (0 : Int) ≤ k := by omega
      have hw1 : IntKind.i64.wrap ((k : Int) + 1) = k + 1 := by rw [IntKind.wrap_i64]; omega
      have HX := Lib.hid hx
      clear hx ey
      by_cases hxy : y = x
      · subst hxy
        have t2 : (y.toList == y.toList) = true := by simp
        have hv := Lib.hid (HIT.out k HX.out)
        clear HIT HMS
        go_wp2_with fail
        go_ret
        exact ⟨by rw [hv.out]; rfl, rfl⟩
      · have t3 : (y.toList == x.toList) = false := beq_eq_false_iff_ne.2 (fun e => hxy (list_of_bytes11 e))
        have HXY := Lib.hid hxy
        clear hxy HIT HMS
        go_wp2_with fail
        go_round
        case rel => exact ⟨k + 1, by omega, by go_num, Lib.hid (fun j hj => by
          rcases Nat.lt_succ_iff_lt_or_eq.1 hj with h | h
          · exact PS.out j h
          · subst h; rw [HX.out]; exact fun e => HXY.out (Option.some.inj e))⟩
        case measure => simp [intOf]; omega
    · obtain rfl : k = n := by omega
      have k1 : ¬ (k : Int) < k := by omega
      have hv := Lib.hid (HMS.out PS.out)
      clear HIT HMS
      go_wp2_with fail
      go_ret
      exact ⟨by rw [hv.out]; rfl, rfl⟩
theorem has_yes (v : Value) (a : List ByteArray) (x : ByteArray) (w : World) (hv : StrsAt w v a) (ha : a.length ≤ 100000) (hx : x ∈ a) : Calls Try.prog 18 #[v, .string x] w fun e w' => e = .returned (.bool true) ∧ w = w' := by
  have := has_c v a x w hv ha
  rw [memB_iff.2 hx] at this
  exact this
/-- A member more: itself, or what it has. -/
def wantS (acc : List ByteArray) (t : ByteArray) : List ByteArray := if (memR t).isEmpty then acc ++ [t] else acc ++ expL t
def wantF (M : List ByteArray) (k : Nat) : List ByteArray := (M.take k).foldl wantS []
theorem want_step {M : List ByteArray} {k : Nat} {t : ByteArray} (h : M[k]? = some t) : wantF M (k + 1) = wantS (wantF M k) t := by
  unfold wantF
  rw [List.take_add_one, h, Option.toList_some, List.foldl_append]
  rfl
theorem want_le (M : List ByteArray) (k : Nat) (h : ∀ t ∈ M, (expL t).length ≤ 100) : (wantF M k).length ≤ 100 * k := by
  induction k with
  | zero => unfold wantF; simp
  | succ k ih =>
    by_cases hk : k < M.length
    · have hx : M[k]? = some (M[k]'hk) := List.getElem?_eq_getElem _
      rw [want_step hx]
      have := h _ (List.getElem_mem hk)
      unfold wantS
      split <;> rw [List.length_append] <;> simp <;> omega
    · have e : wantF M (k + 1) = wantF M k := by unfold wantF; rw [List.take_of_length_le (by omega), List.take_of_length_le (by omega)]
      rw [e]; omega
/-- What holds of each group that can be expanded. -/
def grpOk (j : Nat) : Bool :=
  let s := gN j; let M := memR s; let L := expL s; let W := wantF M M.length
  decide (0 < M.length) && decide ((expL s).length ≤ 100) && decide (s.size ≤ 200) &&
  (if expE s = 111 then decide (4 < deepR s) else decide (expE s = 0) && decide (0 < L.length) &&
    M.all (fun t => decide (t.size ≤ 200) && decide ((expL t).length ≤ 100) && ((memR t).isEmpty || (decide (expE t = 0) && decide (deepR t < deepR s) && decide (0 < (expL t).length)))) &&
    W.all (fun x => memB x L) && L.all (fun x => memB x W && decide (x.size ≤ 200)) && (List.range L.length).all (fun i => i == 0 || Go.Op.bytesLess (L.getD (i - 1) ⟨#[]⟩).toList (L.getD i ⟨#[]⟩).toList))
theorem grp_ok : ((List.range 18).all grpOk) = true := by kernel_rfl
theorem grp_of {s : ByteArray} (h : memR s ≠ []) : ∃ j, j < 18 ∧ s = gN j := by
  obtain ⟨e, he, h2⟩ := mem_some h
  obtain ⟨j, hj, e2⟩ := List.mem_iff_getElem.1 he
  have hl : grpT.length = 18 := rfl
  refine ⟨j, by omega, ?_⟩
  have := gT_at (show j < 18 by omega)
  rw [List.getElem?_eq_getElem hj, e2] at this
  rw [← h2, Option.some.inj this]
/-- What is known of a group that can be expanded. -/
structure GrpK (s : ByteArray) : Prop where
  mem : ∀ t ∈ memR s, t.size ≤ 200 ∧ (expL t).length ≤ 100 ∧ (memR t ≠ [] → expE t = 0 ∧ deepR t < deepR s ∧ 0 < (expL t).length)
  want : ∀ x ∈ wantF (memR s) (memR s).length, x ∈ expL s
  all : ∀ x ∈ expL s, x ∈ wantF (memR s) (memR s).length ∧ x.size ≤ 200
  rise : ∀ i x y, (expL s)[i]? = some x → (expL s)[i + 1]? = some y → Go.Op.bytesLess x.toList y.toList = true
theorem grp_open {j : Nat} (hj : j < 18) : (0 < (memR (gN j)).length ∧ (expL (gN j)).length ≤ 100 ∧ (gN j).size ≤ 200) ∧ ((expE (gN j) = 111 ∧ 4 < deepR (gN j)) ∨ (expE (gN j) = 0 ∧ 0 < (expL (gN j)).length ∧ GrpK (gN j))) := by
  have h := List.all_eq_true.1 grp_ok j (List.mem_range.2 hj)
  unfold grpOk at h
  simp only [Bool.and_eq_true, decide_eq_true_eq] at h
  obtain ⟨⟨⟨h1, h2⟩, h3⟩, h4⟩ := h
  refine ⟨⟨h1, h2, h3⟩, ?_⟩
  by_cases he : expE (gN j) = 111
  · rw [if_pos he] at h4
    exact .inl ⟨he, of_decide_eq_true h4⟩
  · rw [if_neg he] at h4
    simp only [Bool.and_eq_true, decide_eq_true_eq, List.all_eq_true, Bool.or_eq_true] at h4
    obtain ⟨⟨⟨⟨⟨g1, g2⟩, g3⟩, g4⟩, g5⟩, g6⟩ := h4
    refine .inr ⟨g1, g2, ⟨fun t ht => ?_, fun x hx => memB_iff.1 (g4 x hx), fun x hx => ⟨memB_iff.1 (g5 x hx).1, (g5 x hx).2⟩, fun i x y hx hy => ?_⟩⟩
    · obtain ⟨⟨a, b⟩, c⟩ := g3 t ht
      exact ⟨a, b, fun hn => by
        rcases c with c | c
        · exact absurd (List.isEmpty_iff.1 c) hn
        · exact ⟨c.1.1, c.1.2, c.2⟩⟩
    · have hi := (List.getElem?_eq_some_iff.1 hy).1
      have := g6 (i + 1) (List.mem_range.2 hi)
      rcases this with c | c
      · simp at c
      · rw [Nat.add_sub_cancel, List.getD_eq_getElem?_getD, List.getD_eq_getElem?_getD, hx, hy] at c
        exact c
end Go.Proofs.Ytciocmhmdhmdoaa.groupsCalls
