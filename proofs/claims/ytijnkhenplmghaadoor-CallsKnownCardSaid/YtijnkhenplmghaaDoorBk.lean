/- What the calls of the landed package arch return, of a world in which its table of architectures lies as the text lays it: as the chapter says. No other condition. -/
import Derived.Test.YtijnkhenplmghaaDoorBb
import Derived.Deep.QuietTactic
import Derived.BigQuiet
import Derived.Laws.BitsAllLaws
import Derived.WalkSmall
namespace Go.Proofs.YtijnkhenplmghaaDoor
open Go.RowKit
set_option linter.unusedVariables false
attribute [local go_sem ↓] Go.wp_at_zero Go.wp_at_succ

/-- The table of architectures lies in memory. -/
def GA8 (w : World) : Prop := ∀ k, k < 6 → w.cell? ⟨0, k * 2, none⟩ = some (.string (archN.getD k ⟨#[]⟩)) ∧ w.cell? ⟨0, k * 2 + 1, none⟩ = some (.int .u32 (archT.getD k 0))
theorem GA8.lt {w : World} (h : GA8 w) : 0 < w.heap.size := World.block_lt_of_cell? w _ (h 0 (by omega)).1
theorem GA8.on {w w' : World} (h : GA8 w) (b : Below w.heap.size w w') : GA8 w' := fun k hk =>
  ⟨(b.cell (p := ⟨0, k * 2, none⟩) h.lt).trans (h k hk).1, (b.cell (p := ⟨0, k * 2 + 1, none⟩) h.lt).trans (h k hk).2⟩
theorem GA8.al {w : World} (h : GA8 w) (o : Obj) : GA8 (w.alloc o) := h.on ((Below.refl _ _).alloc (Nat.le_refl _) o)
def inA8 (a : Int) : Bool := decide (0 ≤ a ∧ a < 6)
set_option maxHeartbeats 1600000 in
theorem rowOf_in (k : Nat) (hk : k < 6) (w : World) (hG : GA8 w) : Calls Tryd.prog 32 #[.int .i64 k] w fun e w' =>
    e = .returned (.tuple #[.agg #[.string (archN.getD k ⟨#[]⟩), .int .u32 (archT.getD k 0)], .bool true]) ∧ Below w.heap.size w w' := by
  have HG := hG.al (.cells #[.string ⟨#[]⟩, .int .u32 0] 69) k hk
  obtain ⟨c0, c1⟩ := HG
  obtain ⟨x, hx⟩ : ∃ x, x = archN.getD k ⟨#[]⟩ := ⟨_, rfl⟩
  obtain ⟨y, hy⟩ : ∃ y, y = archT.getD k 0 := ⟨_, rfl⟩
  rw [← hx] at c0 ⊢
  rw [← hy] at c1 ⊢
  have k0 : decide ((k : Int) < 0) = false := decide_eq_false (by omega)
  have k1 : decide ((6 : Int) ≤ k) = false := decide_eq_false (by omega)
  have k2 : (k : Int) < 6 := by omega
  have k3 : (0 : Int) ≤ k := by omega
  have hl := Lib.hid hG.lt
  clear hx hy hG
  go_enter Tryd.func32, Tryd.ntmps32
  go_wp2
  refine bodyPost_ret (v := .tuple #[.agg #[.string x, .int .u32 y], .bool true]) (by simp [results, Tryd.results32, go_sem]) rfl ⟨rfl, ?_⟩
  exact (Below.refl _ _).alloc (Nat.le_refl _) _
theorem rowOf_neg (a : Int) (ha : a < 0) (w : World) : Calls Tryd.prog 32 #[.int .i64 a] w fun e w' =>
    e = .returned (.tuple #[.agg #[.string ⟨#[]⟩, .int .u32 0], .bool false]) ∧ Below w.heap.size w w' := by
  have k0 : decide (a < 0) = true := decide_eq_true ha
  go_enter Tryd.func32, Tryd.ntmps32
  go_wp2
  refine bodyPost_ret (v := .tuple #[.agg #[.string ⟨#[]⟩, .int .u32 0], .bool false]) (by simp [results, Tryd.results32, go_sem]) rfl ⟨rfl, ?_⟩
  exact (Below.refl _ _).alloc (Nat.le_refl _) _
theorem rowOf_big (a : Int) (ha : 6 ≤ a) (w : World) : Calls Tryd.prog 32 #[.int .i64 a] w fun e w' =>
    e = .returned (.tuple #[.agg #[.string ⟨#[]⟩, .int .u32 0], .bool false]) ∧ Below w.heap.size w w' := by
  have k0 : decide (a < 0) = false := decide_eq_false (by omega)
  have k1 : decide (6 ≤ a) = true := decide_eq_true ha
  go_enter Tryd.func32, Tryd.ntmps32
  go_wp2
  refine bodyPost_ret (v := .tuple #[.agg #[.string ⟨#[]⟩, .int .u32 0], .bool false]) (by simp [results, Tryd.results32, go_sem]) rfl ⟨rfl, ?_⟩
  exact (Below.refl _ _).alloc (Nat.le_refl _) _
theorem rowOf_any (a : Int) (w : World) (hG : GA8 w) : Calls Tryd.prog 32 #[.int .i64 a] w fun e w' =>
    e = .returned (.tuple #[.agg #[.string (nameR a), .int .u32 (tokR a)], .bool (inA8 a)]) ∧ Below w.heap.size w w' := by
  by_cases h0 : a < 0
  · have h := rowOf_neg a h0 w
    rwa [show (⟨#[]⟩ : ByteArray) = nameR a from by unfold nameR; rw [if_neg (by omega)], show (0 : Int) = tokR a from by unfold tokR; rw [if_neg (by omega)], show false = inA8 a from by unfold inA8; rw [decide_eq_false (by omega)]] at h
  · by_cases h6 : 6 ≤ a
    · have h := rowOf_big a h6 w
      rwa [show (⟨#[]⟩ : ByteArray) = nameR a from by unfold nameR; rw [if_neg (by omega)], show (0 : Int) = tokR a from by unfold tokR; rw [if_neg (by omega)], show false = inA8 a from by unfold inA8; rw [decide_eq_false (by omega)]] at h
    · obtain ⟨k, rfl⟩ := Int.eq_ofNat_of_zero_le (by omega : 0 ≤ a)
      have h := rowOf_in k (by omega) w hG
      rwa [show archN.getD k ⟨#[]⟩ = nameR k from by unfold nameR; rw [if_pos (by omega), Int.toNat_natCast], show archT.getD k 0 = tokR k from by unfold tokR; rw [if_pos (by omega), Int.toNat_natCast], show true = inA8 k from by unfold inA8; rw [decide_eq_true (by omega)]] at h
theorem token8 (a : Int) (w : World) (hG : GA8 w) : Calls Tryd.prog 28 #[.int .i64 a] w fun e w' => e = .returned (.tuple #[.int .u32 (tokR a), .int .i64 (tokE a)]) ∧ Below w.heap.size w w' := by
  have H := Lib.hid (rowOf_any a w hG)
  generalize nameR a = x at H
  have HT := Lib.hid (show inA8 a = false → tokR a = 0 from fun h => by unfold tokR; rw [if_neg (of_decide_eq_false h)])
  have HE := Lib.hid (show tokE a = if inA8 a = true then 0 else 80 from by
    unfold tokE inA8
    by_cases h : 0 ≤ a ∧ a < 6
    · rw [if_pos h, if_pos (decide_eq_true h)]
    · rw [if_neg h, if_neg (by rw [decide_eq_false h]; decide)])
  rw [HE.out]
  clear HE
  generalize tokR a = y at H HT ⊢
  generalize inA8 a = z at H HT ⊢
  clear hG
  cases z
  · have hy := HT.out rfl
    subst hy
    go_enter Tryd.func28, Tryd.ntmps28
    go_wp2_with (go_at_call 32; ((with_reducible refine H.out.mono ?_); rintro e w1 ⟨rfl, b1⟩))
    go_ret2
    exact ⟨rfl, b1.alloc b1.size _⟩
  · clear HT
    go_enter Tryd.func28, Tryd.ntmps28
    go_wp2_with (go_at_call 32; ((with_reducible refine H.out.mono ?_); rintro e w1 ⟨rfl, b1⟩))
    go_ret2
    exact ⟨rfl, b1.alloc b1.size _⟩
/-- What the program's numbers say: whether a call of the architecture may have the number. -/
def numB (k nr : Int) : Bool := if k = 0 then decide (nr / 1073741824 % 2 = 0) else if k = 2 then decide (nr / 1073741824 % 2 = 1) else true
theorem and_bit (n : Nat) : n &&& 1073741824 = (n / 1073741824 % 2) * 1073741824 := by
  have e : (2 : Nat) ^ 30 = 1073741824 := by decide
  have t : n.testBit 30 = decide (n / 1073741824 % 2 = 1) := by rw [Nat.testBit_eq_decide_div_mod_eq, e]
  apply Nat.eq_of_testBit_eq
  intro i
  rw [Nat.testBit_and, ← e, Nat.testBit_two_pow]
  by_cases h : 30 = i
  · subst h
    rw [t]
    rcases Nat.mod_two_eq_zero_or_one (n / 1073741824) with g | g <;> rw [e, g] <;> decide
  · rw [decide_eq_false h, Bool.and_false]
    rcases Nat.mod_two_eq_zero_or_one (n / 1073741824) with g | g <;> rw [e, g]
    · simp
    · rw [Nat.one_mul, ← e, Nat.testBit_two_pow, decide_eq_false h]
/-- The first of six of which it is so. -/
def firI (p : Nat → Bool) : Nat := if p 0 then 0 else if p 1 then 1 else if p 2 then 2 else if p 3 then 3 else if p 4 then 4 else if p 5 then 5 else 0
def firB (p : Nat → Bool) : Bool := p 0 || p 1 || p 2 || p 3 || p 4 || p 5
theorem fir_hit {p : Nat → Bool} {k : Nat} (hk : k < 6) (h : p k = true) (hm : ∀ j, j < k → p j = false) : firI p = k ∧ firB p = true := by
  unfold firI firB
  match k, hk, h, hm with
  | 0, _, h, hm => simp [h]
  | 1, _, h, hm => simp [h, hm 0 (by omega)]
  | 2, _, h, hm => simp [h, hm 0 (by omega), hm 1 (by omega)]
  | 3, _, h, hm => simp [h, hm 0 (by omega), hm 1 (by omega), hm 2 (by omega)]
  | 4, _, h, hm => simp [h, hm 0 (by omega), hm 1 (by omega), hm 2 (by omega), hm 3 (by omega)]
  | 5, _, h, hm => simp [h, hm 0 (by omega), hm 1 (by omega), hm 2 (by omega), hm 3 (by omega), hm 4 (by omega)]
  | k + 6, hk, _, _ => omega
theorem fir_miss {p : Nat → Bool} (hm : ∀ j, j < 6 → p j = false) : firI p = 0 ∧ firB p = false := by
  unfold firI firB
  simp [hm 0 (by omega), hm 1 (by omega), hm 2 (by omega), hm 3 (by omega), hm 4 (by omega), hm 5 (by omega)]
theorem least6 (P : Nat → Prop) [DecidablePred P] : ∀ (k : Nat), k < 6 → P k → ∃ k, k < 6 ∧ (∀ j, j < k → ¬ P j) ∧ P k := by
  intro k
  induction k using Nat.strongRecOn with
  | _ k ih =>
    intro hk h
    by_cases g : ∃ j, j < k ∧ P j
    · obtain ⟨j, hj, e⟩ := g
      exact ih j hj (Nat.lt_trans hj hk) e
    · exact ⟨k, hk, fun j hj e => g ⟨j, hj, e⟩, h⟩
def nameT (s : ByteArray) (k : Nat) : Bool := decide (archN.getD k ⟨#[]⟩ = s)
def tokT (t nr : Int) (k : Nat) : Bool := decide (archT.getD k 0 = t) && numB k nr
theorem parR_fir (s : ByteArray) : parR s = if s = ⟨#[110, 97, 116, 105, 118, 101]⟩ then ((0 : Int), (0 : Int)) else if firB (nameT s) then (((firI (nameT s) : Nat) : Int), 0) else (0, 80) := by
  by_cases hn : s = ⟨#[110, 97, 116, 105, 118, 101]⟩
  · subst hn
    rw [if_pos rfl]
    decide +kernel
  · rw [if_neg hn]
    unfold parR
    by_cases h : ∃ k, k < 6 ∧ archN.getD k ⟨#[]⟩ = s
    · obtain ⟨k, hk, hm, he⟩ : ∃ k, k < 6 ∧ (∀ j, j < k → archN.getD j ⟨#[]⟩ ≠ s) ∧ archN.getD k ⟨#[]⟩ = s := by
        obtain ⟨k, hk, he⟩ := h
        exact least6 (fun k => archN.getD k ⟨#[]⟩ = s) k hk he
      rw [findN_hit hk he hm]
      obtain ⟨e1, e2⟩ := fir_hit (p := nameT s) hk (decide_eq_true he) (fun j hj => decide_eq_false (hm j hj))
      rw [e1, e2, if_pos rfl]
    · have hm : ∀ j, j < 6 → archN.getD j ⟨#[]⟩ ≠ s := fun j hj e => h ⟨j, hj, e⟩
      rw [findN_miss hm]
      obtain ⟨e1, e2⟩ := fir_miss (p := nameT s) (fun j hj => decide_eq_false (hm j hj))
      rw [e2]
      simp only
      rw [if_neg hn]
      rfl
theorem ofR_fir (t nr : Int) (n0 : 0 ≤ nr) : ofR t nr = (((firI (tokT t nr) : Nat) : Int), firB (tokT t nr)) := by
  have hl : archT.length = 6 := rfl
  by_cases ht : t = 3221225534
  · subst ht
    unfold ofR
    rw [if_pos rfl]
    have a0 : archT.getD 0 0 = 3221225534 := rfl
    have a1 : archT.getD 1 0 ≠ 3221225534 := by decide
    have a2 : archT.getD 2 0 = 3221225534 := rfl
    by_cases hb : nr / 1073741824 % 2 = 1
    · rw [if_pos hb]
      obtain ⟨e1, e2⟩ := fir_hit (p := tokT 3221225534 nr) (k := 2) (by omega) (by
        unfold tokT numB; rw [a2]; simp [hb]) (fun j hj => by
        rcases (by omega : j = 0 ∨ j = 1) with rfl | rfl
        · unfold tokT numB; simp [hb]
        · unfold tokT; rw [decide_eq_false a1]; rfl)
      rw [e1, e2]; rfl
    · rw [if_neg hb]
      obtain ⟨e1, e2⟩ := fir_hit (p := tokT 3221225534 nr) (k := 0) (by omega) (by
        unfold tokT numB; rw [a0]; simp [show nr / 1073741824 % 2 = 0 by omega]) (fun j hj => absurd hj (by omega))
      rw [e1, e2]; rfl
  · unfold ofR
    rw [if_neg ht]
    have hnum : ∀ k, k < 6 → archT.getD k 0 = t → numB k nr = true := fun k hk e => by
      have h0 : k ≠ 0 := fun h => ht (by rw [← e, h]; rfl)
      have h2 : k ≠ 2 := fun h => ht (by rw [← e, h]; rfl)
      unfold numB
      rw [if_neg (by omega), if_neg (by omega)]
    by_cases h : ∃ k, k < 6 ∧ archT.getD k 0 = t
    · obtain ⟨k, hk, hm, he⟩ : ∃ k, k < 6 ∧ (∀ j, j < k → archT.getD j 0 ≠ t) ∧ archT.getD k 0 = t := by
        obtain ⟨k, hk, he⟩ := h
        exact least6 (fun k => archT.getD k 0 = t) k hk he
      rw [findT_hit hk he hm]
      obtain ⟨e1, e2⟩ := fir_hit (p := tokT t nr) hk (by unfold tokT; rw [decide_eq_true he, hnum k hk he]; rfl) (fun j hj => by unfold tokT; rw [decide_eq_false (hm j hj)]; rfl)
      rw [e1, e2]
    · have hm : ∀ j, j < 6 → archT.getD j 0 ≠ t := fun j hj e => h ⟨j, hj, e⟩
      rw [findT_miss hm]
      obtain ⟨e1, e2⟩ := fir_miss (p := tokT t nr) (fun j hj => by unfold tokT; rw [decide_eq_false (hm j hj)]; rfl)
      rw [e1, e2]; rfl
end Go.Proofs.YtijnkhenplmghaaDoor
