/- What the calls of the landed package arch return, of a world in which its table of architectures lies as the text lays it: as the chapter says. No other condition. -/
import Derived.Test.YtbjhleajhkofeaaDoorD0
import Derived.Deep.QuietTactic
import Derived.BigQuiet
import Derived.Laws.BitsAllLaws
import Derived.WalkSmall
namespace Go.Proofs.YtbjhleajhkofeaaDoor
open Go.RowKit
set_option linter.unusedVariables false
attribute [local go_sem ↓] Go.wp_at_zero Go.wp_at_succ

/-- The table of architectures lies in memory. -/
def GA8 (w : World) : Prop := ∀ k, k < 6 → w.cell? ⟨3, k * 2, none⟩ = some (.string (archN.getD k ⟨#[]⟩)) ∧ w.cell? ⟨3, k * 2 + 1, none⟩ = some (.int .u32 (archT.getD k 0))
theorem GA8.lt {w : World} (h : GA8 w) : 3 < w.heap.size := World.block_lt_of_cell? w _ (h 0 (by omega)).1
theorem GA8.on {w w' : World} (h : GA8 w) (b : Below w.heap.size w w') : GA8 w' := fun k hk =>
  ⟨(b.cell (p := ⟨3, k * 2, none⟩) h.lt).trans (h k hk).1, (b.cell (p := ⟨3, k * 2 + 1, none⟩) h.lt).trans (h k hk).2⟩
theorem GA8.al {w : World} (h : GA8 w) (o : Obj) : GA8 (w.alloc o) := h.on ((Below.refl _ _).alloc (Nat.le_refl _) o)
/-- The test of a name. -/
theorem pclos (k : Nat) (hk : k < 6) (s : ByteArray) (b : Nat) (w : World) (hG : GA8 w) (hb : w.cell? ⟨b, 0, none⟩ = some (.string s)) : Calls Tryd.prog 52 #[.int .i64 k, .pointer (some ⟨b, 0, none⟩)] w fun e w' =>
    e = .returned (.bool (decide (archN.getD k ⟨#[]⟩ = s))) ∧ Below w.heap.size w w' := by
  obtain ⟨c0, c1⟩ := hG k hk
  have hv := Lib.hid (show decide (archN.getD k ⟨#[]⟩ = s) = ((archN.getD k ⟨#[]⟩).toList == s.toList) from by
    rw [Bool.eq_iff_iff, decide_eq_true_iff, beq_iff_eq]
    exact ⟨fun h => by rw [h], list_of_bytes8⟩)
  obtain ⟨x, hx⟩ : ∃ x, x = archN.getD k ⟨#[]⟩ := ⟨_, rfl⟩
  rw [← hx] at c0 hv ⊢
  have k2 : (k : Int) < 6 := by omega
  have k3 : (0 : Int) ≤ k := by omega
  clear hx hG c1
  go_enter Tryd.func52, Tryd.ntmps52
  go_wp2
  go_quiet (fail)
  go_wp2
  go_ret
  exact ⟨by rw [hv.out]; rfl, below_drewN (Below.refl _ _) _⟩
/-- The first of six of which it is so. -/
def firI (p : Nat → Bool) : Nat := if p 0 then 0 else if p 1 then 1 else if p 2 then 2 else if p 3 then 3 else if p 4 then 4 else if p 5 then 5 else 0
def firB (p : Nat → Bool) : Bool := p 0 || p 1 || p 2 || p 3 || p 4 || p 5
theorem fir_hit {p : Nat → Bool} {k : Nat} (hk : k < 6) (h : p k = true) (hm : ∀ j, j < k → p j = false) : firI p = k ∧ firB p = true := by
  unfold firI firB
  match k, hk, h, hm with
  | 0, _, h, hm => simp [h]
  | 1, _, h, hm => simp [h, hm 0 (by omega)]
  | 2, _, h, hm => simp [h, hm 0 (by omega), hm 1 (by omega)]
  | 3, _, h, hm => simp [h, hm 0 (by omega), hm 1 (by omega), hm 2 (by omega)]
  | 4, _, h, hm => simp [h, hm 0 (by omega), hm 1 (by omega), hm 2 (by omega), hm 3 (by omega)]
  | 5, _, h, hm => simp [h, hm 0 (by omega), hm 1 (by omega), hm 2 (by omega), hm 3 (by omega), hm 4 (by omega)]
  | k + 6, hk, _, _ => omega
theorem fir_miss {p : Nat → Bool} (hm : ∀ j, j < 6 → p j = false) : firI p = 0 ∧ firB p = false := by
  unfold firI firB
  simp [hm 0 (by omega), hm 1 (by omega), hm 2 (by omega), hm 3 (by omega), hm 4 (by omega), hm 5 (by omega)]
set_option maxHeartbeats 1600000 in
theorem find_p (p : Nat → Bool) (b : Nat) (w : World) (HP : ∀ (k : Nat) (W : World), k < 6 → Below w.heap.size w W → Calls Tryd.prog 52 #[.int .i64 k, .pointer (some ⟨b, 0, none⟩)] W fun e w' => e = .returned (.bool (p k)) ∧ Below W.heap.size W w') :
    Calls Tryd.prog 51 #[.func (.func 52) #[] #[.pointer (some ⟨b, 0, none⟩)]] w fun e w' => e = .returned (.tuple #[.int .i64 (firI p : Nat), .bool (firB p)]) ∧ Below w.heap.size w w' := by
  have HP := Lib.hid HP
  go_enter Tryd.func51, Tryd.ntmps51
  go_wp2
  go_loopw [5] (fun i wr => ∃ k : Nat, k ≤ 6 ∧ i = .int .i64 k ∧ Hid (∀ j, j < k → p j = false) ∧ Hid (Below w.heap.size w wr)) (fun i _ => 6 - (intOf i).toNat)
  case atStart => exact ⟨0, by omega, rfl, Lib.hid (fun j hj => absurd hj (by omega)), Lib.hid (Below.refl _ _)⟩
  case round =>
    obtain ⟨k, hk, rfl, hm, hB⟩ := hrel
    by_cases hlt : k < 6
    · have k1 : (k : Int) < 6 := by omega
      have k0 : (0 : Int) ≤ k := by omega
      have HK := Lib.hid (fun W hb => HP.out k W hlt hb)
      have HH := Lib.hid (fun h => fir_hit hlt h hm.out)
      have HS := Lib.hid (fun (h : p k = false) => (fun j hj => by
        by_cases e : j = k
        · rw [e]; exact h
        · exact hm.out j (by omega) : ∀ j, j < k + 1 → p j = false))
      generalize p k = x at HK HH HS
      clear HP hm
      cases x
      · have hv := Lib.hid (HS.out rfl)
        clear HS HH
        go_wp2_with (go_at_call 52; ((with_reducible refine (HK.out _ hB.out).mono ?_); rintro e w1 ⟨rfl, b1⟩); have B1 := Lib.hid (thn hB.out b1))
        go_roundw
        case rel => exact ⟨k + 1, by omega, by go_num, hv, B1⟩
        case measure => simp [intOf]; omega
      · have hv := Lib.hid (HH.out rfl)
        clear HS HH
        go_wp2_with (go_at_call 52; ((with_reducible refine (HK.out _ hB.out).mono ?_); rintro e w1 ⟨rfl, b1⟩); have B1 := Lib.hid (thn hB.out b1))
        go_ret2
        exact ⟨by rw [hv.out.1, hv.out.2]; rfl, B1.out⟩
    · obtain rfl : k = 6 := by omega
      have hv := Lib.hid (fir_miss hm.out)
      go_wp2
      go_ret2
      exact ⟨by rw [hv.out.1, hv.out.2]; rfl, hB.out⟩
theorem least6 (P : Nat → Prop) [DecidablePred P] : ∀ (k : Nat), k < 6 → P k → ∃ k, k < 6 ∧ (∀ j, j < k → ¬ P j) ∧ P k := by
  intro k
  induction k using Nat.strongRecOn with
  | _ k ih =>
    intro hk h
    by_cases g : ∃ j, j < k ∧ P j
    · obtain ⟨j, hj, e⟩ := g
      exact ih j hj (Nat.lt_trans hj hk) e
    · exact ⟨k, hk, fun j hj e => g ⟨j, hj, e⟩, h⟩
def nameT (s : ByteArray) (k : Nat) : Bool := decide (archN.getD k ⟨#[]⟩ = s)
theorem parR_fir (s : ByteArray) : parR s = if s = ⟨#[110, 97, 116, 105, 118, 101]⟩ then ((0 : Int), (0 : Int)) else if firB (nameT s) then (((firI (nameT s) : Nat) : Int), 0) else (0, 80) := by
  by_cases hn : s = ⟨#[110, 97, 116, 105, 118, 101]⟩
  · subst hn
    rw [if_pos rfl]
    decide +kernel
  · rw [if_neg hn]
    unfold parR
    by_cases h : ∃ k, k < 6 ∧ archN.getD k ⟨#[]⟩ = s
    · obtain ⟨k, hk, hm, he⟩ : ∃ k, k < 6 ∧ (∀ j, j < k → archN.getD j ⟨#[]⟩ ≠ s) ∧ archN.getD k ⟨#[]⟩ = s := by
        obtain ⟨k, hk, he⟩ := h
        exact least6 (fun k => archN.getD k ⟨#[]⟩ = s) k hk he
      rw [findN_hit hk he hm]
      obtain ⟨e1, e2⟩ := fir_hit (p := nameT s) hk (decide_eq_true he) (fun j hj => decide_eq_false (hm j hj))
      rw [e1, e2, if_pos rfl]
    · have hm : ∀ j, j < 6 → archN.getD j ⟨#[]⟩ ≠ s := fun j hj e => h ⟨j, hj, e⟩
      rw [findN_miss hm]
      obtain ⟨e1, e2⟩ := fir_miss (p := nameT s) (fun j hj => decide_eq_false (hm j hj))
      rw [e2]
      simp only
      rw [if_neg hn]
      rfl
set_option maxHeartbeats 1600000 in
theorem parse8 (s : ByteArray) (w : World) (hG : GA8 w) : Calls Tryd.prog 43 #[.string s] w fun e w' => e = .returned (.tuple #[.int .i64 (parR s).1, .int .i64 (parR s).2]) ∧ Below w.heap.size w w' := by
  rw [parR_fir]
  have B0 := Lib.hid ((Below.refl w.heap.size w).alloc (Nat.le_refl _) (.cells #[.string s] 9))
  by_cases hn : s = ⟨#[110, 97, 116, 105, 118, 101]⟩
  · subst hn
    rw [if_pos rfl]
    clear hG
    go_enter Tryd.func43, Tryd.ntmps43
    go_wp2
    go_ret2
    exact ⟨rfl, B0.out⟩
  · rw [if_neg hn]
    have hbb : (s.toList == [110, 97, 116, 105, 118, 101]) = false := beq_eq_false_iff_ne.2 (fun e => hn (list_of_bytes8 (e.trans (by decide +kernel))))
    have HF := Lib.hid (find_p (nameT s) w.heap.size (w.alloc (.cells #[.string s] 9)) (fun k W hk hb => pclos k hk s w.heap.size W ((hG.al _).on hb) ((hb.cell (p := ⟨w.heap.size, 0, none⟩) (by simp)).trans (by simp [go_sem]))))
    obtain ⟨k, hk⟩ : ∃ k, k = firI (nameT s) := ⟨_, rfl⟩
    rw [← hk] at HF ⊢
    generalize firB (nameT s) = z at HF ⊢
    clear hk hn hG
    cases z
    · go_enter Tryd.func43, Tryd.ntmps43
      go_wp2_with (go_at_call 51; ((with_reducible refine (HF.out).mono ?_); rintro e w1 ⟨rfl, b1⟩))
      go_ret2
      exact ⟨rfl, thn B0.out b1⟩
    · go_enter Tryd.func43, Tryd.ntmps43
      go_wp2_with (go_at_call 51; ((with_reducible refine (HF.out).mono ?_); rintro e w1 ⟨rfl, b1⟩))
      go_ret2
      exact ⟨rfl, thn B0.out b1⟩
end Go.Proofs.YtbjhleajhkofeaaDoor
