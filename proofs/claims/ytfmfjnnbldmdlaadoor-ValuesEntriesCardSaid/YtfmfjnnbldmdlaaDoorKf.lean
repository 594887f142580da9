/- What the document's own Text and Read return. Conditions: a name, a word of at most a million bytes. -/
import Derived.Test.YtfmfjnnbldmdlaaDoorKe
import Derived.Deep.RegionHeld3
namespace Go.Proofs.YtfmfjnnbldmdlaaDoor
open Go.RowKit
set_option linter.unusedVariables false
set_option linter.unusedSimpArgs false
attribute [local go_sem ↓] Go.wp_at_zero Go.wp_at_succ

theorem box15 {w : World} {nm : ByteArray} {x : Int} {has : Bool} {t : TypeId} : let W := w.alloc (.cells #[.string nm, .int .u32 x, .bool has] t)
    W.cell? ⟨w.heap.size, 0, none⟩ = some (.string nm) ∧ W.cell? ⟨w.heap.size, 1, none⟩ = some (.int .u32 x) ∧ W.cell? ⟨w.heap.size, 2, none⟩ = some (.bool has) := by
  refine ⟨?_, ?_, ?_⟩ <;> · rw [cell_of_row _ _ _ _ _ (0, 0) (heap_alloc_new w _)]; rfl
theorem keep15 {b : Nat} {nm : ByteArray} {x : Int} {W W' : World} (h : W.cell? ⟨b, 0, none⟩ = some (.string nm) ∧ W.cell? ⟨b, 1, none⟩ = some (.int .u32 x)) (hb : Below W.heap.size W W') : W'.cell? ⟨b, 0, none⟩ = some (.string nm) ∧ W'.cell? ⟨b, 1, none⟩ = some (.int .u32 x) :=
  ⟨(hb.cell (World.block_lt_of_cell? W _ h.1)).trans h.1, (hb.cell (World.block_lt_of_cell? W _ h.2)).trans h.2⟩
theorem text_no {e : Ent} (h : e.has = false) : textR e = e.nm := by unfold textR; rw [if_pos h]
theorem text_k {e : Ent} (h : e.has = true) (h2 : e.act = 2147483648) : textR e = e.nm ++ ⟨#[58, 107, 105, 108, 108]⟩ := by unfold textR; rw [if_neg (by rw [h]; exact Bool.noConfusion), if_pos h2]
theorem text_e {e : Ent} (h : e.has = true) (h2 : ¬ e.act = 2147483648) (h3 : e.act / 65536 = 5) : textR e = e.nm ++ ⟨#[58]⟩ ++ errnoNameR (e.act % 65536) := by unfold textR; rw [if_neg (by rw [h]; exact Bool.noConfusion), if_neg h2, if_pos h3]
theorem text_o {e : Ent} (h : e.has = true) (h2 : ¬ e.act = 2147483648) (h3 : ¬ e.act / 65536 = 5) : textR e = e.nm ++ ⟨#[58]⟩ := by unfold textR; rw [if_neg (by rw [h]; exact Bool.noConfusion), if_neg h2, if_neg h3]
theorem errnoName_size (n : Nat) : (errnoNameR n).size ≤ 20 := by
  by_cases h : n < 4096
  · exact (okE_at h).2.1
  · unfold errnoNameR
    split
    · rename_i t ht
      obtain ⟨e, he, rfl⟩ := name_mem ht
      have : ∀ e ∈ errnoT, e.1.size ≤ 20 := by decide +kernel
      exact this e he
    · rw [if_neg h]; exact Nat.zero_le _
set_option maxHeartbeats 3200000 in
theorem refText (e : Ent) (hn : e.nm.size ≤ 1000000) (ha : e.act < 4294967296) (w : World) : Calls Tryd.prog 18 #[entV e] w fun r w' => r = .returned (.string (textR e)) ∧ Below w.heap.size w w' := by
  obtain ⟨nm, act, has⟩ := e
  simp only at hn ha
  unfold entV
  simp only
  cases has with
  | false =>
    rw [text_no rfl]
    obtain ⟨x, hx⟩ : ∃ x, x = ((act : Nat) : Int) := ⟨_, rfl⟩
    rw [← hx]
    clear hx ha
    go_enter Tryd.func18, Tryd.ntmps18
    go_wp2
    go_ret
    exact ⟨rfl, (Below.refl _ _).alloc (Nat.le_refl _) _⟩
  | true =>
    by_cases h2 : act = 2147483648
    · subst h2
      rw [text_k rfl rfl]
      clear ha
      go_enter Tryd.func18, Tryd.ntmps18
      go_wp2
      go_ret
      exact ⟨rfl, (Below.refl _ _).alloc (Nat.le_refl _) _⟩
    · obtain ⟨x, hx⟩ : ∃ x, x = ((act : Nat) : Int) := ⟨_, rfl⟩
      have n2 : (x == 2147483648) = false := beq_eq_false_iff_ne.2 (by omega)
      have m2 : ¬ x = 2147483648 := by omega
      have x0 : 0 ≤ x := by omega
      have hq : x.tdiv 65536 = ((act / 65536 : Nat) : Int) := by rw [hx]; rfl
      have hm : x.tmod 65536 = ((act % 65536 : Nat) : Int) := by rw [hx]; rfl
      have hw : IntKind.u32.wrap (x.tdiv 65536) = ((act / 65536 : Nat) : Int) := by rw [hq, IntKind.wrap_u32]; omega
      have hw2 : IntKind.u32.wrap (x.tmod 65536) = ((act % 65536 : Nat) : Int) := by rw [hm, IntKind.wrap_u32]; omega
      have hq' : x / 65536 = ((act / 65536 : Nat) : Int) := by omega
      have hm' : x % 65536 = ((act % 65536 : Nat) : Int) := by omega
      by_cases h3 : act / 65536 = 5
      · rw [text_e rfl h2 h3]
        simp only
        have HE := Lib.hid (fun W => refErrnoName (act % 65536) (by omega) W)
        have HS := Lib.hid (errnoName_size (act % 65536))
        obtain ⟨t, ht⟩ : ∃ t, t = errnoNameR (act % 65536) := ⟨_, rfl⟩
        rw [← ht] at HE HS ⊢
        have hts := HS.out
        rw [h3] at hq hw hq'
        rw [← hx]
        obtain ⟨r, hr⟩ : ∃ r, r = act % 65536 := ⟨_, rfl⟩
        rw [← hr] at HE hm hw2 hm'
        clear ht h2 hx h3 ha hr
        go_enter Tryd.func18, Tryd.ntmps18
        have i1 : (nm.size : Int) ≤ 8388608 := by omega
        have i2 : (t.size : Int) ≤ 8388608 := by omega
        have i3 : ((nm ++ ⟨#[58]⟩ : ByteArray).size : Int) ≤ 8388608 := by
          rw [ByteArray.size_append, show (⟨#[58]⟩ : ByteArray).size = 1 from rfl]; omega
        have j1 : ¬ 9223372036854775807 < nm.size + 1 := by omega
        have j2 : ¬ 9223372036854775807 < nm.size + 1 + t.size := by omega
        have i4 : ¬ (9223372036854775807 : Int) < (nm.size : Int) + 1 := by omega
        have i5 : ¬ (9223372036854775807 : Int) < ((nm ++ ⟨#[58]⟩ : ByteArray).size : Int) + (t.size : Int) := by omega
        have i6 : ¬ (9223372036854775807 : Int) < (nm.size : Int) + 1 + (t.size : Int) := by omega
        have keep := @keep15 w.heap.size nm x
        go_wp2
        have c0 := (@box15 w nm x true 35).1
        have c1 := (@box15 w nm x true 35).2.1
        go_region_held3 (fun w' => w'.cell? ⟨w.heap.size, 0, none⟩ = some (.string nm) ∧ w'.cell? ⟨w.heap.size, 1, none⟩ = some (.int .u32 x)) (first | assumption | exact ⟨c0, c1⟩ | exact keep (by assumption) (by assumption)) (first
          | (go_at_call 28; refine (HE.out _).mono ?_; rintro e w2 ⟨rfl, b2⟩))
        all_goals
          go_wp2
          go_ret
          exact ⟨rfl, thn (((Below.refl _ _).alloc (Nat.le_refl _) _).drew) b2⟩
      · rw [text_o rfl h2 h3]
        simp only
        rw [← hx]
        have n3 : (((act / 65536 : Nat) : Int) == 5) = false := beq_eq_false_iff_ne.2 (by omega)
        have m3 : ¬ ((act / 65536 : Nat) : Int) = 5 := by omega
        have hw4 : ((act / 65536 : Nat) : Int) % 4294967296 = ((act / 65536 : Nat) : Int) := by omega
        obtain ⟨y, hy⟩ : ∃ y, y = ((act / 65536 : Nat) : Int) := ⟨_, rfl⟩
        rw [← hy] at hq hw hq' n3 m3 hw4
        clear h2 hx h3 ha hm hw2 hm' hy
        go_enter Tryd.func18, Tryd.ntmps18
        go_wp2
        go_ret
        exact ⟨rfl, (Below.refl _ _).alloc (Nat.le_refl _) _⟩
end Go.Proofs.YtfmfjnnbldmdlaaDoor
