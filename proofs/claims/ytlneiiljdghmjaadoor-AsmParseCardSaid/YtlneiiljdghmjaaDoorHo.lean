/- The closure that hands over how many instructions a line's next label skips: what it returns, what it leaves. Conditions: the library's two errors lie in their variables; a string of at most 2^47 bytes. -/
import Derived.Test.YtlneiiljdghmjaaDoorHn
namespace Go.Proofs.YtlneiiljdghmjaaDoor
open Go.RowKit Go.Shelf
set_option linter.unusedVariables false
set_option linter.unusedSimpArgs false
attribute [local go_sem ↓] Go.wp_at_zero Go.wp_at_succ

theorem bef_bound {l : List UInt8} (hl : l.length ≤ 140737488355328) : (befL l).length ≤ 140737488355328 := Nat.le_trans (bef_le l).1 hl
theorem aft_bound {l : List UInt8} (hl : l.length ≤ 140737488355328) : (aftL l).length ≤ 140737488355328 := Nat.le_trans (bef_le l).2 hl
set_option maxRecDepth 100000 in
set_option maxHeartbeats 4000000 in
theorem way_call {w0 : World} {A Z K N I R at_ : Nat} {oi orr : Obj} {l : List UInt8} {b : Bool} (P : RdP w0 A Z K N I R) (hl : l.length ≤ 140737488355328) (hat : at_ ≤ 1099511627776) (hG : GP w0) (w : World) (h : RdS w0 A Z K N I R oi orr at_ l b w) :
    Calls Tryd.prog 62 #[.pointer (some ⟨N, 0, none⟩), .pointer (some ⟨A, 0, none⟩), .pointer (some ⟨K, 0, none⟩)] w fun e w' => e = .returned (.int .u64 (skipN (befL l) at_ : Nat)) ∧ RdS w0 A Z K N I R oi orr at_ (aftL l) (b && skipB (befL l) at_) w' := by
  have HNX := Lib.hid (fun V (h : RdS w0 A Z K N I R oi orr at_ l b V) => next_call P hl V h)
  have HSK := Lib.hid (fun V (g : GP V) => skipped_call (befL l) at_ hat (bef_bound hl) V g)
  have HS := Lib.hid h
  have HP := Lib.hid P
  have HG := Lib.hid hG
  have n0 := h.pn.cell
  have a0 := h.pa.cell
  obtain ⟨sn, hsn⟩ : ∃ x, x = skipN (befL l) at_ := ⟨_, rfl⟩
  obtain ⟨sb, hsb⟩ : ∃ x, x = skipB (befL l) at_ := ⟨_, rfl⟩
  rw [← hsn, ← hsb] at HSK ⊢
  obtain ⟨bl, hbl⟩ : ∃ x, x = befL l := ⟨_, rfl⟩
  rw [← hbl] at HSK HNX
  obtain ⟨al, hal⟩ : ∃ x, x = aftL l := ⟨_, rfl⟩
  rw [← hal] at HNX ⊢
  clear hsn hsb hbl hal hl hat hG h P
  cases b with
  | false =>
    go_enter Tryd.func62, Tryd.ntmps62
    go_wp2
    go_region_held3 (fun w' => w'.cell? ⟨A, 0, none⟩ = some (.int .i64 at_) ∧ w'.cell? ⟨N, 0, none⟩ = some (.func (.func 61) #[] #[.pointer (some ⟨Z, 0, none⟩)]))
      (first | assumption | exact ⟨HS.out.pa.cell, HS.out.pn.cell⟩ | exact ⟨H2.out.pa.cell, H2.out.pn.cell⟩ | exact ⟨H3.out.pa.cell, H3.out.pn.cell⟩) (first
      | (go_at_call 61; ((with_reducible refine (HNX.out _ (HS.out.on (Below.refl _ _).drew)).mono ?_); rintro e w2 ⟨rfl, h2⟩); have H2 := Lib.hid h2; clear h2)
      | (go_at_call 63; ((with_reducible refine (HSK.out _ (HG.out.on H2.out.bel)).mono ?_); rintro e w3 ⟨rfl, b3⟩); have H3 := Lib.hid (H2.out.on b3); clear b3))
    all_goals
      have k3 := H3.out.pk.cell
      have f3 := H3.out.pk.frozen
      go_wp2
      go_ret
      first
      | exact ⟨rfl, H3.out.setK HP.out⟩
  | true =>
    go_enter Tryd.func62, Tryd.ntmps62
    go_wp2
    go_region_held3 (fun w' => w'.cell? ⟨A, 0, none⟩ = some (.int .i64 at_) ∧ w'.cell? ⟨N, 0, none⟩ = some (.func (.func 61) #[] #[.pointer (some ⟨Z, 0, none⟩)]))
      (first | assumption | exact ⟨HS.out.pa.cell, HS.out.pn.cell⟩ | exact ⟨H2.out.pa.cell, H2.out.pn.cell⟩ | exact ⟨H3.out.pa.cell, H3.out.pn.cell⟩) (first
      | (go_at_call 61; ((with_reducible refine (HNX.out _ (HS.out.on (Below.refl _ _).drew)).mono ?_); rintro e w2 ⟨rfl, h2⟩); have H2 := Lib.hid h2; clear h2)
      | (go_at_call 63; ((with_reducible refine (HSK.out _ (HG.out.on H2.out.bel)).mono ?_); rintro e w3 ⟨rfl, b3⟩); have H3 := Lib.hid (H2.out.on b3); clear b3))
    all_goals
      have k3 := H3.out.pk.cell
      have f3 := H3.out.pk.frozen
      go_wp2
      go_ret
      first
      | exact ⟨rfl, H3.out.setK HP.out⟩
end Go.Proofs.YtlneiiljdghmjaaDoor
