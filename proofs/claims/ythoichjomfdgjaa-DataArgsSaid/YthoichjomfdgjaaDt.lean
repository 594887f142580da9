/- The examples of the chapter on data, as the statements begin with them: over what the calls of the package data have to return. No condition. -/
import Derived.Test.YthoichjomfdgjaaDd
import Derived.Test.YthoichjomfdgjaaWg
import Derived.Deep.RegionHeld3
namespace Go.Proofs.Ythoichjomfdgjaa
open Go.RowKit
set_option linter.unusedVariables false
attribute [local go_sem ↓] Go.wp_at_zero Go.wp_at_succ

def dEx : Dat := ⟨1, 3221225534, 0, 0, 0, 21474836487, 0, 0, 0⟩
theorem exOk : dEx.Ok := by constructor <;> decide
theorem dEx_V : datV dEx = .agg #[.int .u32 1, .int .u32 3221225534, .int .u64 0, .int .u64 0, .int .u64 0, .int .u64 21474836487, .int .u64 0, .int .u64 0, .int .u64 0] := rfl
theorem ex_cells {w : World} {b : Nat} (h : BoxD w b dEx) : w.cell? ⟨b, 0, none⟩ = some (.int .u32 1) ∧ w.cell? ⟨b, 1, none⟩ = some (.int .u32 3221225534) ∧ w.cell? ⟨b, 2, none⟩ = some (.int .u64 0) ∧ w.cell? ⟨b, 3, none⟩ = some (.int .u64 0) ∧ w.cell? ⟨b, 4, none⟩ = some (.int .u64 0) ∧ w.cell? ⟨b, 5, none⟩ = some (.int .u64 21474836487) ∧ w.cell? ⟨b, 6, none⟩ = some (.int .u64 0) ∧ w.cell? ⟨b, 7, none⟩ = some (.int .u64 0) ∧ w.cell? ⟨b, 8, none⟩ = some (.int .u64 0) := h.cells
theorem ex_words : wordV dEx 0 = 1 ∧ wordV dEx 4 = 3221225534 ∧ wordV dEx 32 = 7 ∧ wordV dEx 36 = 5 ∧ wordV dEx 2 = 0 ∧ wordV dEx 64 = 0 := by decide +kernel
theorem ex_at {w : World} {b c k : Nat} (hb : w.heap[b]? = some (.cells #[.int .u32 0, .int .u32 4, .int .u32 32, .int .u32 36] 22 (0, 0))) (hc : w.heap[c]? = some (.cells #[.int .u32 1, .int .u32 3221225534, .int .u32 7, .int .u32 5] 22 (0, 0))) (hk : k < 4) :
    ∃ a v : Int, w.cell? ⟨b, k, none⟩ = some (.int .u32 a) ∧ w.cell? ⟨c, k, none⟩ = some (.int .u32 v) ∧ wordV dEx a = v ∧ wordE a = 0 ∧ 0 ≤ a ∧ a < 4294967296 := by
  rw [cell_of_row w b _ _ _ (0, 0) hb, cell_of_row w c _ _ _ (0, 0) hc]
  obtain ⟨e0, e1, e2, e3, _⟩ := ex_words
  match k, hk with
  | 0, _ => exact ⟨_, _, rfl, rfl, e0, rfl, by decide, by decide⟩
  | 1, _ => exact ⟨_, _, rfl, rfl, e1, rfl, by decide, by decide⟩
  | 2, _ => exact ⟨_, _, rfl, rfl, e2, rfl, by decide, by decide⟩
  | 3, _ => exact ⟨_, _, rfl, rfl, e3, rfl, by decide, by decide⟩
theorem keep10 {v w' : World} {p0 p1 p2 p3 p4 p5 p6 p7 p8 p9 : Addr} {u0 u1 u2 u3 u4 u5 u6 u7 u8 u9 : Value} (hb : Below v.heap.size v w') (h : v.cell? p0 = some u0 ∧ v.cell? p1 = some u1 ∧ v.cell? p2 = some u2 ∧ v.cell? p3 = some u3 ∧ v.cell? p4 = some u4 ∧ v.cell? p5 = some u5 ∧ v.cell? p6 = some u6 ∧ v.cell? p7 = some u7 ∧ v.cell? p8 = some u8 ∧ v.cell? p9 = some u9) :
    w'.cell? p0 = some u0 ∧ w'.cell? p1 = some u1 ∧ w'.cell? p2 = some u2 ∧ w'.cell? p3 = some u3 ∧ w'.cell? p4 = some u4 ∧ w'.cell? p5 = some u5 ∧ w'.cell? p6 = some u6 ∧ w'.cell? p7 = some u7 ∧ w'.cell? p8 = some u8 ∧ w'.cell? p9 = some u9 :=
  ⟨(hb.cell (World.block_lt_of_cell? v p0 h.1)).trans h.1, (hb.cell (World.block_lt_of_cell? v p1 h.2.1)).trans h.2.1, (hb.cell (World.block_lt_of_cell? v p2 h.2.2.1)).trans h.2.2.1, (hb.cell (World.block_lt_of_cell? v p3 h.2.2.2.1)).trans h.2.2.2.1, (hb.cell (World.block_lt_of_cell? v p4 h.2.2.2.2.1)).trans h.2.2.2.2.1, (hb.cell (World.block_lt_of_cell? v p5 h.2.2.2.2.2.1)).trans h.2.2.2.2.2.1, (hb.cell (World.block_lt_of_cell? v p6 h.2.2.2.2.2.2.1)).trans h.2.2.2.2.2.2.1, (hb.cell (World.block_lt_of_cell? v p7 h.2.2.2.2.2.2.2.1)).trans h.2.2.2.2.2.2.2.1, (hb.cell (World.block_lt_of_cell? v p8 h.2.2.2.2.2.2.2.2.1)).trans h.2.2.2.2.2.2.2.2.1, (hb.cell (World.block_lt_of_cell? v p9 h.2.2.2.2.2.2.2.2.2)).trans h.2.2.2.2.2.2.2.2.2⟩
set_option maxRecDepth 100000 in
set_option maxHeartbeats 4000000 in
theorem awake3_any (HC : DataC) (w : World) : Calls Try.prog 15 #[] w fun e w' => e = .returned (.bool true) ∧ Below w.heap.size w w' := by
  have HW := Lib.hid (fun a W h0 h1 => HC.word dEx a W exOk h0 h1)
  have K1 := Lib.hid (fun W => HC.word dEx 2 W exOk (by decide) (by decide))
  have K2 := Lib.hid (fun W => HC.word dEx 64 W exOk (by decide) (by decide))
  have L1 := Lib.hid (fun W => HC.low 2 W (by decide) (by decide))
  have L2 := Lib.hid (fun W => HC.high 2 W (by decide) (by decide))
  have L3 := Lib.hid (fun W => HC.low 6 W (by decide) (by decide))
  rw [ex_words.2.2.2.2.1, show wordE 2 = 41 from rfl] at K1
  rw [ex_words.2.2.2.2.2, show wordE 64 = 41 from rfl] at K2
  rw [show lowV 2 = 32 from rfl, show argB 2 = true from rfl] at L1
  rw [show highV 2 = 36 from rfl, show argB 2 = true from rfl] at L2
  rw [show lowV 6 = 0 from rfl, show argB 6 = false from rfl] at L3
  simp only [dEx_V] at HW K1 K2
  clear HC
  obtain ⟨W0, hW0⟩ : ∃ W0, W0 = ((w.alloc (.cells #[.int .u32 1, .int .u32 3221225534, .int .u64 0, .int .u64 0, .int .u64 0, .int .u64 21474836487, .int .u64 0, .int .u64 0, .int .u64 0] 26)).alloc (.cells #[.int .u32 0, .int .u32 4, .int .u32 32, .int .u32 36] 22)).alloc (.cells #[.int .u32 1, .int .u32 3221225534, .int .u32 7, .int .u32 5] 22) := ⟨_, rfl⟩
  have B0 : Below w.heap.size w W0 := by rw [hW0]; exact (((Below.refl _ _).alloc (Nat.le_refl _) _).alloc (by simp) _).alloc (by simp; omega) _
  have bx : BoxD W0 w.heap.size dEx := by rw [hW0]; exact ((BoxD.new w dEx).alloc _).alloc _
  have h1 : W0.heap[w.heap.size + 1]? = some (.cells #[.int .u32 0, .int .u32 4, .int .u32 32, .int .u32 36] 22 (0, 0)) := by
    have h := heap_alloc_new (w.alloc (.cells #[.int .u32 1, .int .u32 3221225534, .int .u64 0, .int .u64 0, .int .u64 0, .int .u64 21474836487, .int .u64 0, .int .u64 0, .int .u64 0] 26)) (.cells #[.int .u32 0, .int .u32 4, .int .u32 32, .int .u32 36] 22)
    rw [World.size_alloc] at h
    rw [hW0, Below.heap_alloc _ _ _ (by simp)]; exact h
  have h2 : W0.heap[w.heap.size + 1 + 1]? = some (.cells #[.int .u32 1, .int .u32 3221225534, .int .u32 7, .int .u32 5] 22 (0, 0)) := by
    have h := heap_alloc_new ((w.alloc (.cells #[.int .u32 1, .int .u32 3221225534, .int .u64 0, .int .u64 0, .int .u64 0, .int .u64 21474836487, .int .u64 0, .int .u64 0, .int .u64 0] 26)).alloc (.cells #[.int .u32 0, .int .u32 4, .int .u32 32, .int .u32 36] 22)) (.cells #[.int .u32 1, .int .u32 3221225534, .int .u32 7, .int .u32 5] 22)
    rw [World.size_alloc, World.size_alloc] at h
    rw [hW0]; exact h
  have z0 : W0.heap.size = w.heap.size + 3 := by rw [hW0]; simp
  go_enter Try.func15, Try.ntmps15
  go_wp2_with fail
  rw [← hW0]
  have H1 := Lib.hid h1
  have H2 := Lib.hid h2
  have HZ := Lib.hid z0
  clear hW0 h1 h2 z0
  go_loopw [4] (fun i wr => ∃ k : Nat, k ≤ 4 ∧ i = .int .i64 k ∧ BoxD wr w.heap.size dEx ∧ Below W0.heap.size W0 wr) (fun i _ => 4 - (intOf i).toNat)
  case atStart => exact ⟨0, by omega, rfl, bx, Below.refl _ _⟩
  case round =>
    clear bx
    obtain ⟨k, hk, rfl, hbx, hb⟩ := hrel
    obtain ⟨x0, x1, x2, x3, x4, x5, x6, x7, x8⟩ := ex_cells hbx
    by_cases hlt : k < 4
    · have r1 := (hb.block (w.heap.size + 1) (by have := HZ.out; omega)).trans H1.out
      have r2 := (hb.block (w.heap.size + 1 + 1) (by have := HZ.out; omega)).trans H2.out
      obtain ⟨a, v, ca, cv, e1, e2, a0, a1⟩ := ex_at r1 r2 hlt
      have HWk := Lib.hid (fun W => HW.out a W a0 a1)
      rw [e1, e2] at HWk
      clear r1 r2 e1 e2
      go_wp2_with fail
      go_region_held3 (fun w' => w'.cell? ⟨w.heap.size, 0, none⟩ = some (.int .u32 1) ∧ w'.cell? ⟨w.heap.size, 1, none⟩ = some (.int .u32 3221225534) ∧ w'.cell? ⟨w.heap.size, 2, none⟩ = some (.int .u64 0) ∧ w'.cell? ⟨w.heap.size, 3, none⟩ = some (.int .u64 0) ∧ w'.cell? ⟨w.heap.size, 4, none⟩ = some (.int .u64 0) ∧ w'.cell? ⟨w.heap.size, 5, none⟩ = some (.int .u64 21474836487) ∧ w'.cell? ⟨w.heap.size, 6, none⟩ = some (.int .u64 0) ∧ w'.cell? ⟨w.heap.size, 7, none⟩ = some (.int .u64 0) ∧ w'.cell? ⟨w.heap.size, 8, none⟩ = some (.int .u64 0) ∧ w'.cell? ⟨w.heap.size + 1, k, none⟩ = some (.int .u32 a))
        (first | assumption | exact ⟨x0, x1, x2, x3, x4, x5, x6, x7, x8, ca⟩ | exact keep10 (by assumption) (by assumption))
        (first | (go_at_call 11; ((with_reducible refine (HWk.out _).mono ?_); rintro e w1 ⟨rfl, b1⟩)))
      have cv1 : w1.cell? ⟨w.heap.size + 1 + 1, k, none⟩ = some (.int .u32 v) := (b1.cell (World.block_lt_of_cell? wr _ cv)).trans cv
      go_wp2
      go_roundw
      case rel => exact ⟨k + 1, by omega, by go_num, BoxD.on (w := wr) hbx ⟨b1.os, b1.tape, b1.output, b1.size, b1.block⟩, thn (w := wr) hb ⟨b1.os, b1.tape, b1.output, b1.size, b1.block⟩⟩
      case measure => simp [intOf]; omega
    · obtain rfl : k = 4 := by omega
      go_wp2_with (first
        | (go_at_call 11; ((with_reducible refine (K1.out _).mono ?_); rintro e w1 ⟨rfl, b1⟩); obtain ⟨y0, y1, y2, y3, y4, y5, y6, y7, y8⟩ := ex_cells (hbx.on b1))
        | (go_at_call 11; ((with_reducible refine (K2.out _).mono ?_); rintro e w2 ⟨rfl, b2⟩))
        | (go_at_call 18; ((with_reducible refine (L1.out _).mono ?_); rintro e w3 ⟨rfl, b3⟩))
        | (go_at_call 19; ((with_reducible refine (L2.out _).mono ?_); rintro e w4 ⟨rfl, b4⟩))
        | (go_at_call 18; ((with_reducible refine (L3.out _).mono ?_); rintro e w5 ⟨rfl, b5⟩)))
      go_ret
      exact ⟨rfl, thn (thn (thn (thn (thn (thn B0 hb) b1) b2) b3) b4) b5⟩
end Go.Proofs.Ythoichjomfdgjaa
