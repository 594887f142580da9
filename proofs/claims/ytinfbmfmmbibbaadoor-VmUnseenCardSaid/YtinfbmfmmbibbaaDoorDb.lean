/- Data as a value and as cells in memory; what the document's own Print and Word return. Condition: each number fits its kind. -/
import Derived.Test.YtinfbmfmmbibbaaDoorDa
import Derived.Test.YtinfbmfmmbibbaaDoorWh
import Derived.Deep.AppendLies
import Derived.Deep.DrawnRows
import Derived.RegionTactic
import Derived.BigRegion
import Derived.RangeFuncBox
namespace Go.Proofs.YtinfbmfmmbibbaaDoor
open Go.RowKit
set_option linter.unusedVariables false
attribute [local go_sem ↓] Go.wp_at_zero Go.wp_at_succ

/-- Data as cells; as a value it is the same ones. -/
def datC (d : Dat) : Array Value := #[.int .u32 d.nr, .int .u32 d.arch, .int .u64 d.ip, .int .u64 d.a0, .int .u64 d.a1, .int .u64 d.a2, .int .u64 d.a3, .int .u64 d.a4, .int .u64 d.a5]
def datV (d : Dat) : Value := .agg (datC d)
/-- Block b is a box with the data. -/
def BoxD (w : World) (b : Nat) (d : Dat) : Prop := w.heap[b]? = some (.cells (datC d) 27 (0, 0))
theorem BoxD.new (w : World) (d : Dat) : BoxD (w.alloc (.cells (datC d) 27)) w.heap.size d := heap_alloc_new w _
theorem BoxD.lt {w : World} {b : Nat} {d : Dat} (h : BoxD w b d) : b < w.heap.size := (Array.getElem?_eq_some_iff.1 h).1
theorem BoxD.on {w w' : World} {b : Nat} {d : Dat} (h : BoxD w b d) (hb : Below w.heap.size w w') : BoxD w' b d := (hb.block b h.lt).trans h
theorem BoxD.alloc {w : World} {b : Nat} {d : Dat} (h : BoxD w b d) (o : Obj) : BoxD (w.alloc o) b d := h.on ((Below.refl _ _).alloc (Nat.le_refl _) o)
theorem BoxD.drew {w : World} {b : Nat} {d : Dat} (h : BoxD w b d) : BoxD w.drew b d := h
theorem BoxD.drewN {w : World} {b : Nat} {d : Dat} (h : BoxD w b d) (n : Nat) : BoxD (w.drewN n) b d := h
/-- A row of other elements that grows leaves it. -/
theorem BoxD.grown {w w' : World} {b B n s : Nat} {d : Dat} {e : TypeId} {v : Value} {xs : List Value} (h : BoxD w b d) (ho : w.ownsRow B e s v n xs) (hne : e ≠ 27) (hg : w.grownBy w' v.ownBlock) : BoxD w' b d := by
  refine (hg.block b h.lt fun he => ?_).trans h
  rcases ho.2 with ⟨rfl, _⟩ | ⟨g, cap, cur, rfl, _, hh, _⟩
  · cases he
  · injection he with he
    have he : b = g := he
    subst he
    rw [show w.heap[b]? = _ from h] at hh
    injection hh with hh
    injection hh with _ hh
    exact hne hh.symm
theorem BoxD.cells {w : World} {b : Nat} {d : Dat} (h : BoxD w b d) : w.cell? ⟨b, 0, none⟩ = some (.int .u32 d.nr) ∧ w.cell? ⟨b, 1, none⟩ = some (.int .u32 d.arch) ∧ w.cell? ⟨b, 2, none⟩ = some (.int .u64 d.ip) ∧ w.cell? ⟨b, 3, none⟩ = some (.int .u64 d.a0) ∧ w.cell? ⟨b, 4, none⟩ = some (.int .u64 d.a1) ∧ w.cell? ⟨b, 5, none⟩ = some (.int .u64 d.a2) ∧ w.cell? ⟨b, 6, none⟩ = some (.int .u64 d.a3) ∧ w.cell? ⟨b, 7, none⟩ = some (.int .u64 d.a4) ∧ w.cell? ⟨b, 8, none⟩ = some (.int .u64 d.a5) := by
  refine ⟨?_, ?_, ?_, ?_, ?_, ?_, ?_, ?_, ?_⟩ <;> (rw [cell_of_row w b _ (datC d) 27 (0, 0) h]; rfl)
theorem BoxD.arg {w : World} {b : Nat} {d : Dat} (h : BoxD w b d) {k : Nat} (hk : k < 6) : w.cell? ⟨b, 3 + k, none⟩ = some (.int .u64 (d.arg k)) := by
  rw [cell_of_row w b _ (datC d) 27 (0, 0) h]
  match k, hk with
  | 0, _ => rfl
  | 1, _ => rfl
  | 2, _ => rfl
  | 3, _ => rfl
  | 4, _ => rfl
  | 5, _ => rfl
theorem own_on {w w' : World} {B n size : Nat} {e : TypeId} {v : Value} {xs : List Value} (h : w.ownsRow B e size v n xs) (hb : Below w.heap.size w w') : w'.ownsRow B e size v n xs := by
  have hl := h.lt
  obtain ⟨h1, h2⟩ := h
  refine ⟨h1, ?_⟩
  rcases h2 with h2 | ⟨g, cap, cur, hv, hg, hh, r⟩
  · exact Or.inl h2
  · exact Or.inr ⟨g, cap, cur, hv, hg, by rw [hb.block g (hl g (by rw [hv]; rfl)).2]; exact hh, r⟩
theorem own_mono {w : World} {B B' n size : Nat} {e : TypeId} {v : Value} {xs : List Value} (h : w.ownsRow B e size v n xs) (hB : B' ≤ B) : w.ownsRow B' e size v n xs := by
  obtain ⟨h1, h2⟩ := h
  refine ⟨h1, ?_⟩
  rcases h2 with h2 | ⟨g, cap, cur, hv, hg, r⟩
  · exact Or.inl h2
  · exact Or.inr ⟨g, cap, cur, hv, Nat.le_trans hB hg, r⟩
/-- The shape of bytes that are owned. -/
theorem own_shape'' {w : World} {B n : Nat} {e : TypeId} {v : Value} {xs : List Int} (h : w.ownsRow B e 1 v n (bv xs)) : ∃ p c, v = .slice p n c ∧ Rd w w.heap.size p xs ∧ (p = none → c = 0) ∧ n ≤ c := by
  have hl : xs.length = n := by have := h.1; rw [bv_length] at this; omega
  rcases h.2 with ⟨rfl, rfl⟩ | ⟨g, cap, cur, rfl, _, _, hc, _⟩
  · obtain rfl : xs = [] := List.eq_nil_of_length_eq_zero hl
    exact ⟨none, 0, rfl, Rd.nil _ _ _, fun _ => rfl, Nat.le_refl _⟩
  · exact ⟨_, cap, rfl, Rd.of_own h, (fun h => by cases h), hc⟩
set_option maxHeartbeats 4000000 in
set_option maxRecDepth 100000 in
theorem refPrint3 (d : Dat) (w : World) (h : d.Ok) : Calls Tryd.prog 63 #[datV d] w fun e w' => ∃ p c, e = .returned (.slice p 64 c) ∧
    w'.ownsRow w.heap.size 5 1 (.slice p 64 c) 64 (bv (datB d)) ∧ Below w.heap.size w w' := by
  have HO := Lib.hid h
  obtain ⟨i0, hi, hz0, hz1, hz2⟩ := info_parts u8_zero
  have HI := Lib.hid hi
  have H0 := Lib.hid hz0
  have H1 := Lib.hid hz1
  have H2 := Lib.hid hz2
  have P1 := Lib.hid (fun W => refPut32_any d.nr W h.nr0 (Int.lt_trans h.nr1 (by decide)))
  have P2 := Lib.hid (fun W => refPut32_any d.arch W h.arch0 (Int.lt_trans h.arch1 (by decide)))
  have P3 := Lib.hid (fun W => refPut64_any d.ip W h.ip0 h.ip1)
  have n0 := h.nr0
  have n1 := h.nr1
  have r0 := h.arch0
  have r1 := h.arch1
  clear hi hz0 hz1 hz2 h
  obtain ⟨W, hW⟩ : ∃ W, W = w.alloc (.cells (datC d) 27) := ⟨_, rfl⟩
  have bx : BoxD W w.heap.size d := by rw [hW]; exact BoxD.new w d
  have B0 : Below w.heap.size w W := by rw [hW]; exact (Below.refl _ _).alloc (Nat.le_refl _) _
  have hz : w.heap.size ≤ W.heap.size := B0.size
  unfold datC at hW
  obtain ⟨x0, x1, x2, _⟩ := bx.cells
  have HD := Lib.hid (show datP d 0 = putL 4 d.nr ++ putL 4 d.arch ++ putL 8 d.ip from datP_zero d)
  unfold datV datC
  go_enter Tryd.func63, Tryd.ntmps63
  go_wp2_with fail
  rw [← hW]
  clear hW x0
  go_wp2_with (first
    | (go_at_call 66; ((with_reducible refine (P1.out _).mono ?_); rintro e w1 ⟨g1, rfl, o1, b1⟩); have bx1 := bx.on b1; have B1 := B0.trans (b1.mono hz); obtain ⟨_, y1, y2, _⟩ := bx1.cells; have p1 := own_mono o1 hz)
    | (go_at_call 66; ((with_reducible refine (P2.out _).mono ?_); rintro e w2 ⟨g2, rfl, o2, b2⟩); have bx2 := bx1.on b2; have B2 := thn B1 b2; have p2 := own_on p1 b2)
    | ((with_reducible show wpList _ _ _ (⟨some 14, _, _, _, _, _⟩ :: _) _ _)
       refine wpList_append_own _ rfl (.tmp 9) (.tmp 13) 102 rfl w.heap.size 5 i0 _ 1 1 Tryd.underlying102 HI.out H0.out H1.out H2.out rfl (by omega) _ 4 (bv (putL 4 d.nr)) rfl p2 ⟨g2, 0, none⟩ 4 4 (bv (putL 4 d.arch)) rfl rfl (o2.cells rfl) (bv_one _) (by unfold maxLen; omega) (by omega) (by have := B2.size; omega) ?_
       intro v3 w3 o3 hg3 _
       have bx3 := bx2.grown p2 (by decide) hg3
       have B3 := B2.grown hg3 B2.size (fun g hg => (p2.lt g hg).1)
       obtain ⟨_, _, z2, _⟩ := bx3.cells)
    | (go_at_call 66; ((with_reducible refine (P3.out _).mono ?_); rintro e w4 ⟨g4, rfl, o4, b4⟩); have bx4 := bx3.on b4; have B4 := thn B3 b4; have p4 := own_on o3 b4)
    | ((with_reducible show wpList _ _ _ (⟨some 19, _, _, _, _, _⟩ :: _) _ _)
       refine wpList_append_own _ rfl (.tmp 15) (.tmp 18) 102 rfl w.heap.size 5 i0 _ 1 1 Tryd.underlying102 HI.out H0.out H1.out H2.out rfl (by omega) _ (4 + 4) (bv (putL 4 d.nr) ++ bv (putL 4 d.arch)) rfl p4 ⟨g4, 0, none⟩ 8 8 (bv (putL 8 d.ip)) rfl rfl (o4.cells rfl) (bv_one _) (by unfold maxLen; omega) (by omega) (by have := B4.size; omega) ?_
       intro v5 w5 o5 hg5 _
       have bx5 := bx4.grown p4 (by decide) hg5
       have B5 := B4.grown hg5 B4.size (fun g hg => (p4.lt g hg).1)
       have o6 : w5.ownsRow w.heap.size 5 1 v5 16 (bv (datP d 0)) := by
         rw [HD.out]
         have e : bv (putL 4 d.nr ++ putL 4 d.arch ++ putL 8 d.ip) = bv (putL 4 d.nr) ++ bv (putL 4 d.arch) ++ bv (putL 8 d.ip) := by simp [bv]
         rw [e]; exact o5))
  clear bx bx1 bx2 bx3 bx4 B0 B1 B2 B3 B4 o1 o2 o3 o4 o5 p1 p2 p4 b1 b2 b4 hg3 hg5 y1 y2 z2 x1 x2 P1 P2 P3 n0 n1 r0 r1 HD
  go_loopw [3, 4] (fun v i wr => ∃ k : Nat, k ≤ 6 ∧ i = .int .i64 k ∧ (∃ s : Nat, Hid (s = 16 + 8 * k) ∧ wr.ownsRow w.heap.size 5 1 v s (bv (datP d k))) ∧ BoxD wr w.heap.size d ∧ Below w.heap.size w wr) (fun _ i _ => 6 - (intOf i).toNat)
  case atStart => exact ⟨0, by omega, rfl, ⟨16, rfl, o6⟩, bx5, B5⟩
  case round =>
    clear o6 bx5 B5
    obtain ⟨k, hk, rfl, ⟨s, hs, hown⟩, hbx, hb⟩ := hrel
    by_cases hlt : k < 6
    · have hc := hbx.arg hlt
      have hv := HO.out.arg hlt
      have PA := Lib.hid (fun W => refPut64_any (d.arg k) W hv.1 hv.2)
      have hst := Lib.hid (show bv (datP d (k + 1)) = bv (datP d k) ++ bv (putL 8 (d.arg k)) by rw [datP_succ d hlt]; exact List.map_append ..)
      have hs' : s ≤ 64 := by have := hs.out; omega
      clear hv
      go_wp2_with (first
        | (go_at_call 66; ((with_reducible refine (PA.out _).mono ?_); rintro e w1 ⟨g1, rfl, o1, b1⟩); have bx1 := hbx.on b1; have B1 := thn hb b1; have p1 := own_on hown b1)
        | ((with_reducible show wpList _ _ _ (⟨some 30, _, _, _, _, _⟩ :: _) _ _)
           refine wpList_append_own _ rfl (.tmp 24) (.tmp 29) 102 rfl w.heap.size 5 i0 _ 1 1 Tryd.underlying102 HI.out H0.out H1.out H2.out rfl (by omega) _ s (bv (datP d k)) rfl p1 ⟨g1, 0, none⟩ 8 8 (bv (putL 8 (d.arg k))) rfl rfl (o1.cells rfl) (bv_one _) (by unfold maxLen; omega) (by omega) (by have := B1.size; omega) ?_
           intro v2 w2 o2 hg2 _
           have bx2 := bx1.grown p1 (by decide) hg2
           have B2 := B1.grown hg2 B1.size (fun g hg => (p1.lt g hg).1)))
      go_roundw
      case rel => exact ⟨k + 1, by omega, by go_num, ⟨s + 8, by have := hs.out; show s + 8 = 16 + 8 * (k + 1); omega, by rw [hst.out]; exact o2⟩, bx2, B2⟩
      case measure => simp [intOf]; omega
    · obtain rfl : k = 6 := by omega
      obtain rfl : s = 64 := hs.out
      rw [datP_all] at hown
      obtain ⟨q, c, rfl, _⟩ := own_shape'' hown
      go_wp2_with fail
      go_ret
      exact ⟨q, c, rfl, hown, hb⟩
end Go.Proofs.YtinfbmfmmbibbaaDoor
