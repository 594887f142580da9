/- The statement WordsCat holds: any lists one behind the other, and whether two are the same, are what the chapter says; they stay, and what is told is the caller's own. Condition: what was read takes no more bytes than the form's reach. -/
import Derived.Test.YtegbagbcbnloaaaRows
import Derived.Test.YtegbagbcbnloaaaFr
import Derived.Test.YtegbagbcbnloaaaFl
import Derived.Deep.RegionHeld3
import Derived.Deep.DrawnRows
namespace Go.Proofs.Ytegbagbcbnloaaa.wordsCat
open Go.ChangeShapes Go.WideShapes Go.ChangeAt Go.RowKit
set_option linter.unusedVariables false
attribute [local go_sem ↓] Go.wp_at_zero Go.wp_at_succ

/-- The slice leads to the bytes, in another block than M. -/
def RdX (w : World) (M : Nat) (p : Option Addr) (xs : List Int) : Prop :=
  0 < xs.length → ∃ b o, p = some ⟨b, o, none⟩ ∧ b < w.heap.size ∧ b ≠ M ∧ ∀ i, i < xs.length → w.cell? ⟨b, o + i, none⟩ = some (.int .u8 (xs.getD i 0))
theorem RdX.rd {w : World} {M : Nat} {p : Option Addr} {xs : List Int} (h : RdX w M p xs) : Rd w w.heap.size p xs := fun hn => by
  obtain ⟨b, o, e, hb, _, hc⟩ := h hn
  exact ⟨b, o, e, hb, hc⟩
theorem RdX.nil (w : World) (M : Nat) (p : Option Addr) : RdX w M p [] := fun h => absurd h (by simp)
theorem RdX.on {w w' : World} {M : Nat} {p : Option Addr} {xs : List Int} (h : RdX w M p xs) (hb : Below w.heap.size w w') : RdX w' M p xs := fun hn => by
  obtain ⟨b, o, e, h1, h2, hc⟩ := h hn
  exact ⟨b, o, e, Nat.lt_of_lt_of_le h1 hb.size, h2, fun i hi => (hb.cell (p := ⟨b, o + i, none⟩) h1).trans (hc i hi)⟩
theorem RdX.set_ {w : World} {M : Nat} {p : Option Addr} {xs : List Int} (h : RdX w M p xs) (j : Nat) (u : Value) : RdX (w.setCell ⟨M, j, none⟩ u) M p xs := fun hn => by
  obtain ⟨b, o, e, h1, h2, hc⟩ := h hn
  refine ⟨b, o, e, by simpa [World.setCell] using h1, h2, fun i hi => ?_⟩
  rw [World.cell?_setCell_other w _ _ u (fun e => h2 (by injection e with e; exact e.symm))]
  exact hc i hi
theorem RdX.own {w w' : World} {g n c M : Nat} {e : TypeId} {xs : List Int} (h : w'.ownsRow w.heap.size e 1 (.slice (some ⟨g, 0, none⟩) n c) n (bv xs)) (hM : M < w.heap.size) : RdX w' M (some ⟨g, 0, none⟩) xs := fun hn => by
  obtain ⟨b, o, e, hb, hc⟩ := Rd.of_own h hn
  have hl := h.lt g rfl
  injection e with e
  injection e with e1 e2 _
  subst e1 e2
  exact ⟨_, _, rfl, hb, by omega, hc⟩
/-- After k rounds: the block M holds the slices of the copies so far. -/
structure St (w : World) (M n : Nat) (z : List (List Int)) (k : Nat) : Prop where
  row : ∃ vals : List Value, w.heap[M]? = some (.cells vals.toArray 22 (0, 0)) ∧ vals.length = n ∧
    ∀ j, j < k → ∃ g, vals[j]? = some (.slice (some ⟨g, 0, none⟩) (z.getD j []).length (z.getD j []).length) ∧ RdX w M (some ⟨g, 0, none⟩) (z.getD j [])
theorem St.lt {w : World} {M n k : Nat} {z : List (List Int)} (h : St w M n z k) : M < w.heap.size := by
  obtain ⟨vals, h1, _⟩ := h.row
  exact lt_of_block h1
theorem St.on {w w' : World} {M n k : Nat} {z : List (List Int)} (h : St w M n z k) (hb : Below w.heap.size w w') : St w' M n z k := by
  have hl := h.lt
  obtain ⟨vals, h1, h2, h3⟩ := h.row
  refine ⟨vals, (hb.block M hl).trans h1, h2, fun j hj => ?_⟩
  obtain ⟨g, h4, h5⟩ := h3 j hj
  exact ⟨g, h4, h5.on hb⟩
theorem St.cell {w : World} {M n k : Nat} {z : List (List Int)} (h : St w M n z k) (j : Nat) (hj : j < n) : (∃ v, w.cell? ⟨M, j, none⟩ = some v) ∧ w.frozen? ⟨M, j, none⟩ = false := by
  obtain ⟨vals, h1, h2, h3⟩ := h.row
  refine ⟨?_, frozen_of_row w M j vals.toArray _ h1⟩
  rw [cell_of_row w M j vals.toArray _ (0, 0) h1, List.getElem?_toArray]
  exact ⟨_, List.getElem?_eq_getElem (by omega)⟩
theorem St.step {w : World} {M n k g : Nat} {z : List (List Int)} (h : St w M n z k) (hk : k < n) (hr : RdX w M (some ⟨g, 0, none⟩) (z.getD k [])) :
    St (w.setCell ⟨M, k, none⟩ (.slice (some ⟨g, 0, none⟩) (z.getD k []).length (z.getD k []).length)) M n z (k + 1) := by
  obtain ⟨vals, h1, h2, h3⟩ := h.row
  refine ⟨vals.set k (.slice (some ⟨g, 0, none⟩) (z.getD k []).length (z.getD k []).length), ?_, by simpa using h2, fun j hj => ?_⟩
  · have := heap_setCell_same w M k vals.toArray 22 (.slice (some ⟨g, 0, none⟩) (z.getD k []).length (z.getD k []).length) h1
    simpa using this
  · by_cases e : j = k
    · subst e
      exact ⟨g, by rw [List.getElem?_set_self (by omega)], hr.set_ _ _⟩
    · obtain ⟨g', h4, h5⟩ := h3 j (by omega)
      exact ⟨g', by rw [List.getElem?_set_ne (by omega)]; exact h4, h5.set_ _ _⟩
theorem St.rdl {w : World} {M n : Nat} {z : List (List Int)} (h : St w M n z n) (hz : z.length = n) : RdL w w.heap.size (some ⟨M, 0, none⟩) z := fun hn => by
  have hl := h.lt
  obtain ⟨vals, h1, h2, h3⟩ := h.row
  refine ⟨M, 0, rfl, hl, fun i hi => ?_⟩
  obtain ⟨g, h4, h5⟩ := h3 i (by omega)
  refine ⟨some ⟨g, 0, none⟩, (z.getD i []).length, ?_, h5.rd, fun h => by cases h⟩
  rw [Nat.zero_add, cell_of_row w M i vals.toArray _ (0, 0) h1, List.getElem?_toArray]
  exact h4
theorem lenL_le' (z : List (List Int)) {j k : Nat} (h : j ≤ k) : lenL z j ≤ lenL z k := by
  have := lenL_le (z.take k) j
  unfold lenL at this ⊢
  rwa [List.take_take, Nat.min_eq_left h] at this
theorem slice_info : (Try.prog.info? 22).map (fun i => (i.zero, i.size, i.bytes)) = some (some (.slice none 0 0), 1, 24) := by kernel_rfl
theorem St.new {w w1 : World} {n : Nat} {z : List (List Int)} (h : w1.ownsRow w.heap.size 22 1 (.slice (some ⟨w.heap.size, 0, none⟩) n n) n (madeCells (Value.slice none 0 0).cells (n * 1)).toList) : St w1 w.heap.size n z 0 :=
  ⟨_, own_heap h, by have := h.1; omega, fun j hj => absurd hj (by omega)⟩

set_option maxHeartbeats 4000000 in
theorem walk (a0 : Option Addr) (len0 cap0 : Nat) (z0 : List (List Int)) (w : World) (w0 : IsLists w a0 len0 cap0 z0) :
    Calls Try.prog 5 #[.slice a0 len0 cap0] w fun e w' => e = .returned (.bool true) ∧ Below w.heap.size w w' := by
  obtain ⟨hz, hB, hS, hc, hmx, hr⟩ := w0
  unfold maxLen at hmx
  have HZ := Lib.hid hz
  have HB := Lib.hid hB
  have HS := Lib.hid hS
  have HR := Lib.hid hr
  clear hz hB hS hr
  go_enter Try.func5, Try.ntmps5
  go_wp2_with fail
  go_loop [3, 4] (fun n i => ∃ k : Nat, k ≤ len0 ∧ i = .int .i64 k ∧ ∃ s : Nat, n = .int .i64 s ∧ s ≤ 1020 ∧ Hid (s = lenL z0 k + k)) (fun _ i => len0 - (intOf i).toNat)
  case atStart => exact ⟨0, Nat.zero_le _, rfl, 0, rfl, by omega, rfl⟩
  case round =>
    obtain ⟨k, hk, rfl, s, rfl, hs, hsum⟩ := hrel
    by_cases hlt : k < len0
    · obtain ⟨b, o, rfl, hb, hcl⟩ := HR.out (by have := HZ.out; omega)
      obtain ⟨q, cq, h1, h2, h3⟩ := hcl k (by have := HZ.out; omega)
      obtain ⟨lk, hlk⟩ : ∃ lk, lk = (z0.getD k []).length := ⟨_, rfl⟩
      rw [← hlk] at h1
      have hst := Lib.hid (show s + lk + 1 = lenL z0 (k + 1) + (k + 1) by rw [lenL_step (by have := HZ.out; omega), hsum.out, hlk]; omega)
      have hl3 : lk ≤ 140737488351232 := by rw [hlk]; exact HS.out k
      have hl4 : (s : Int) + lk ≤ 140737488352252 := by omega
      clear hlk hcl h2 h3
      by_cases hbig : 1020 < s + lk + 1
      · have hb' : (1020 : Int) < (s : Int) + lk + 1 := by omega
        go_wp2_with fail
        go_ret
        exact ⟨rfl, Below.refl _ _⟩
      · have hb' : ¬ (1020 : Int) < (s : Int) + lk + 1 := by omega
        go_wp2_with fail
        go_round
        case rel => exact ⟨k + 1, by omega, by go_num, s + lk + 1, by go_num, by omega, hst.out⟩
        case measure => simp [intOf]; omega
    · obtain rfl : k = len0 := by omega
      have htot : lenL z0 k ≤ 1020 := by have := hsum.out; omega
      clear hsum hlt
      by_cases h20 : (20 : Int) < k
      · go_wp2_with fail
        go_ret
        exact ⟨rfl, Below.refl _ _⟩
      · have hsmall : k ≤ 20 := by omega
        obtain ⟨i0, hi, hz0, hz1, hz2⟩ := info_parts slice_info
        have hm0 : i0.bytes * k ≤ 281474976710656 := by rw [hz2]; omega
        have hm1 : k ≤ maxLen := by unfold maxLen; omega
        have HI := Lib.hid hi
        have H0 := Lib.hid hz0
        have H1 := Lib.hid hz1
        clear hi hz0 hz1 hz2
        go_wp2_with (at_make
                     refine wpList_make_full _ rfl _ _ 43 rfl w.heap.size 22 i0 _ 1 Try.underlying43 HI.out H0.out H1.out .i64 .i64 k k k rfl rfl rfl rfl hm0 hm1 (Nat.le_refl _) ?_
                     intro w1 hown hg
                     have hb1 : Below w.heap.size w w1 := (Below.refl _ _).grown hg (Nat.le_refl _) (by intro k hk; cases hk)
                     have hst0 := St.new (z := z0) hown
                     clear hown hg)
        go_loopw [5, 7] (fun v i wr => ∃ j : Nat, j ≤ k ∧ i = .int .i64 j ∧
            (∃ p s c, v = .slice p s c ∧ Hid (s = lenL z0 j) ∧ s ≤ 1020 ∧ RdX wr w.heap.size p (z0.take j).flatten) ∧ St wr w.heap.size k z0 j ∧ Below w.heap.size w wr) (fun _ i _ => k - (intOf i).toNat)
        case atStart => exact ⟨0, Nat.zero_le _, rfl, ⟨none, 0, 0, rfl, rfl, by omega, RdX.nil _ _ _⟩, hst0, hb1⟩
        case round =>
          clear hst0 hb1
          obtain ⟨j, hj, rfl, ⟨p, s, c, rfl, hs, hs2, hp⟩, hst, hbw⟩ := hrel
          by_cases hlt : j < k
          · obtain ⟨b, o, rfl, hb, hcl⟩ := (HR.out.below hbw (Nat.le_refl _)) (by have := HZ.out; omega)
            obtain ⟨q, cq, h1, h2, h3⟩ := hcl j (by have := HZ.out; omega)
            obtain ⟨lk, hlk⟩ : ∃ lk, lk = (z0.getD j []).length := ⟨_, rfl⟩
            rw [← hlk] at h1
            have hss := Lib.hid (show s + lk = lenL z0 (j + 1) by rw [lenL_step (by have := HZ.out; omega), hs.out, hlk])
            have hl2 : s + lk ≤ 1020 := by have := hss.out; have := lenL_le' z0 (show j + 1 ≤ k by omega); omega
            have HC := Lib.hid (refCat_any p q s c lk cq (z0.take j).flatten (z0.getD j []) wr hs.out.symm hlk.symm (by omega) hp.rd (h2.more hbw.size))
            have hfl := Lib.hid (show (z0.take (j + 1)).flatten = (z0.take j).flatten ++ z0.getD j [] from flat_step (by have := HZ.out; omega))
            have HL := Lib.hid hlk
            have hbb : b < w.heap.size := hb
            clear hlk hcl
            go_wp2_with (first
              | (go_at_call 20; ((with_reducible refine (HC.out).mono ?_); rintro e w2 ⟨g2, rfl, o2, b2⟩; have c2 := (b2.cell (p := ⟨b, o + j, none⟩) (Nat.lt_of_lt_of_le hbb hbw.size)).trans h1))
              | (go_at_call 9; ((with_reducible refine (refCopy_any q lk cq (z0.getD j []) w2 HL.out.symm (by omega) ((h2.more hbw.size).on b2)).mono ?_); rintro e w3 ⟨g3, rfl, o3, b3⟩; have st3 := (hst.on b2).on b3; obtain ⟨⟨v3, hv3⟩, hf3⟩ := st3.cell j hlt)))
            go_roundw
            case rel =>
              have hM := hst.lt
              have r2 := (RdX.own o2 hM).on b3
              have r3 := RdX.own (M := w.heap.size) o3 (Nat.lt_of_lt_of_le hM b2.size)
              refine ⟨j + 1, by omega, by go_num, ⟨_, _, _, rfl, hss.out, hl2, ?_⟩, ?_, (thn (thn hbw b2) b3).setCell (Nat.le_refl _) _⟩
              · rw [hfl.out]; exact r2.set_ _ _
              · have := st3.step hlt r3
                rw [← HL.out] at this
                exact this
            case measure => simp [intOf]; omega
          · obtain rfl : j = k := by omega
            obtain ⟨W, rfl⟩ : ∃ wo : World, wo = wr := ⟨_, rfl⟩
            have hfl : (z0.take j).flatten = z0.flatten := by rw [List.take_of_length_le (by rw [HZ.out]; exact Nat.le_refl _)]
            have hT : z0.flatten.length = s := by rw [hs.out, lenL_all (by rw [HZ.out]; exact Nat.le_refl _)]
            rw [hfl] at hp
            have HC := Lib.hid (Cat_any (some ⟨w.heap.size, 0, none⟩) j j z0 W HZ.out (by omega) (by omega) (hst.rdl HZ.out))
            rw [hT] at HC
            have HT := Lib.hid hT
            clear hfl hT
            go_wp2_with (first
              | (go_at_call 21; ((with_reducible refine (HC.out).mono ?_); rintro e w2 ⟨g2, rfl, o2, b2⟩))
              | (go_at_call 14; ((with_reducible refine (refSame_yes _ _ s _ _ _ _ z0.flatten z0.flatten w2 rfl HT.out (by omega) (Rd.of_own o2) (hp.on b2).rd).mono ?_); rintro e w3 ⟨rfl, b3⟩)))
            have mc := (show Mine w2 W.heap.size g2 s from ⟨_, o2⟩).on b3
            have hb3 := thn b2 b3
            have hMW := hst.lt
            clear o2 b2 b3 HC HT hp hs
            go_loopw [9] (fun i wr => ∃ t : Nat, t ≤ s ∧ i = .int .i64 t ∧ Mine wr W.heap.size g2 s ∧ Below W.heap.size W wr) (fun i _ => s - (intOf i).toNat)
            case atStart => exact ⟨0, Nat.zero_le _, rfl, mc, hb3⟩
            case round =>
              clear mc hb3
              obtain ⟨t, ht, rfl, mc, hb3⟩ := hrel
              by_cases hlt3 : t < s
              · obtain ⟨⟨v, hv⟩, hf⟩ := mc.cell hlt3
                have hg := mc.lt.1
                go_wp2
                go_roundw
                case rel => exact ⟨t + 1, by omega, by go_num, mc.set_ _ _, hb3.setCell hg _⟩
                case measure => simp [intOf]; omega
              · obtain rfl : t = s := by omega
                clear mc
                go_wp2_with fail
                go_loopw [10] (fun i wr => ∃ y : Nat, y ≤ j ∧ i = .int .i64 y ∧ Below W.heap.size W wr) (fun i _ => j - (intOf i).toNat)
                case atStart => exact ⟨0, Nat.zero_le _, rfl, hb3⟩
                case round =>
                  clear hb3
                  obtain ⟨y, hy, rfl, hb4⟩ := hrel
                  by_cases hlt4 : y < j
                  · have st4 := hst.on hb4
                    obtain ⟨vals, m1, m2, m3⟩ := st4.row
                    obtain ⟨gy, m4, m5⟩ := m3 y hlt4
                    have hb5 : Below w.heap.size w wr := hbw.trans (hb4.mono hbw.size)
                    obtain ⟨b, o, rfl, hb, hcl⟩ := (HR.out.below hb5 (Nat.le_refl _)) (by have := HZ.out; omega)
                    obtain ⟨q, cq, h1, h2, _⟩ := hcl y (by have := HZ.out; omega)
                    obtain ⟨q0, c0, h4, h5, _⟩ := hcl 0 (by have := HZ.out; omega)
                    have hcm : wr.cell? ⟨w.heap.size, y, none⟩ = some (.slice (some ⟨gy, 0, none⟩) (z0.getD y []).length (z0.getD y []).length) := by
                      rw [cell_of_row wr w.heap.size y vals.toArray _ (0, 0) m1, List.getElem?_toArray]; exact m4
                    obtain ⟨ly, hly⟩ : ∃ l, l = (z0.getD y []).length := ⟨_, rfl⟩
                    obtain ⟨l0, hl0⟩ : ∃ l, l = (z0.getD 0 []).length := ⟨_, rfl⟩
                    rw [← hly] at h1 hcm
                    rw [← hl0] at h4
                    have lsmall := HS.out y
                    have lsmall0 := HS.out 0
                    rw [← hly] at lsmall
                    rw [← hl0] at lsmall0
                    obtain ⟨bv, hbv⟩ : ∃ b, b = sameB (z0.getD 0 []) (z0.getD y []) := ⟨_, rfl⟩
                    have C1 := Lib.hid (fun n => refSame_any (some ⟨gy, 0, none⟩) q ly ly ly cq _ _ (z0.getD y []) (z0.getD y []) (wr.drewN n) hly.symm hly.symm (by omega) (by omega) (m5.rd.drewN n) (h2.drewN n))
                    have C2 := Lib.hid (fun n => (Same_any q0 q l0 c0 ly cq _ _ (z0.getD 0 []) (z0.getD y []) (wr.drewN n) hl0.symm hly.symm (HB.out 0) (HB.out y) (h5.drewN n) (h2.drewN n)).mono fun _ _ ⟨x1, x2⟩ => (⟨x1, x2.symm⟩ : _ ∧ _))
                    have C3 := Lib.hid (fun n => refSame_any q0 q l0 c0 ly cq _ _ (z0.getD 0 []) (z0.getD y []) (wr.drewN n) hl0.symm hly.symm (by omega) (by omega) (h5.drewN n) (h2.drewN n))
                    rw [sameB_self] at C1
                    rw [← hbv] at C2 C3
                    have e1 : (bv != bv) = false := by simp
                    rw [Nat.add_zero] at h4
                    have y0 : (0 : Int) ≤ y := by omega
                    have y1 : (y : Int) < j := by omega
                    have y2 : (0 : Int) < j := by omega
                    clear hbv hly hl0 m1 m2 m3 m4 m5 h2 h5 hcl st4 hst lsmall lsmall0 HB HS HR
                    go_wp2_with fail
                    go_quiet (first | (go_at_call 14; with_reducible exact Calls.quiet_of (C1.out _)) | (go_at_call 22; with_reducible exact Calls.quiet_of_same (C2.out _)) | (go_at_call 14; with_reducible exact Calls.quiet_of (C3.out _)))
                    go_wp2
                    go_roundw
                    case rel => exact ⟨y + 1, by omega, by go_num, ⟨hb4.os, hb4.tape, hb4.output, hb4.size, hb4.block⟩⟩
                    case measure => simp [intOf]; omega
                  · go_wp2_with fail
                    go_ret
                    exact ⟨rfl, hbw.trans (hb4.mono hbw.size)⟩

set_option maxRecDepth 100000 in
theorem lifted (os : Os) (started : os.Started) (H : Type) (enc : TypeId × Value → H) :
    ReturnsInHanded {} Try.checked os 5 .any (Rows.wordsCatSpec.pre6 enc Try.prog Try.f5 Rows.wordsCatRow.domain false) (Rows.wordsCatSpec.post enc Try.prog Try.f5 false true false false) := by
  refine returnsInHanded_of_change_sized (C := Try.checked) ownKnob_none started (by kernel_rfl) Try.func5
    (ChangeSpec.witness6 (enc := enc) (C := Try.checked) false ⟨#[], #[.slice none 0 0], []⟩ 8 (by kernel_rfl) (by kernel_rfl) (by kernel_rfl) (by kernel_rfl)) ?_
  intro W base args ds gs before hval0 hW hcnd hsz0 _
  have hval : ∀ (j : Nat) t v, Try.f5.params[j]? = some t → args[j]? = some v → Value.okWide Try.prog W .any base t v := hval0
  have hW' := hW
  obtain ⟨p, q, hA0, hV, rfl, hfz, hnd⟩ := hW
  have hA : DataW.TrodAll enc Try.prog W 0 (fun _ => true) true Try.f5.params.toList args.toList ds p := hA0
  have hsz : (DataW.weightsEach Try.prog (Try.f5.params.toList ++ Rows.wordsCatSpec.plain.varTypes Try.prog) (ds ++ gs)).all (· ≤ reachBytes) = true := hsz0
  rw [Try.params5] at hA hval hsz
  obtain ⟨v0, vs0, d0, ds0, p0, q0, hargs, rfl, rfl, h0, r0⟩ := trodAll_cons hA
  obtain ⟨rfl, rfl, rfl⟩ := trodAll_nil r0
  obtain rfl : args = #[v0] := by cases args; simp_all
  obtain ⟨rfl, rfl⟩ := trodVars_none hV
  obtain ⟨a0, len0, cap0, rfl⟩ := okWide_slice Try.underlying43 (hval 0 43 v0 rfl rfl)
  have k0 := h0
  have lt0 : ∀ x ∈ p0, x.block < W.heap.size := by obtain ⟨m, hm⟩ := k0; exact DataW.trod_lt m _ _ _ hm
  obtain ⟨z0, w0⟩ := lists_open h0 lt0 (fun n hn => of_decide_eq_true (List.all_eq_true.1 hsz n (DataW.weights_mem_each (j := 0) (t := 43) (d := d0) rfl rfl n hn)))
  clear hA0 hval0
  refine (walk a0 len0 cap0 z0 W w0).mono fun e W' ⟨he, bel⟩ => ?_
  subst he
  exact ⟨_, rfl, _, _, _, [], _, [], hW', trodAll_mk1 (shut_bool Try.underlying4 _), (trodAll_cons_mk (Below.trod laidOut (by kernel_rfl) (of_decide_eq_true (by kernel_rfl)) k0 bel lt0) trodAll_mk0), rfl, bel.frame _, fun h => by cases h⟩

theorem over : Rows.wordsCatRow.holds Try.pinned (OpenSpec.ofChange Rows.wordsCatSpec) :=
  OpenClaim.holds_of_wide 5 Try.f5 rfl rfl rfl rfl rfl rfl rfl ⟨rfl, rfl, rfl, rfl, rfl⟩ rfl rfl rfl rfl rfl (by kernel_rfl) Try.func5 (by kernel_rfl)
    (of_decide_eq_true (by kernel_rfl)) (by unfold Func.isWrapper; first | (rw [if_pos (by decide +kernel)]; kernel_rfl) | (rw [if_neg (by decide +kernel)]; exact ⟨rfl, rfl⟩))
    (fun os started H enc _ => lifted os started H enc)

/-- The statement. -/
theorem proved : Rows.WordsCatSaid := over
#print axioms proved

end Go.Proofs.Ytegbagbcbnloaaa.wordsCat
