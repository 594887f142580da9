/- What the document's own Words returns: a value's words. Condition: a string of at most a million bytes. -/
import Derived.Test.YtfmfjnnbldmdlaaDoorKc
import Derived.Test.YtfmfjnnbldmdlaaDoorLe
namespace Go.Proofs.YtfmfjnnbldmdlaaDoor
open Go.RowKit
set_option linter.unusedVariables false
set_option linter.unusedSimpArgs false
attribute [local go_sem ↓] Go.wp_at_zero Go.wp_at_succ

/-- Words that can be read. -/
def WdsAt (w : World) (q : Option Addr) (L : List (List UInt8)) : Prop := ∀ k x, L[k]? = some x → ∃ g o, q = some ⟨g, o, none⟩ ∧ w.cell? ⟨g, o + k, none⟩ = some (.string (bs x))
theorem WdsAt.on {w w' : World} {q : Option Addr} {L : List (List UInt8)} (h : WdsAt w q L) (hb : Below w.heap.size w w') : WdsAt w' q L := fun k x hk => by
  obtain ⟨g, o, e, c⟩ := h k x hk
  exact ⟨g, o, e, (hb.cell (World.block_lt_of_cell? w _ c)).trans c⟩
theorem WdsAt.of_own {w : World} {B n c : Nat} {t : TypeId} {q : Option Addr} {L : List (List UInt8)} (h : w.ownsRow B t 1 (.slice q n c) n (sL L)) (hn : n = L.length) : WdsAt w q L := fun k x hk => by
  have hl : k < n := by rw [hn]; exact (List.getElem?_eq_some_iff.1 hk).1
  obtain ⟨g, cap, hv, _⟩ := h.form (by omega)
  injection hv with e1 e2 e3
  subst e1
  subst e3
  exact ⟨g, 0, rfl, by rw [Nat.zero_add]; exact (h.cellAt k (by omega)).trans (sL_get hk)⟩
theorem wd_blk {l : List UInt8} {a : List UInt8} {P R : List (List UInt8)} {i : Nat} {c : UInt8} (hc : l[i]? = some c) (hb : blkB c = true) (h : P ++ wdA a (l.drop i) = R) : (a = [] → P ++ wdA [] (l.drop (i + 1)) = R) ∧ (a ≠ [] → (P ++ [a]) ++ wdA [] (l.drop (i + 1)) = R) := by
  obtain ⟨hi, rfl⟩ := List.getElem?_eq_some_iff.1 hc
  rw [← List.getElem_cons_drop hi, wdA_blk hb] at h
  constructor
  · intro e; rw [if_pos e] at h; exact h
  · intro e; rw [if_neg e] at h; rw [List.append_assoc]; exact h
theorem wd_go {l : List UInt8} {a : List UInt8} {P R : List (List UInt8)} {i : Nat} {c : UInt8} (hc : l[i]? = some c) (hb : blkB c = false) (h : P ++ wdA a (l.drop i) = R) : P ++ wdA (a ++ [c]) (l.drop (i + 1)) = R := by
  obtain ⟨hi, rfl⟩ := List.getElem?_eq_some_iff.1 hc
  rw [← List.getElem_cons_drop hi, wdA_go hb] at h
  exact h
theorem wd_end {l : List UInt8} {a : List UInt8} {P R : List (List UInt8)} {i : Nat} (hi : l.length ≤ i) (h : P ++ wdA a (l.drop i) = R) (m : Nat) (hm : l.length ≤ m) : (a = [] → P ++ wdA [] (l.drop m) = R) ∧ (a ≠ [] → (P ++ [a]) ++ wdA [] (l.drop m) = R) := by
  rw [List.drop_of_length_le hi, wdA_nil] at h
  rw [List.drop_of_length_le hm, wdA_nil, if_pos rfl]
  constructor
  · intro e; rw [if_pos e] at h; exact h
  · intro e; rw [if_neg e] at h; rw [List.append_nil]; exact h
theorem ext_one {s : ByteArray} {i : Nat} {c : UInt8} (hc : s.data.toList[i]? = some c) : s.extract i (i + 1) = bs10 [c] := by
  obtain ⟨hi, rfl⟩ := List.getElem?_eq_some_iff.1 hc
  rw [ext_bs, List.take_succ_eq_append_getElem hi, List.drop_append_of_le_length (by rw [List.length_take]; omega), List.drop_of_length_le (by rw [List.length_take]; omega)]
  rfl
set_option maxRecDepth 100000 in
set_option maxHeartbeats 16000000 in
theorem refWords (s : ByteArray) (hs : s.size ≤ 1000000) (w : World) : Calls Tryd.prog 8 #[.string s] w fun e w' =>
    ∃ q c, e = .returned (.slice q (wdL s.data.toList).length c) ∧ w'.ownsRow w.heap.size 9 1 (.slice q (wdL s.data.toList).length c) (wdL s.data.toList).length (sL (wdL s.data.toList)) ∧ Below w.heap.size w w' := by
  obtain ⟨i0, hi0, hz0, hz1, hz2⟩ := info_parts str_info12
  have HI := Lib.hid hi0
  have HZ0 := Lib.hid hz0
  have HZ1 := Lib.hid hz1
  have HZ2 := Lib.hid hz2
  obtain ⟨l, hl⟩ : ∃ l, l = s.data.toList := ⟨_, rfl⟩
  obtain ⟨n, hn⟩ : ∃ n, n = s.size := ⟨_, rfl⟩
  have hln : l.length = n := by rw [hl, hn]; simp
  have HLN := Lib.hid hln
  have HL := Lib.hid hl
  have HN := Lib.hid hn
  have HSZ : s.size = n := hn.symm
  have HLE := Lib.hid (wdL_len l)
  have HEX := Lib.hid (fun (i : Nat) (c : UInt8) (h : l[i]? = some c) => (ext_one (by rw [← hl]; exact h) : s.extract i (i + 1) = bs10 [c]))
  have HGET := Lib.hid (fun (i : Nat) (h : i < s.size) => (by rw [hl]; rw [List.getElem?_eq_getElem (by simpa using h)]; rfl : l[i]? = some s[i]))
  rw [← hl]
  obtain ⟨R, hR⟩ : ∃ R, R = wdL l := ⟨_, rfl⟩
  rw [← hR] at HLE ⊢
  have H0 : Hid ([] ++ wdA [] (l.drop 0) = R) := Lib.hid (by rw [hR]; rfl)
  rw [hln] at HLE
  have HALL := Lib.hid (fun (P : List (List UInt8)) (a : List UInt8) (i : Nat) (h : P ++ wdA a (l.drop i) = R) => (by have := congrArg List.length h; rw [List.length_append] at this; have := HLE.out; omega : P.length ≤ n))
  have hnm : n ≤ 1000000 := by omega
  clear hi0 hz0 hz1 hz2 hl hR hln hn hs
  go_enter Tryd.func8, Tryd.ntmps8
  go_wp2
  go_loopw [3, 4, 5] (fun v3 v4 v5 wr => ∃ (i : Nat) (a : List UInt8) (P : List (List UInt8)), i ≤ n + 1 ∧ (i = n + 1 → a = []) ∧ a.length ≤ i ∧ v5 = .int .i64 i ∧ v4 = .string (bs10 a) ∧ Hid (P ++ wdA a (l.drop i) = R) ∧ Hid (wr.ownsRow w.heap.size 9 1 v3 P.length (sL P)) ∧ Hid (Below w.heap.size w wr)) (fun _ _ v5 _ => n + 1 - (intOf v5).toNat)
  case atStart => exact ⟨0, [], [], by omega, (fun _ => rfl), by simp, rfl, rfl, H0, Lib.hid (World.ownsRow_nil _ _ _ _), Lib.hid (Below.refl _ _)⟩
  case round =>
    obtain ⟨i, a, P, hi, ha1, hal, rfl, rfl, HS, PO, PB⟩ := hrel
    obtain ⟨V, rfl⟩ : ∃ wo : World, wo = wr := ⟨_, rfl⟩
    obtain ⟨p, hp⟩ : ∃ p, p = P.length := ⟨_, rfl⟩
    have HP := Lib.hid hp
    have hple : p ≤ n := by rw [hp]; exact HALL.out P a i HS.out
    rw [← hp] at PO
    have HA1 := Lib.hid ha1
    clear hp HALL HLE ha1
    by_cases hle : i ≤ n
    · have k3 : (i : Int) ≤ n := by omega
      have k0 : (0 : Int) ≤ i := by omega
      have hw1 : IntKind.i64.wrap ((i : Int) + 1) = i + 1 := by rw [IntKind.wrap_i64]; omega
      by_cases hlt : i < n
      · have k1 : (i : Int) < n := by omega
        have k2 : (i : Int) + 1 ≤ n := by omega
        have k4 : (i : Int) ≤ i + 1 := by omega
        have hib : i < s.size := by omega
        obtain ⟨c, hc⟩ : ∃ c, c = s[i]'hib := ⟨_, rfl⟩
        have hget := HGET.out i hib
        rw [← hc] at hget
        obtain ⟨x, hx⟩ : ∃ x, x = (c.toNat : Int) := ⟨_, rfl⟩
        have hidx : ((s[i]'hib).toNat : Int) = x := by rw [hx, hc]
        have hbl : blkI x = blkB c := by rw [hx]; exact blkI_nat c
        have HX := Lib.hid (HEX.out i c hget)
        have HG := Lib.hid hget
        cases hb : blkB c with
        | true =>
          obtain ⟨f1, f2⟩ := wd_blk hget hb HS.out
          have F1 := Lib.hid f1
          have F2 := Lib.hid f2
          unfold blkI at hbl
          rw [hb] at hbl
          by_cases e1 : x = 32
          · subst e1
            clear hbl hb hx hc f1 f2 hget HEX HGET HG HX
            by_cases hnil : a = []
            · have F := Lib.hid (F1.out hnil)
              have t0 : bs10 a = ⟨#[]⟩ := by rw [hnil]; rfl
              rw [t0]
              clear F1 F2 t0
              go_wp2_with fail
              go_roundw
              case rel => exact ⟨i + 1, [], P, by omega, (fun _ => rfl), by simp, by go_num, rfl, F, Lib.hid (by rw [← HP.out]; exact PO.out), PB⟩
              case measure => first | (simp [intOf]; done) | (simp [intOf]; omega)
            · have F := Lib.hid (F2.out hnil)
              have t0 : (bs10 a).toList = a := bs_toList a
              have t1 : (bs10 a).toList.isEmpty = false := by rw [t0]; cases a with | nil => exact absurd rfl hnil | cons => rfl
              have t2 : ((bs10 a).toList == []) = false := by rw [t0]; cases a with | nil => exact absurd rfl hnil | cons => rfl
              clear F1 F2 hnil t0
              go_wp2_with (first
                | (at_builtin
                   refine wpList_append_own _ rfl (.tmp 43) (.tmp 45) 22 rfl w.heap.size 9 i0 _ 1 16 Tryd.underlying22 HI.out HZ0.out HZ1.out HZ2.out rfl (by omega) _ p _ rfl (PO.out.alloc _) ⟨V.heap.size, 0, none⟩ 1 1 (sL [a]) rfl rfl (news_s V a _) (sL_one _) (by unfold maxLen; omega) (by omega) (by rw [World.size_alloc]; exact Nat.le_succ_of_le PB.out.size) ?_
                   intro vA wA oA hA _
                   rw [← sL_app] at oA
                   have OA := Lib.hid oA
                   have BA := Lib.hid ((PB.out.alloc PB.out.size _).grown hA (by rw [World.size_alloc]; exact Nat.le_succ_of_le PB.out.size) (fun g hg => (PO.out.lt g hg).1))
                   clear oA hA))
              go_roundw
              case rel => exact ⟨i + 1, [], P ++ [a], by omega, (fun _ => rfl), by simp, by go_num, rfl, F, Lib.hid (by rw [List.length_append, ← HP.out]; exact OA.out), BA⟩
              case measure => first | (simp [intOf]; done) | (simp [intOf]; omega)
          · have d1 : (x == 32) = false := beq_eq_false_iff_ne.2 e1
            by_cases e2 : x = 9
            · subst e2
              clear hbl hb hx hc f1 f2 hget HEX HGET HG HX e1
              by_cases hnil : a = []
              · have F := Lib.hid (F1.out hnil)
                have t0 : bs10 a = ⟨#[]⟩ := by rw [hnil]; rfl
                rw [t0]
                clear F1 F2 t0
                go_wp2_with fail
                go_roundw
                case rel => exact ⟨i + 1, [], P, by omega, (fun _ => rfl), by simp, by go_num, rfl, F, Lib.hid (by rw [← HP.out]; exact PO.out), PB⟩
                case measure => first | (simp [intOf]; done) | (simp [intOf]; omega)
              · have F := Lib.hid (F2.out hnil)
                have t0 : (bs10 a).toList = a := bs_toList a
                have t1 : (bs10 a).toList.isEmpty = false := by rw [t0]; cases a with | nil => exact absurd rfl hnil | cons => rfl
                have t2 : ((bs10 a).toList == []) = false := by rw [t0]; cases a with | nil => exact absurd rfl hnil | cons => rfl
                clear F1 F2 hnil t0
                go_wp2_with (first
                  | (at_builtin
                     refine wpList_append_own _ rfl (.tmp 43) (.tmp 45) 22 rfl w.heap.size 9 i0 _ 1 16 Tryd.underlying22 HI.out HZ0.out HZ1.out HZ2.out rfl (by omega) _ p _ rfl (PO.out.alloc _) ⟨V.heap.size, 0, none⟩ 1 1 (sL [a]) rfl rfl (news_s V a _) (sL_one _) (by unfold maxLen; omega) (by omega) (by rw [World.size_alloc]; exact Nat.le_succ_of_le PB.out.size) ?_
                     intro vA wA oA hA _
                     rw [← sL_app] at oA
                     have OA := Lib.hid oA
                     have BA := Lib.hid ((PB.out.alloc PB.out.size _).grown hA (by rw [World.size_alloc]; exact Nat.le_succ_of_le PB.out.size) (fun g hg => (PO.out.lt g hg).1))
                     clear oA hA))
                go_roundw
                case rel => exact ⟨i + 1, [], P ++ [a], by omega, (fun _ => rfl), by simp, by go_num, rfl, F, Lib.hid (by rw [List.length_append, ← HP.out]; exact OA.out), BA⟩
                case measure => first | (simp [intOf]; done) | (simp [intOf]; omega)
            · have d2 : (x == 9) = false := beq_eq_false_iff_ne.2 e2
              rw [d1, d2, Bool.false_or, Bool.false_or] at hbl
              obtain rfl : x = 13 := beq_iff_eq.1 hbl
              clear hbl hb hx hc f1 f2 hget HEX HGET HG HX e1 e2
              by_cases hnil : a = []
              · have F := Lib.hid (F1.out hnil)
                have t0 : bs10 a = ⟨#[]⟩ := by rw [hnil]; rfl
                rw [t0]
                clear F1 F2 t0
                go_wp2_with fail
                go_roundw
                case rel => exact ⟨i + 1, [], P, by omega, (fun _ => rfl), by simp, by go_num, rfl, F, Lib.hid (by rw [← HP.out]; exact PO.out), PB⟩
                case measure => first | (simp [intOf]; done) | (simp [intOf]; omega)
              · have F := Lib.hid (F2.out hnil)
                have t0 : (bs10 a).toList = a := bs_toList a
                have t1 : (bs10 a).toList.isEmpty = false := by rw [t0]; cases a with | nil => exact absurd rfl hnil | cons => rfl
                have t2 : ((bs10 a).toList == []) = false := by rw [t0]; cases a with | nil => exact absurd rfl hnil | cons => rfl
                clear F1 F2 hnil t0
                go_wp2_with (first
                  | (at_builtin
                     refine wpList_append_own _ rfl (.tmp 43) (.tmp 45) 22 rfl w.heap.size 9 i0 _ 1 16 Tryd.underlying22 HI.out HZ0.out HZ1.out HZ2.out rfl (by omega) _ p _ rfl (PO.out.alloc _) ⟨V.heap.size, 0, none⟩ 1 1 (sL [a]) rfl rfl (news_s V a _) (sL_one _) (by unfold maxLen; omega) (by omega) (by rw [World.size_alloc]; exact Nat.le_succ_of_le PB.out.size) ?_
                     intro vA wA oA hA _
                     rw [← sL_app] at oA
                     have OA := Lib.hid oA
                     have BA := Lib.hid ((PB.out.alloc PB.out.size _).grown hA (by rw [World.size_alloc]; exact Nat.le_succ_of_le PB.out.size) (fun g hg => (PO.out.lt g hg).1))
                     clear oA hA))
                go_roundw
                case rel => exact ⟨i + 1, [], P ++ [a], by omega, (fun _ => rfl), by simp, by go_num, rfl, F, Lib.hid (by rw [List.length_append, ← HP.out]; exact OA.out), BA⟩
                case measure => first | (simp [intOf]; done) | (simp [intOf]; omega)
        | false =>
          have hgo := Lib.hid (wd_go hget hb HS.out)
          unfold blkI at hbl
          rw [hb, Bool.or_eq_false_iff, Bool.or_eq_false_iff] at hbl
          obtain ⟨⟨e1, e2⟩, e3⟩ := hbl
          have n1 : ¬ x = 32 := beq_eq_false_iff_ne.1 e1
          have n2 : ¬ x = 9 := beq_eq_false_iff_ne.1 e2
          have n3 : ¬ x = 13 := beq_eq_false_iff_ne.1 e3
          have m1 : (x != 32) = true := bne_iff_ne.2 n1
          have m2 : (x != 9) = true := bne_iff_ne.2 n2
          have m3 : (x != 13) = true := bne_iff_ne.2 n3
          clear hb hx hc hget HEX HGET
          go_wp2_with (first
            | ((with_reducible show wpList _ _ _ (⟨some 40, _, _, _, _, _⟩ :: _) _ _)
               refine wpList_cat10 (x := a) (y := [c]) rfl rfl rfl (by first | exact congrArg Value.string HX.out | (simp; exact HX.out)) (by simp; omega) ?_))
          go_roundw
          case rel => exact ⟨i + 1, a ++ [c], P, by omega, (fun h => absurd h (by omega)), by simp; omega, by go_num, rfl, hgo, Lib.hid (by rw [← HP.out]; exact PO.out), PB⟩
          case measure => first | (simp [intOf]; done) | (simp [intOf]; omega)
      · obtain rfl : i = n := by omega
        have kk : ¬ (i : Int) < i := by omega
        obtain ⟨f1, f2⟩ := wd_end (l := l) (i := i) (by rw [HLN.out]; omega) HS.out (i + 1) (by rw [HLN.out]; omega)
        have F1 := Lib.hid f1
        have F2 := Lib.hid f2
        clear f1 f2 HEX HGET
        by_cases hnil : a = []
        · have F := Lib.hid (F1.out hnil)
          have t0 : bs10 a = ⟨#[]⟩ := by rw [hnil]; rfl
          rw [t0]
          clear F1 F2 t0
          go_wp2_with fail
          go_roundw
          case rel => exact ⟨i + 1, [], P, by omega, (fun _ => rfl), by simp, by go_num, rfl, F, Lib.hid (by rw [← HP.out]; exact PO.out), PB⟩
          case measure => first | (simp [intOf]; done) | (simp [intOf]; omega)
        · have F := Lib.hid (F2.out hnil)
          have t0 : (bs10 a).toList = a := bs_toList a
          have t1 : (bs10 a).toList.isEmpty = false := by rw [t0]; cases a with | nil => exact absurd rfl hnil | cons => rfl
          have t2 : ((bs10 a).toList == []) = false := by rw [t0]; cases a with | nil => exact absurd rfl hnil | cons => rfl
          clear F1 F2 hnil t0
          go_wp2_with (first
            | (at_builtin
               refine wpList_append_own _ rfl (.tmp 43) (.tmp 45) 22 rfl w.heap.size 9 i0 _ 1 16 Tryd.underlying22 HI.out HZ0.out HZ1.out HZ2.out rfl (by omega) _ p _ rfl (PO.out.alloc _) ⟨V.heap.size, 0, none⟩ 1 1 (sL [a]) rfl rfl (news_s V a _) (sL_one _) (by unfold maxLen; omega) (by omega) (by rw [World.size_alloc]; exact Nat.le_succ_of_le PB.out.size) ?_
               intro vA wA oA hA _
               rw [← sL_app] at oA
               have OA := Lib.hid oA
               have BA := Lib.hid ((PB.out.alloc PB.out.size _).grown hA (by rw [World.size_alloc]; exact Nat.le_succ_of_le PB.out.size) (fun g hg => (PO.out.lt g hg).1))
               clear oA hA))
          go_roundw
          case rel => exact ⟨i + 1, [], P ++ [a], by omega, (fun _ => rfl), by simp, by go_num, rfl, F, Lib.hid (by rw [List.length_append, ← HP.out]; exact OA.out), BA⟩
          case measure => first | (simp [intOf]; done) | (simp [intOf]; omega)
    · obtain rfl : i = n + 1 := by omega
      have kk : ¬ ((n : Int) + 1) ≤ n := by omega
      have kk2 : ¬ ((n + 1 : Nat) : Int) ≤ n := by omega
      have ha0 := HA1.out rfl
      have he : R = P := by
        have h := HS.out
        rw [ha0, List.drop_of_length_le (by rw [HLN.out]; omega), wdA_nil, if_pos rfl, List.append_nil] at h
        exact h.symm
      have HE := Lib.hid he
      clear he ha0 HEX HGET
      go_wp2_with fail
      go_ret
      have hrl : R.length = p := by rw [HE.out, HP.out]
      obtain ⟨q, c, hq⟩ := own_form12 PO.out
      refine ⟨q, c, ?_, ?_, PB.out⟩
      · rw [hrl, ← hq]; rfl
      · rw [hrl, ← hq, HE.out]; exact PO.out
end Go.Proofs.YtfmfjnnbldmdlaaDoor
