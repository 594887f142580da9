/- What the document's own Lines returns: a file's lines. Condition: bytes that lie in memory, at most a million. -/
import Derived.Test.YtifjnioichfodaaDoorLd
import Derived.Laws.Concat
import Derived.Laws.Cover1
import Derived.Maps.AppendAt
import Derived.WalkSmall
namespace Go.Proofs.YtifjnioichfodaaDoor
open Go.RowKit
set_option linter.unusedVariables false
set_option linter.unusedSimpArgs false
attribute [local go_sem ↓] Go.wp_at_zero Go.wp_at_succ

/-- A slice of bytes can be read. -/
def RdB (w : World) (B : Nat) (p : Option Addr) (l : List UInt8) : Prop := 0 < l.length → ∃ b o, p = some ⟨b, o, none⟩ ∧ b < B ∧ ∀ i (h : i < l.length), w.cell? ⟨b, o + i, none⟩ = some (.int .u8 (l[i].toNat : Int))
theorem RdB.on {w w' : World} {p : Option Addr} {l : List UInt8} (h : RdB w w.heap.size p l) (hb : Below w.heap.size w w') : RdB w' w'.heap.size p l := fun h0 => by
  obtain ⟨b, o, rfl, hlt, hc⟩ := h h0
  exact ⟨b, o, rfl, Nat.lt_of_lt_of_le hlt hb.size, fun i hi => (hb.cell (p := ⟨b, o + i, none⟩) hlt).trans (hc i hi)⟩
/-- Strings as cells. -/
def sL (ls : List (List UInt8)) : List Value := ls.map fun s => .string (bs s)
theorem sL_length (ls : List (List UInt8)) : (sL ls).length = ls.length := List.length_map _
theorem sL_one (ls : List (List UInt8)) : ∀ u ∈ sL ls, u.oneCell' = true := fun u hu => by
  obtain ⟨s, _, rfl⟩ := List.mem_map.1 hu; rfl
theorem sL_app (a b : List (List UInt8)) : sL (a ++ b) = sL a ++ sL b := List.map_append
theorem sL_get {ls : List (List UInt8)} {k : Nat} {s : List UInt8} (h : ls[k]? = some s) : (sL ls)[k]? = some (.string (bs s)) := by
  unfold sL; rw [List.getElem?_map, h]; rfl
theorem str_info12 : (Tryd.prog.info? 9).map (fun i => (i.zero, i.size, i.bytes)) = some (some (.string ⟨#[]⟩), 1, 16) := by kernel_rfl
theorem news_s (w : World) (x : List UInt8) (t : TypeId) : ∀ j u, (sL [x])[j]? = some u → (w.alloc (.cells #[.string (bs x)] t)).cell? ((⟨w.heap.size, 0, none⟩ : Addr).add j) = some u := fun j u hu => by
  match j, hu with
  | 0, hu =>
    injection hu with hu
    subst hu
    show (w.alloc _).cell? ⟨w.heap.size, 0, none⟩ = _
    rw [cell_of_row _ _ _ _ _ (0, 0) (heap_alloc_new w _)]; rfl
  | j + 1, hu => cases hu
/-- A string of the bytes that lie in memory. -/
theorem wpList_str12 {ops : Array Oper} {rest : List Oper} {op : Oper} {A : Operand} {a : Act} {w : World} {Q : Exit → Act → World → Prop} {l : List UInt8} {p : Addr} {n cap : Nat} (hgd : op.guard = none) (ho : op.op = .convert 22 9 A)
    (hA : a.eval A = .slice (some p) n cap) (hn : n = l.length) (hc : ∀ j (hj : j < l.length), w.cell? (p.add j) = some (.int .u8 (l[j].toNat : Int)))
    (h : wpList Tryd.prog ops Q rest (a.put op.dst (.string (bs l))) w) : wpList Tryd.prog ops Q (op :: rest) a w :=
  wpList_plain hgd fun _ hK => by
    subst hn
    have hr : (execOp a.eval op).run Tryd.prog w = .ok (.value (.string (bs l))) w := by
      have := run_convert_bytes_back (P := Tryd.prog) w 22 9 5 p cap l Tryd.underlying22 Tryd.underlying5 Tryd.underlying9 hc
      unfold execOp
      rw [ho]
      simp [hA, this]
      rfl
    unfold Oper.wp; rw [hr]; exact hK _ _ h
theorem lin_cut {l : List UInt8} {P : List (List UInt8)} {i f : Nat} (hi : i < l.length) (hf : f ≤ i) (h : P ++ linA ((l.take i).drop f) (l.drop i) = linL l) (hc : l[i] = 10) : (P ++ [(l.take i).drop f]) ++ linA ((l.take (i + 1)).drop (i + 1)) (l.drop (i + 1)) = linL l := by
  rw [← h, ← List.getElem_cons_drop hi, hc]
  rw [show linA ((l.take i).drop f) (10 :: l.drop (i + 1)) = (l.take i).drop f :: linA [] (l.drop (i + 1)) from by conv => lhs; unfold linA; rw [if_pos rfl]]
  rw [show (l.take (i + 1)).drop (i + 1) = [] from List.drop_of_length_le (by rw [List.length_take]; omega), List.append_assoc]; rfl
theorem lin_go {l : List UInt8} {P : List (List UInt8)} {i f : Nat} (hi : i < l.length) (hf : f ≤ i) (h : P ++ linA ((l.take i).drop f) (l.drop i) = linL l) (hc : l[i] ≠ 10) : P ++ linA ((l.take (i + 1)).drop f) (l.drop (i + 1)) = linL l := by
  rw [← h, ← List.getElem_cons_drop hi]
  rw [show linA ((l.take i).drop f) (l[i] :: l.drop (i + 1)) = linA ((l.take i).drop f ++ [l[i]]) (l.drop (i + 1)) from by conv => lhs; unfold linA; rw [if_neg hc]]
  rw [List.take_succ_eq_append_getElem hi, List.drop_append_of_le_length (by rw [List.length_take]; omega)]
theorem lin_end {l : List UInt8} {P : List (List UInt8)} {f : Nat} (hf : f ≤ l.length) (h : P ++ linA ((l.take l.length).drop f) (l.drop l.length) = linL l) : linL l = if f < l.length then P ++ [l.drop f] else P := by
  rw [← h, List.take_length, List.drop_length]
  by_cases hl : f < l.length
  · rw [if_pos hl]
    unfold linA
    rw [if_neg (fun e => by have := congrArg List.length e; rw [List.length_drop] at this; simp at this; omega)]
  · rw [if_neg hl]
    unfold linA
    rw [if_pos (List.drop_of_length_le (by omega)), List.append_nil]
theorem own_form12 {w : World} {B n s : Nat} {t : TypeId} {v : Value} {xs : List Value} (h : w.ownsRow B t s v n xs) : ∃ q c, v = .slice q n c := by
  rcases h.2 with ⟨rfl, e⟩ | ⟨g, cap, cur, rfl, _⟩
  · exact ⟨none, 0, by rw [e]⟩
  · exact ⟨_, _, rfl⟩
set_option maxRecDepth 100000 in
set_option maxHeartbeats 16000000 in
theorem refLines (a0 : Option Addr) (n cap : Nat) (l : List UInt8) (w : World) (hl : l.length = n) (hn : n ≤ 1000000) (hc : n ≤ cap) (hm : cap ≤ maxLen) (hr : RdB w w.heap.size a0 l) : Calls Tryd.prog 36 #[.slice a0 n cap] w fun e w' =>
    ∃ q c, e = .returned (.slice q (linL l).length c) ∧ w'.ownsRow w.heap.size 9 1 (.slice q (linL l).length c) (linL l).length (sL (linL l)) ∧ Below w.heap.size w w' := by
  obtain ⟨i0, hi0, hz0, hz1, hz2⟩ := info_parts str_info12
  have HI := Lib.hid hi0
  have HZ0 := Lib.hid hz0
  have HZ1 := Lib.hid hz1
  have HZ2 := Lib.hid hz2
  have HL := Lib.hid hl
  have HR := Lib.hid hr
  have HLE := Lib.hid (linL_len l)
  have HCUT := Lib.hid (fun (P : List (List UInt8)) (i f : Nat) (hi : i < l.length) (hf : f ≤ i) (h : P ++ linA ((l.take i).drop f) (l.drop i) = linL l) => lin_cut hi hf h)
  have HGO := Lib.hid (fun (P : List (List UInt8)) (i f : Nat) (hi : i < l.length) (hf : f ≤ i) (h : P ++ linA ((l.take i).drop f) (l.drop i) = linL l) => lin_go hi hf h)
  have HEND := Lib.hid (fun (P : List (List UInt8)) (f : Nat) (hf : f ≤ n) (h : P ++ linA ((l.take n).drop f) (l.drop n) = linL l) => (by subst hl; exact lin_end hf h : linL l = if f < n then P ++ [l.drop f] else P))
  unfold maxLen at hm
  obtain ⟨R, hR⟩ : ∃ R, R = linL l := ⟨_, rfl⟩
  rw [← hR] at HLE HCUT HGO HEND ⊢
  have H0 : Hid ([] ++ linA ((l.take 0).drop 0) (l.drop 0) = R) := Lib.hid (by rw [hR]; rfl)
  rw [hl] at HLE
  clear hi0 hz0 hz1 hz2 hl hr hR
  go_enter Tryd.func36, Tryd.ntmps36
  go_wp2
  go_loopw [3, 4, 5] (fun v3 v4 v5 wr => ∃ (i f : Nat) (P : List (List UInt8)), i ≤ n ∧ f ≤ i ∧ v5 = .int .i64 i ∧ v4 = .int .i64 f ∧ Hid (P ++ linA ((l.take i).drop f) (l.drop i) = R) ∧ Hid (wr.ownsRow w.heap.size 9 1 v3 P.length (sL P)) ∧ Hid (Below w.heap.size w wr)) (fun _ _ v5 _ => n - (intOf v5).toNat)
  case atStart => exact ⟨0, 0, [], by omega, by omega, rfl, rfl, H0, Lib.hid (World.ownsRow_nil _ _ _ _), Lib.hid (Below.refl _ _)⟩
  case round =>
    obtain ⟨i, f, P, hi, hf, rfl, rfl, HS, PO, PB⟩ := hrel
    obtain ⟨V, rfl⟩ : ∃ wo : World, wo = wr := ⟨_, rfl⟩
    obtain ⟨p, hp⟩ : ∃ p, p = P.length := ⟨_, rfl⟩
    have HP := Lib.hid hp
    have hple : p ≤ n := by
      have h1 := congrArg List.length HS.out
      rw [List.length_append] at h1
      have := HLE.out
      omega
    rw [← hp] at PO
    clear hp
    by_cases hlt : i < n
    · obtain ⟨b, o, rfl, hb, hcs⟩ := HR.out (by rw [HL.out]; omega)
      have d0 := hcs i (by rw [HL.out]; exact hlt)
      have c0 := (PB.out.cell (World.block_lt_of_cell? w _ d0)).trans d0
      have HCC := Lib.hid (fun j (hj : j < l.length) => (PB.out.cell (World.block_lt_of_cell? w _ (hcs j hj))).trans (hcs j hj))
      have HC2 := Lib.hid (HCUT.out P i f (by rw [HL.out]; exact hlt) hf HS.out)
      have HG2 := Lib.hid (HGO.out P i f (by rw [HL.out]; exact hlt) hf HS.out)
      have HT := Lib.hid (fun (h : l[i]'(by rw [HL.out]; exact hlt) = 10) => (by rw [h]; rfl : (((l[i]'(by rw [HL.out]; exact hlt)).toNat : Nat) : Int) = 10))
      have HT2 := Lib.hid (fun (h : (((l[i]'(by rw [HL.out]; exact hlt)).toNat : Nat) : Int) = 10) => (UInt8.toNat_inj.1 (by have : (((l[i]'(by rw [HL.out]; exact hlt)).toNat : Nat) : Int) = ((10 : UInt8).toNat : Int) := h; omega) : l[i]'(by rw [HL.out]; exact hlt) = 10))
      obtain ⟨x, hx⟩ : ∃ x, x = (((l[i]'(by rw [HL.out]; exact hlt)).toNat : Nat) : Int) := ⟨_, rfl⟩
      rw [← hx] at c0 HT HT2
      have k1 : (i : Int) < n := by omega
      have k0 : (0 : Int) ≤ i := by omega
      have f0 : (0 : Int) ≤ f := by omega
      have f1 : (f : Int) ≤ i := by omega
      have f2 : (f : Int) < cap := by omega
      have f3 : (i : Int) ≤ cap := by omega
      have f4 : ¬ (cap : Int) = f := by omega
      have f5 : ¬ cap = f := by omega
      have hw1 : IntKind.i64.wrap ((i : Int) + 1) = i + 1 := by rw [IntKind.wrap_i64]; omega
      clear d0 hx hcs hb
      by_cases h10 : x = 10
      · have hcc := HC2.out (HT2.out h10)
        have HS2 := Lib.hid hcc
        obtain ⟨L, hL⟩ : ∃ L, L = (l.take i).drop f := ⟨_, rfl⟩
        have hLl : i - f = L.length := by rw [hL, List.length_drop, List.length_take, HL.out]; omega
        have HLL := Lib.hid hLl
        have HCL := Lib.hid (show ∀ j (hj : j < L.length), V.cell? ((⟨b, o + f, none⟩ : Addr).add j) = some (.int .u8 (L[j].toNat : Int)) from fun j hj => by
          have e : L[j] = l[f + j]'(by rw [HL.out]; omega) := by
            subst hL
            rw [List.getElem_drop, List.getElem_take]
          rw [Addr.add_lit, e, Nat.add_assoc]
          exact HCC.out (f + j) _)
        rw [← hL] at HS2
        subst h10
        clear HT HT2 HC2 HG2 hcc hL hLl HCC HCUT HGO HEND
        go_wp2_with (first
          | ((with_reducible show wpList _ _ _ (⟨some 22, _, _, _, _, _⟩ :: _) _ _)
             refine wpList_str12 (l := L) rfl rfl rfl (by first | exact HLL.out | (simp; exact HLL.out) | (have := HLL.out; omega)) HCL.out ?_)
          | (at_builtin
             refine wpList_append_own _ rfl (.tmp 17) (.tmp 23) 69 rfl w.heap.size 9 i0 _ 1 16 Tryd.underlying69 HI.out HZ0.out HZ1.out HZ2.out rfl (by omega) _ p _ rfl (PO.out.alloc _) ⟨V.heap.size, 0, none⟩ 1 1 (sL [L]) rfl rfl (news_s V L _) (sL_one _) (by unfold maxLen; omega) (by omega) (by rw [World.size_alloc]; exact Nat.le_succ_of_le PB.out.size) ?_
             intro vA wA oA hA _
             rw [← sL_app] at oA
             have OA := Lib.hid oA
             have BA := Lib.hid ((PB.out.alloc PB.out.size _).grown hA (by rw [World.size_alloc]; exact Nat.le_succ_of_le PB.out.size) (fun g hg => (PO.out.lt g hg).1))
             clear oA hA))
        go_roundw
        case rel => exact ⟨i + 1, i + 1, P ++ [L], by omega, by omega, by go_num, by go_num, HS2, Lib.hid (by rw [List.length_append, ← HP.out]; exact OA.out), BA⟩
        case measure => simp [intOf]; omega
      · have HS2 := Lib.hid (HG2.out (fun h => h10 (HT.out h)))
        have hb10 : (x == 10) = false := beq_eq_false_iff_ne.2 h10
        clear HT HT2 HC2 HG2 h10 HCC HCUT HGO HEND
        go_wp2_with fail
        go_roundw
        case rel => exact ⟨i + 1, f, P, by omega, by omega, by go_num, rfl, HS2, Lib.hid (by rw [← HP.out]; exact PO.out), PB⟩
        case measure => simp [intOf]; omega
    · obtain rfl : i = n := by omega
      have kk : ¬ (i : Int) < i := by omega
      have he := HEND.out P f hf HS.out
      by_cases hfl : f < i
      · rw [if_pos hfl] at he
        obtain ⟨b, o, rfl, hb, hcs⟩ := HR.out (by rw [HL.out]; omega)
        have HCC := Lib.hid (fun j (hj : j < l.length) => (PB.out.cell (World.block_lt_of_cell? w _ (hcs j hj))).trans (hcs j hj))
        obtain ⟨L, hL⟩ : ∃ L, L = l.drop f := ⟨_, rfl⟩
        have hLl : i - f = L.length := by rw [hL, List.length_drop, HL.out]
        have HLL := Lib.hid hLl
        have HCL := Lib.hid (show ∀ j (hj : j < L.length), V.cell? ((⟨b, o + f, none⟩ : Addr).add j) = some (.int .u8 (L[j].toNat : Int)) from fun j hj => by
          have e : L[j] = l[f + j]'(by rw [HL.out]; omega) := by
            subst hL
            rw [List.getElem_drop]
          rw [Addr.add_lit, e, Nat.add_assoc]
          exact HCC.out (f + j) _)
        rw [← hL] at he
        have HE := Lib.hid he
        have f1 : (f : Int) < i := by omega
        have f0 : (0 : Int) ≤ f := by omega
        have f2 : (f : Int) < cap := by omega
        have f6 : (f : Int) ≤ i := by omega
        have f4 : ¬ (cap : Int) = f := by omega
        have f5 : ¬ cap = f := by omega
        clear he hL hLl HCC HCUT HGO HEND hb hcs hfl
        go_wp2_with (first
          | ((with_reducible show wpList _ _ _ (⟨some 35, _, _, _, _, _⟩ :: _) _ _)
             refine wpList_str12 (l := L) rfl rfl rfl (by first | exact HLL.out | (simp; exact HLL.out) | (have := HLL.out; omega)) HCL.out ?_)
          | (at_builtin
             refine wpList_append_own _ rfl (.tmp 31) (.tmp 36) 69 rfl w.heap.size 9 i0 _ 1 16 Tryd.underlying69 HI.out HZ0.out HZ1.out HZ2.out rfl (by omega) _ p _ rfl (PO.out.alloc _) ⟨V.heap.size, 0, none⟩ 1 1 (sL [L]) rfl rfl (news_s V L _) (sL_one _) (by unfold maxLen; omega) (by omega) (by rw [World.size_alloc]; exact Nat.le_succ_of_le PB.out.size) ?_
             intro vA wA oA hA _
             rw [← sL_app] at oA
             have OA := Lib.hid oA
             have BA := Lib.hid ((PB.out.alloc PB.out.size _).grown hA (by rw [World.size_alloc]; exact Nat.le_succ_of_le PB.out.size) (fun g hg => (PO.out.lt g hg).1))
             clear oA hA))
        go_ret
        have hrl : R.length = p + 1 := by rw [HE.out, List.length_append, HP.out]; rfl
        obtain ⟨q, c, hq⟩ := own_form12 OA.out
        refine ⟨q, c, ?_, ?_, BA.out⟩
        · rw [hrl, ← hq]; rfl
        · rw [hrl, ← hq, HE.out]; exact OA.out
      · rw [if_neg hfl] at he
        have HE := Lib.hid he
        have f1 : ¬ (f : Int) < i := by omega
        clear he HCUT HGO HEND hfl
        go_wp2_with fail
        go_ret
        have hrl : R.length = p := by rw [HE.out, HP.out]
        obtain ⟨q, c, hq⟩ := own_form12 PO.out
        refine ⟨q, c, ?_, ?_, PB.out⟩
        · rw [hrl, ← hq]; rfl
        · rw [hrl, ← hq, HE.out]; exact PO.out
end Go.Proofs.YtifjnioichfodaaDoor
