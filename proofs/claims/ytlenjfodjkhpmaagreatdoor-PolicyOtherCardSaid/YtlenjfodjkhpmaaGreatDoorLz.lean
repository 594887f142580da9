/- A package variable that a condition lists as a plain datum (numbers, strings, truth values, in structs and arrays): its cells are those of the datum, written out. No condition. -/
import Derived.Test.YtlenjfodjkhpmaaGreatDoorTg
import Derived.Test.YtlenjfodjkhpmaaGreatDoorWd
import Derived.Deep.Slices
import Derived.Deep.Fields
import Derived.Lib.SmallJoins
import Derived.Lib.TrimUEq
import Derived.Lib.SpaceUEq
import Derived.Lib.MapLaws
import Derived.Lib.FieldsP
import Derived.Test.YtlenjfodjkhpmaaGreatDoorJa
import Derived.Test.YtlenjfodjkhpmaaGreatDoorProg
import Derived.ProofKit
import Derived.OpenShut
import Derived.FnData
import Derived.Below
namespace Go.Proofs.YtlenjfodjkhpmaaGreatDoor
set_option maxRecDepth 100000
open Go.Lib (hid)
open Go.RowKit
set_option linter.unusedVariables false
set_option linter.unusedSimpArgs false
attribute [local go_sem ↓] Go.wp_at_zero Go.wp_at_succ

set_option maxRecDepth 100000
open Go.Lib (hid)
open Go.RowKit Go.WideShapes Go.DataRel
set_option linter.unusedVariables false

set_option maxRecDepth 100000
open Go.Lib (hid)
set_option linter.unusedVariables false
set_option linter.unusedSimpArgs false

def whR15 (r : Nat) : Bool := r == 32 || r == 9 || r == 13
theorem whR15_blk (b : UInt8) : whR15 b.toNat = blkB b := by
 unfold whR15 blkB
 have e : ∀ k : UInt8, (b.toNat == k.toNat) = (b == k) := fun k => by
  rw [Bool.eq_iff_iff, beq_iff_eq, beq_iff_eq]
  exact UInt8.toNat_inj
 rw [show (b.toNat == 32) = (b == 32) from e 32, show (b.toNat == 9) = (b == 9) from e 9, show (b.toNat == 13) = (b == 13) from e 13]
theorem whR15_big {r : Nat} (h : 128 ≤ r) : whR15 r = false := by
 unfold whR15
 rw [beq_eq_false_iff_ne.2 (show r ≠ 32 by omega), beq_eq_false_iff_ne.2 (show r ≠ 9 by omega), beq_eq_false_iff_ne.2 (show r ≠ 13 by omega)]; rfl
theorem dec15_big (n b0 b1 b2 b3 : Nat) (h : 128 ≤ b0) : 128 ≤ (Lib.decodeN n b0 b1 b2 b3).1 := by
 unfold Lib.decodeN
 repeat' split
 all_goals first | (exfalso; omega) | (simp only; omega)
theorem blk_low15 {b : UInt8} (h : blkB b = true) : b.toNat < 128 := by
 rcases Nat.lt_or_ge b.toNat 128 with h1 | h1
 ·exact h1
 ·rw [← whR15_blk, whR15_big h1] at h; cases h
theorem blk_high15 {b : UInt8} (h : 128 ≤ b.toNat) : blkB b = false := by rw [← whR15_blk]; exact whR15_big h
theorem dec15_blank {l : List UInt8} {c : UInt8} {r : List UInt8} (e : l = c :: r) (h : blkB c = true) : Lib.decodeL l = (c.toNat, 1) := by
 rw [Lib.decodeL_N, e]
 exact Lib.decodeN_ascii _ _ _ _ _ (blk_low15 h)
theorem dec15_other {l : List UInt8} {c : UInt8} {r : List UInt8} (e : l = c :: r) (h : blkB c = false) : whR15 (Lib.decodeL l).1 = false ∧ 1 ≤ (Lib.decodeL l).2 ∧ (Lib.decodeL l).2 ≤ l.length ∧ ∀ x ∈ l.take (Lib.decodeL l).2, blkB x = false := by
 have hne : l ≠ [] := by rw [e]; exact List.cons_ne_nil _ _
 refine ⟨?_, Lib.decodeL_width l, Lib.decodeL_le l hne, ?_⟩
 ·rw [Lib.decodeL_N, e]
  rcases Nat.lt_or_ge c.toNat 128 with h1 | h1
  ·show whR15 (Lib.decodeN _ c.toNat _ _ _).1 = false
   rw [Lib.decodeN_ascii _ _ _ _ _ h1]
   show whR15 c.toNat = false
   rw [whR15_blk, h]
  ·exact whR15_big (dec15_big _ c.toNat _ _ _ h1)
 ·intro x hx
  obtain ⟨i, hi, rfl⟩ := List.mem_iff_getElem.1 hx
  have hc := Lib.decodeN_conts l.length (l.getD 0 0).toNat (l.getD 1 0).toNat (l.getD 2 0).toNat (l.getD 3 0).toNat
  rw [← Lib.decodeL_N] at hc
  obtain ⟨h1, h2, h3, h4⟩ := hc
  rw [List.length_take] at hi
  rw [List.getElem_take]
  have hil : i < l.length := by omega
  have hg : l.getD i 0 = l[i] := by simp [List.getD, hil]
  have hm : i < (Lib.decodeL l).2 := by omega
  match i, hil, hg, hm with
  | 0, hil, hg, hm =>
   subst e; exact h
  | 1, hil, hg, hm =>
   refine blk_high15 ?_
   have := (h1 (by omega)).1
   rw [hg] at this; omega
  | 2, hil, hg, hm =>
   refine blk_high15 ?_
   have := (h2 (by omega)).1
   rw [hg] at this; omega
  | 3, hil, hg, hm =>
   refine blk_high15 ?_
   have := (h3 (by omega)).1
   rw [hg] at this; omega
  | i + 4, hil, hg, hm => omega
theorem dec15_at (l : List UInt8) (k : Nat) : Utf8.decode (bs l) k = Lib.decodeL (l.drop k) := (Lib.decodeL_drop (bs l) k).symm
theorem ext15 (l : List UInt8) (a b : Nat) : (bs l).extract a b = bs ((l.take b).drop a) := by
 show (ByteArray.mk l.toArray).extract a b = _
 rw [ByteArray.extract_mk l a b, ← List.drop_take]
 rfl
def begun (l : List UInt8) (pos : Nat) : Option Nat → List UInt8
 | none => []
 | some a => (l.take pos).drop a
def okSt (pos : Nat) : Option Nat → Prop
 | none => True
 | some a => a < pos
theorem fields_from (l : List UInt8) : ∀ (f pos : Nat) (st : Option Nat) (acc : List (Nat × Nat)), l.length ≤ pos + f → pos ≤ l.length → okSt pos st →
 (Lib.closeSpans (bs l) (Lib.spansFromP whR15 (bs l) f pos st acc)).map (fun x => (bs l).extract x.1 x.2) = acc.map (fun x => (bs l).extract x.1 x.2) ++ (wdA (begun l pos st) (l.drop pos)).map bs
 | f, pos, st, acc, h, h2, hst => by
   by_cases hp : pos < l.length
   ·match f, h with
    | 0, h => omega
    | f + 1, h =>
     have e : l.drop pos = l[pos] :: l.drop (pos + 1) := List.drop_eq_getElem_cons hp
     unfold Lib.spansFromP
     rw [bs_size, if_pos hp, dec15_at]
     cases hb : blkB l[pos] with
     | true =>
      rw [dec15_blank e hb]
      show _ = _
      rw [show whR15 (l[pos].toNat, 1).1 = true from by rw [whR15_blk]; exact hb, if_pos rfl, e, wdA_blk hb]
      match st, hst with
      | none, _ =>
       show (Lib.closeSpans (bs l) (Lib.spansFromP whR15 (bs l) f (pos + 1) none acc)).map _ = _
       rw [fields_from l f (pos + 1) none acc (by omega) hp trivial]
       rfl
      | some a, hst =>
       show (Lib.closeSpans (bs l) (Lib.spansFromP whR15 (bs l) f (pos + 1) none (acc ++ [(a, pos)]))).map _ = _
       rw [fields_from l f (pos + 1) none (acc ++ [(a, pos)]) (by omega) hp trivial]
       have hne : begun l pos (some a) ≠ [] := fun e2 => by
        have := congrArg List.length e2
        unfold begun at this
        rw [List.length_drop, List.length_take, List.length_nil] at this
        have : a < pos := hst
        omega
       rw [if_neg hne, List.map_append, List.map_cons, List.map_nil, ext15, List.map_cons, List.append_assoc]
       rfl
     | false =>
      obtain ⟨hw, hm1, hm2, hm3⟩ := dec15_other e hb
      obtain ⟨m, hm⟩ : ∃ m, m = (Lib.decodeL (l.drop pos)).2 := ⟨_, rfl⟩
      rw [← hm] at hm1 hm2 hm3
      rw [hw, if_neg Bool.noConfusion, ← hm]
      rw [List.length_drop] at hm2
      have key : ∀ w : List UInt8, wdA w (l.drop pos) = wdA (w ++ (l.drop pos).take m) (l.drop (pos + m)) := fun w => by
       conv => lhs; rw [← List.take_append_drop m (l.drop pos), wdA_word _ _ _ hm3, List.drop_drop]
      have seg : ∀ a, a ≤ pos → (l.take (pos + m)).drop a = (l.take pos).drop a ++ (l.drop pos).take m := fun a ha => by
       rw [List.take_add, List.drop_append_of_le_length (by rw [List.length_take]; omega)]
      match st, hst with
      | none, _ =>
       show (Lib.closeSpans (bs l) (Lib.spansFromP whR15 (bs l) f (pos + m) (some pos) acc)).map _ = _
       rw [fields_from l f (pos + m) (some pos) acc (by omega) (by omega) (show pos < pos + m by omega), key]
       show _ ++ (wdA ((l.take (pos + m)).drop pos) _).map bs = _
       rw [seg pos (Nat.le_refl _), List.drop_of_length_le (by rw [List.length_take]; omega)]
       rfl
      | some a, hst =>
       have ha : a < pos := hst
       show (Lib.closeSpans (bs l) (Lib.spansFromP whR15 (bs l) f (pos + m) (some a) acc)).map _ = _
       rw [fields_from l f (pos + m) (some a) acc (by omega) (by omega) (show a < pos + m by omega), key]
       show _ ++ (wdA ((l.take (pos + m)).drop a) _).map bs = _
       rw [seg a (by omega)]
       rfl
   ·obtain rfl : pos = l.length := by omega
    rw [Lib.spansFromP_end _ _ _ _ _ _ (by rw [bs_size]; exact hp), List.drop_length, wdA_nil]
    match st, hst with
    | none, _ =>
     show acc.map _ = _
     rw [show begun l l.length none = [] from rfl, if_pos rfl, List.map_nil, List.append_nil]
    | some a, hst =>
     have ha : a < l.length := hst
     show (acc ++ [(a, (bs l).size)]).map _ = _
     have hne : begun l l.length (some a) ≠ [] := fun e2 => by
      have := congrArg List.length e2
      unfold begun at this
      rw [List.length_drop, List.length_take, List.length_nil] at this
      omega
     rw [if_neg hne, List.map_append, List.map_cons, List.map_nil, ext15, bs_size]
     rfl
theorem fields_words (s : ByteArray) : Lib.goFieldsP whR15 s = (wdL s.data.toList).map bs := by
 have h := fields_from s.data.toList s.data.toList.length 0 none [] (by omega) (by omega) trivial
 rw [bs_self] at h
 rw [List.drop_zero, List.map_nil, List.nil_append] at h
 unfold Lib.goFieldsP Lib.spansOfP
 rw [show s.size = s.data.toList.length by simp]
 exact h
set_option maxRecDepth 100000
open Go.Lib (hid)
open Go.RowKit
set_option linter.unusedVariables false
attribute [local go_sem ↓] Go.wp_at_zero Go.wp_at_succ

theorem thnJ {u v w : World} (h : Below u.heap.size u v) (k : Below v.heap.size v w) : Below u.heap.size u w := h.trans (k.mono h.size)
def Rows_u32 (w : World) (g : Nat) (l : List En10) : Prop := ∀ k e, l[k]? = some e → w.cell? ⟨g, k * 2, none⟩ = some (.string e.1) ∧ w.cell? ⟨g, k * 2 + 1, none⟩ = some (.int .u32 (e.2 : Nat))
theorem rows_on_u32 {w w' : World} {g : Nat} {l : List En10} (h : Rows_u32 w g l) (hb : Below w.heap.size w w') : Rows_u32 w' g l := fun k e hk =>
 ⟨(hb.cell (World.block_lt_of_cell? w _ (h k e hk).1)).trans (h k e hk).1, (hb.cell (World.block_lt_of_cell? w _ (h k e hk).2)).trans (h k e hk).2⟩
set_option maxHeartbeats 1600000 in
theorem numOf_u32 (l : List En10) (g : Nat) (s : ByteArray) (er : Int) (w : World) (hl : l.length ≤ 100) (h : Rows_u32 w g l) : Calls Tryz.prog 208 #[.slice (some ⟨g, 0, none⟩) l.length l.length, .string s, .int .i64 er] w fun e w' =>
 e = .returned (.tuple #[.int .u32 ((findR l s).getD 0 : Nat), .int .i64 (if (findR l s).isSome = true then 0 else er)]) ∧ Below w.heap.size w w' := by
 have HR := hid h
 have HD := hid (show findR (l.drop 0) s = findR l s by rw [List.drop_zero])
 obtain ⟨n, hn⟩ : ∃ n, n = l.length := ⟨_, rfl⟩
 have HN := hid hn
 rw [← hn] at hl ⊢
 obtain ⟨r, hr⟩ : ∃ r, r = findR l s := ⟨_, rfl⟩
 rw [← hr] at HD ⊢
 obtain ⟨ev, hev⟩ : ∃ v : Int, v = if r.isSome = true then 0 else er := ⟨_, rfl⟩
 rw [← hev]
 have HEV := hid hev
 clear h hn hr hev
 go_enter Tryz.func208, Tryz.ntmps208
 go_wp2
 go_loopw [12] (fun i wr => ∃ k : Nat, k ≤ n ∧ i = .int .i64 k ∧ Hid (findR (l.drop k) s = r) ∧ Hid (Below w.heap.size w wr)) (fun i _ => n - (intOf i).toNat)
 case atStart => exact ⟨0, by omega, rfl, HD, hid (Below.refl _ _)⟩
 case round =>
  obtain ⟨k, hk, rfl, hm, hB⟩ := hrel
  have hsz := hB.out.size
  by_cases hlt : k < n
  ·have hx : l[k]? = some (l[k]'(by rw [← HN.out]; exact hlt)) := List.getElem?_eq_getElem _
   obtain ⟨⟨x, y⟩, he⟩ : ∃ e, e = l[k]'(by rw [← HN.out]; exact hlt) := ⟨_, rfl⟩
   rw [← he] at hx
   obtain ⟨c0, c1⟩ := rows_on_u32 HR.out hB.out k _ hx
   simp only at c0 c1
   have HA := hid (find_at hx s)
   have k1 : (k : Int) < n := by omega
   have k0 : (0 : Int) ≤ k := by omega
   have HB2 := hid (hB.out.alloc hsz (.cells #[.string x, .int .u32 (y : Nat)] 153))
   clear hx he
   by_cases hs : x = s
   ·subst hs
    have hv := hid (show r = some y by rw [← hm.out, HA.out, if_pos rfl])
    have t1 : (x.toList == x.toList) = true := by simp
    clear HA hm
    go_wp2
    go_ret2
    exact ⟨by rw [HEV.out, hv.out]; rfl, HB2.out⟩
   ·have hv := hid (show findR (l.drop (k + 1)) s = r by rw [← hm.out, HA.out, if_neg hs])
    have hb : (x.toList == s.toList) = false := beq_eq_false_iff_ne.2 (fun e => hs (list_of_bytes10 e))
    clear HA hm hs
    go_wp2
    go_roundw
    case rel => exact ⟨k + 1, by omega, by go_num, hv, HB2⟩
    case measure => simp [intOf]; omega
  ·obtain rfl : k = n := by omega
   have k1 : ¬ (k : Int) < k := by omega
   have hv := hid (show r = none by rw [← hm.out, HN.out, List.drop_length]; rfl)
   go_wp2
   go_ret2
   exact ⟨by rw [HEV.out, hv.out]; rfl, hB.out⟩
set_option maxHeartbeats 1600000 in
theorem namOf_u32 (l : List En10) (g : Nat) (m : Nat) (w : World) (hl : l.length ≤ 100) (h : Rows_u32 w g l) : Calls Tryz.prog 115 #[.slice (some ⟨g, 0, none⟩) l.length l.length, .int .u32 m] w fun e w' =>
 e = .returned (.string ((nameR l m).getD ⟨#[]⟩)) ∧ Below w.heap.size w w' := by
 have HR := hid h
 have HD := hid (show nameR (l.drop 0) m = nameR l m by rw [List.drop_zero])
 obtain ⟨n, hn⟩ : ∃ n, n = l.length := ⟨_, rfl⟩
 have HN := hid hn
 rw [← hn] at hl ⊢
 obtain ⟨r, hr⟩ : ∃ r, r = nameR l m := ⟨_, rfl⟩
 rw [← hr] at HD ⊢
 clear h hn hr
 go_enter Tryz.func115, Tryz.ntmps115
 go_wp2
 go_loopw [9] (fun i wr => ∃ k : Nat, k ≤ n ∧ i = .int .i64 k ∧ Hid (nameR (l.drop k) m = r) ∧ Hid (Below w.heap.size w wr)) (fun i _ => n - (intOf i).toNat)
 case atStart => exact ⟨0, by omega, rfl, HD, hid (Below.refl _ _)⟩
 case round =>
  obtain ⟨k, hk, rfl, hm, hB⟩ := hrel
  have hsz := hB.out.size
  by_cases hlt : k < n
  ·have hx : l[k]? = some (l[k]'(by rw [← HN.out]; exact hlt)) := List.getElem?_eq_getElem _
   obtain ⟨⟨x, y⟩, he⟩ : ∃ e, e = l[k]'(by rw [← HN.out]; exact hlt) := ⟨_, rfl⟩
   rw [← he] at hx
   obtain ⟨c0, c1⟩ := rows_on_u32 HR.out hB.out k _ hx
   simp only at c0 c1
   have HA := hid (name_at hx m)
   have k1 : (k : Int) < n := by omega
   have k0 : (0 : Int) ≤ k := by omega
   have HB2 := hid (hB.out.alloc hsz (.cells #[.string x, .int .u32 (y : Nat)] 153))
   clear hx he
   by_cases hs : y = m
   ·subst hs
    have hv := hid (show r = some x by rw [← hm.out, HA.out, if_pos rfl])
    clear HA hm
    go_wp2
    go_ret
    exact ⟨by rw [hv.out]; rfl, HB2.out⟩
   ·have hv := hid (show nameR (l.drop (k + 1)) m = r by rw [← hm.out, HA.out, if_neg hs])
    have hb : ((y : Int) == (m : Int)) = false := beq_eq_false_iff_ne.2 (by omega)
    clear HA hm hs
    go_wp2
    go_roundw
    case rel => exact ⟨k + 1, by omega, by go_num, hv, HB2⟩
    case measure => simp [intOf]; omega
  ·obtain rfl : k = n := by omega
   have k1 : ¬ (k : Int) < k := by omega
   have hv := hid (show r = none by rw [← hm.out, HN.out, List.drop_length]; rfl)
   go_wp2
   go_ret
   exact ⟨by rw [hv.out]; rfl, hB.out⟩
def Rows_u64 (w : World) (g : Nat) (l : List En10) : Prop := ∀ k e, l[k]? = some e → w.cell? ⟨g, k * 2, none⟩ = some (.string e.1) ∧ w.cell? ⟨g, k * 2 + 1, none⟩ = some (.int .u64 (e.2 : Nat))
theorem rows_on_u64 {w w' : World} {g : Nat} {l : List En10} (h : Rows_u64 w g l) (hb : Below w.heap.size w w') : Rows_u64 w' g l := fun k e hk =>
 ⟨(hb.cell (World.block_lt_of_cell? w _ (h k e hk).1)).trans (h k e hk).1, (hb.cell (World.block_lt_of_cell? w _ (h k e hk).2)).trans (h k e hk).2⟩
set_option maxHeartbeats 1600000 in
theorem numOf_u64 (l : List En10) (g : Nat) (s : ByteArray) (er : Int) (w : World) (hl : l.length ≤ 100) (h : Rows_u64 w g l) : Calls Tryz.prog 221 #[.slice (some ⟨g, 0, none⟩) l.length l.length, .string s, .int .i64 er] w fun e w' =>
 e = .returned (.tuple #[.int .u64 ((findR l s).getD 0 : Nat), .int .i64 (if (findR l s).isSome = true then 0 else er)]) ∧ Below w.heap.size w w' := by
 have HR := hid h
 have HD := hid (show findR (l.drop 0) s = findR l s by rw [List.drop_zero])
 obtain ⟨n, hn⟩ : ∃ n, n = l.length := ⟨_, rfl⟩
 have HN := hid hn
 rw [← hn] at hl ⊢
 obtain ⟨r, hr⟩ : ∃ r, r = findR l s := ⟨_, rfl⟩
 rw [← hr] at HD ⊢
 obtain ⟨ev, hev⟩ : ∃ v : Int, v = if r.isSome = true then 0 else er := ⟨_, rfl⟩
 rw [← hev]
 have HEV := hid hev
 clear h hn hr hev
 go_enter Tryz.func221, Tryz.ntmps221
 go_wp2
 go_loopw [12] (fun i wr => ∃ k : Nat, k ≤ n ∧ i = .int .i64 k ∧ Hid (findR (l.drop k) s = r) ∧ Hid (Below w.heap.size w wr)) (fun i _ => n - (intOf i).toNat)
 case atStart => exact ⟨0, by omega, rfl, HD, hid (Below.refl _ _)⟩
 case round =>
  obtain ⟨k, hk, rfl, hm, hB⟩ := hrel
  have hsz := hB.out.size
  by_cases hlt : k < n
  ·have hx : l[k]? = some (l[k]'(by rw [← HN.out]; exact hlt)) := List.getElem?_eq_getElem _
   obtain ⟨⟨x, y⟩, he⟩ : ∃ e, e = l[k]'(by rw [← HN.out]; exact hlt) := ⟨_, rfl⟩
   rw [← he] at hx
   obtain ⟨c0, c1⟩ := rows_on_u64 HR.out hB.out k _ hx
   simp only at c0 c1
   have HA := hid (find_at hx s)
   have k1 : (k : Int) < n := by omega
   have k0 : (0 : Int) ≤ k := by omega
   have HB2 := hid (hB.out.alloc hsz (.cells #[.string x, .int .u64 (y : Nat)] 112))
   clear hx he
   by_cases hs : x = s
   ·subst hs
    have hv := hid (show r = some y by rw [← hm.out, HA.out, if_pos rfl])
    have t1 : (x.toList == x.toList) = true := by simp
    clear HA hm
    go_wp2
    go_ret2
    exact ⟨by rw [HEV.out, hv.out]; rfl, HB2.out⟩
   ·have hv := hid (show findR (l.drop (k + 1)) s = r by rw [← hm.out, HA.out, if_neg hs])
    have hb : (x.toList == s.toList) = false := beq_eq_false_iff_ne.2 (fun e => hs (list_of_bytes10 e))
    clear HA hm hs
    go_wp2
    go_roundw
    case rel => exact ⟨k + 1, by omega, by go_num, hv, HB2⟩
    case measure => simp [intOf]; omega
  ·obtain rfl : k = n := by omega
   have k1 : ¬ (k : Int) < k := by omega
   have hv := hid (show r = none by rw [← hm.out, HN.out, List.drop_length]; rfl)
   go_wp2
   go_ret2
   exact ⟨by rw [HEV.out, hv.out]; rfl, hB.out⟩
set_option maxHeartbeats 1600000 in
theorem namOf_u64 (l : List En10) (g : Nat) (m : Nat) (w : World) (hl : l.length ≤ 100) (h : Rows_u64 w g l) : Calls Tryz.prog 88 #[.slice (some ⟨g, 0, none⟩) l.length l.length, .int .u64 m] w fun e w' =>
 e = .returned (.string ((nameR l m).getD ⟨#[]⟩)) ∧ Below w.heap.size w w' := by
 have HR := hid h
 have HD := hid (show nameR (l.drop 0) m = nameR l m by rw [List.drop_zero])
 obtain ⟨n, hn⟩ : ∃ n, n = l.length := ⟨_, rfl⟩
 have HN := hid hn
 rw [← hn] at hl ⊢
 obtain ⟨r, hr⟩ : ∃ r, r = nameR l m := ⟨_, rfl⟩
 rw [← hr] at HD ⊢
 clear h hn hr
 go_enter Tryz.func88, Tryz.ntmps88
 go_wp2
 go_loopw [9] (fun i wr => ∃ k : Nat, k ≤ n ∧ i = .int .i64 k ∧ Hid (nameR (l.drop k) m = r) ∧ Hid (Below w.heap.size w wr)) (fun i _ => n - (intOf i).toNat)
 case atStart => exact ⟨0, by omega, rfl, HD, hid (Below.refl _ _)⟩
 case round =>
  obtain ⟨k, hk, rfl, hm, hB⟩ := hrel
  have hsz := hB.out.size
  by_cases hlt : k < n
  ·have hx : l[k]? = some (l[k]'(by rw [← HN.out]; exact hlt)) := List.getElem?_eq_getElem _
   obtain ⟨⟨x, y⟩, he⟩ : ∃ e, e = l[k]'(by rw [← HN.out]; exact hlt) := ⟨_, rfl⟩
   rw [← he] at hx
   obtain ⟨c0, c1⟩ := rows_on_u64 HR.out hB.out k _ hx
   simp only at c0 c1
   have HA := hid (name_at hx m)
   have k1 : (k : Int) < n := by omega
   have k0 : (0 : Int) ≤ k := by omega
   have HB2 := hid (hB.out.alloc hsz (.cells #[.string x, .int .u64 (y : Nat)] 112))
   clear hx he
   by_cases hs : y = m
   ·subst hs
    have hv := hid (show r = some x by rw [← hm.out, HA.out, if_pos rfl])
    clear HA hm
    go_wp2
    go_ret
    exact ⟨by rw [hv.out]; rfl, HB2.out⟩
   ·have hv := hid (show nameR (l.drop (k + 1)) m = r by rw [← hm.out, HA.out, if_neg hs])
    have hb : ((y : Int) == (m : Int)) = false := beq_eq_false_iff_ne.2 (by omega)
    clear HA hm hs
    go_wp2
    go_roundw
    case rel => exact ⟨k + 1, by omega, by go_num, hv, HB2⟩
    case measure => simp [intOf]; omega
  ·obtain rfl : k = n := by omega
   have k1 : ¬ (k : Int) < k := by omega
   have hv := hid (show r = none by rw [← hm.out, HN.out, List.drop_length]; rfl)
   go_wp2
   go_ret
   exact ⟨by rw [hv.out]; rfl, hB.out⟩
set_option maxRecDepth 100000
open Go.Lib (hid)
open Go.RowKit
set_option linter.unusedVariables false

def flatS (f : TypeId → DataW Unit → Option (List Value)) (co : TypeId → Nat) : Nat → List (Nat × TypeId) → List (DataW Unit) → Option (List Value)
 | _, [], [] => some []
 | o, (off, t) :: r, d :: ds => if off = o then (f t d).bind fun l => if l.length = co t then (flatS f co (o + co t) r ds).map (l ++ ·) else none else none
 | _, _, _ => none
def flatD (P : Program) : Nat → TypeId → DataW Unit → Option (List Value)
 | 0, _, _ => none
 | n + 1, t, d =>
  match P.underlying t with
  | some (.int k) => (match d with | .lit (.int k' v) => if k' = k then some [.int k v] else none | _ => none)
  | some .string => (match d with | .lit (.string l) => some [.string ⟨l.toArray⟩] | _ => none)
  | some .bool => (match d with | .lit (.bool b) => some [.bool b] | _ => none)
  | some (.struct fs) => (match d with | .agg ds => (flatS (flatD P n) P.cellsOf 0 (fs.toList.map fun f => (f.offset, f.type)) ds).bind fun l => if l.length = P.cellsOf t then some l else none | _ => none)
  | some (.array k e) => (match d with | .agg ds => (flatS (flatD P n) P.cellsOf 0 ((List.range k).map fun i => (i * P.cellsOf e, e)) ds).bind fun l => if l.length = P.cellsOf t then some l else none | _ => none)
  | _ => none
theorem flatS_cells {f : TypeId → DataW Unit → Option (List Value)} {co : TypeId → Nat} {cs : List Value} : ∀ (ps : List (Nat × TypeId)) (ds : List (DataW Unit)) (o : Nat) (l : List Value), flatS f co o ps ds = some l →
 (∀ (i : Nat) (p : Nat × TypeId) (d : DataW Unit) (l' : List Value), ps[i]? = some p → ds[i]? = some d → f p.2 d = some l' → (cs.drop p.1).take (co p.2) = l') → (cs.drop o).take l.length = l
 | [], [], o, l, h, _ => by
   simp only [flatS, Option.some.injEq] at h
   subst h; simp
 | (off, t) :: r, d :: ds, o, l, h, hp => by
   unfold flatS at h
   by_cases ho : off = o
   ·rw [if_pos ho] at h
    obtain ⟨l1, h1, h⟩ := Option.bind_eq_some_iff.1 h
    by_cases hl : l1.length = co t
    ·rw [if_pos hl] at h
     obtain ⟨l2, h2, rfl⟩ := Option.map_eq_some_iff.1 h
     have e1 := hp 0 (off, t) d l1 rfl rfl h1
     have e2 := flatS_cells r ds (o + co t) l2 h2 (fun i p d' l' a b c => hp (i + 1) p d' l' a b c)
     simp only at e1
     rw [ho] at e1
     rw [List.length_append, hl, List.take_add, e1, List.drop_drop, e2]
    ·rw [if_neg hl] at h; cases h
   ·rw [if_neg ho] at h; cases h
 | [], _ :: _, _, _, h, _ => by cases h
 | _ :: _, [], _, _, h, _ => by cases h
theorem flat_cells {P : Program} {enc : TypeId × Value → Unit} {w : World} {base : Nat} {sp : Nat → Bool} {held : Bool} : ∀ (m : Nat) (t : TypeId) (d : DataW Unit) (l : List Value), flatD P m t d = some l →
 ∀ (fuel : Nat) (cs : List Value) (q : List MemPlace), DataW.trod enc P w base sp held fuel t cs = some (d, q) → cs = l
 | 0, _, _, _, h, _, _, _, _ => by cases h
 | m + 1, t, d, l, h, fuel, cs, q, ht => by
   unfold flatD at h
   cases hu : P.underlying t with
   | none => rw [hu] at h; cases h
   | some u =>
    rw [hu] at h
    cases u <;> simp only at h <;> try (cases h; done)
    case bool =>
     obtain ⟨b, rfl, e⟩ := DataW.trod_bool hu ht
     injection e with e1 e2
     subst e1
     simpa using h
    case int k =>
     obtain ⟨b, rfl, e, _⟩ := DataW.trod_int hu ht
     injection e with e1 e2
     subst e1
     simpa using h
    case string =>
     obtain ⟨b, rfl, e, _⟩ := DataW.trod_string hu ht
     injection e with e1 e2
     subst e1
     simpa using h
    case struct fs =>
     obtain ⟨xs, n, rfl, e, hlen, hn, hf⟩ := DataW.trod_struct hu ht
     injection e with e1 e2
     subst e1
     simp only at h
     obtain ⟨l', h1, h2⟩ := Option.bind_eq_some_iff.1 h
     by_cases hl : l'.length = P.cellsOf t
     ·rw [if_pos hl] at h2
      injection h2 with h2
      subst h2
      have := flatS_cells (cs := cs) _ _ 0 l' h1 (fun i p d' l'' a b c => by
       rw [List.getElem?_map] at a b
       obtain ⟨f, hfi, rfl⟩ := Option.map_eq_some_iff.1 a
       obtain ⟨x, hx, rfl⟩ := Option.map_eq_some_iff.1 b
       have g := hf i f (by rw [← Array.getElem?_toList]; exact hfi)
       rw [hx] at g
       exact flat_cells m f.type x.1 l'' c n _ x.2 g)
      rw [List.drop_zero, hl, ← hlen, List.take_length] at this
      exact this
     ·rw [if_neg hl] at h2; cases h2
    case array k e =>
     obtain ⟨xs, n, rfl, e1, hlen, hn, hf⟩ := DataW.trod_array hu ht
     injection e1 with e1 e2
     subst e1
     simp only at h
     obtain ⟨l', h1, h2⟩ := Option.bind_eq_some_iff.1 h
     by_cases hl : l'.length = P.cellsOf t
     ·rw [if_pos hl] at h2
      injection h2 with h2
      subst h2
      have := flatS_cells (cs := cs) _ _ 0 l' h1 (fun i p d' l'' a b c => by
       rw [List.getElem?_map] at a b
       obtain ⟨j, hj, rfl⟩ := Option.map_eq_some_iff.1 a
       obtain ⟨x, hx, rfl⟩ := Option.map_eq_some_iff.1 b
       have hi : i < k := by
        have := (List.getElem?_eq_some_iff.1 hj).1
        simpa using this
       have hji : j = i := by
        rw [List.getElem?_range hi] at hj
        injection hj with hj; exact hj.symm
       subst hji
       have g := hf j hi
       rw [hx] at g
       exact flat_cells m e x.1 l'' c n _ x.2 g)
      rw [List.drop_zero, hl, ← hlen, List.take_length] at this
      exact this
     ·rw [if_neg hl] at h2; cases h2
def LaidAt (w : World) (g : Nat) (l : List Value) : Prop := ∀ (j : Nat) (u : Value), l[j]? = some u → w.cell? ⟨g, j, none⟩ = some u
theorem LaidAt.on {w w' : World} {g : Nat} {l : List Value} (h : LaidAt w g l) (hn : l ≠ []) (b : Below w.heap.size w w') : LaidAt w' g l := by
 have hlt : g < w.heap.size := by
  cases l with
  | nil => exact absurd rfl hn
  | cons u r => exact World.block_lt_of_cell? w _ (h 0 u rfl)
 exact fun j u hu => (b.cell (p := ⟨g, j, none⟩) hlt).trans (h j u hu)
theorem laidAt_of {P : Program} {W : World} {nm : String} {g g0 : Nat} {t t0 : TypeId} {cs0 : Array Value} {f0 : Nat} {p0 : List MemPlace} {d : DataW Unit} {l : List Value} (hg : P.globalNamed nm = some g) (ht : (P.globals[g]?).map (·.type) = some t)
 (hg0 : P.globalNamed nm = some g0) (ht0 : (P.globals[g0]?).map (·.type) = some t0) (hv0 : W.var? P nm = some cs0)
 {enc : TypeId × Value → Unit} {base : Nat} {sp : Nat → Bool} {held : Bool} (hd0 : DataW.trod enc P W base sp held f0 t0 cs0.toList = some (d, p0)) (m : Nat) (hf : flatD P m t d = some l) : LaidAt W g l := by
 obtain rfl := Option.some.inj (hg.symm.trans hg0)
 obtain rfl := Option.some.inj (ht.symm.trans ht0)
 have e := flat_cells m t d l hf f0 cs0.toList p0 hd0
 intro j u hu
 rw [World.var?_cell hg hv0 j, ← Array.getElem?_toList, e, hu]
end Go.Proofs.YtlenjfodjkhpmaaGreatDoor
