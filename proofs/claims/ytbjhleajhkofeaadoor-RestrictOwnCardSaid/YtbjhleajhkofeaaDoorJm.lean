/- What numberOf and nameOf of the landed names return of rows that lie in memory: what is found. No condition but at most 100 rows. -/
import Derived.Test.YtbjhleajhkofeaaDoorJa
namespace Go.Proofs.YtbjhleajhkofeaaDoor
open Go.RowKit
set_option linter.unusedVariables false
attribute [local go_sem ↓] Go.wp_at_zero Go.wp_at_succ

theorem thnJ {u v w : World} (h : Below u.heap.size u v) (k : Below v.heap.size v w) : Below u.heap.size u w := h.trans (k.mono h.size)
/-- Rows of a name and a number of u32 lie in memory. -/
def Rows_u32 (w : World) (g : Nat) (l : List En10) : Prop := ∀ k e, l[k]? = some e → w.cell? ⟨g, k * 2, none⟩ = some (.string e.1) ∧ w.cell? ⟨g, k * 2 + 1, none⟩ = some (.int .u32 (e.2 : Nat))
theorem rows_on_u32 {w w' : World} {g : Nat} {l : List En10} (h : Rows_u32 w g l) (hb : Below w.heap.size w w') : Rows_u32 w' g l := fun k e hk =>
  ⟨(hb.cell (World.block_lt_of_cell? w _ (h k e hk).1)).trans (h k e hk).1, (hb.cell (World.block_lt_of_cell? w _ (h k e hk).2)).trans (h k e hk).2⟩
set_option maxHeartbeats 1600000 in
theorem numOf_u32 (l : List En10) (g : Nat) (s : ByteArray) (er : Int) (w : World) (hl : l.length ≤ 100) (h : Rows_u32 w g l) : Calls Tryd.prog 74 #[.slice (some ⟨g, 0, none⟩) l.length l.length, .string s, .int .i64 er] w fun e w' =>
    e = .returned (.tuple #[.int .u32 ((findR l s).getD 0 : Nat), .int .i64 (if (findR l s).isSome = true then 0 else er)]) ∧ Below w.heap.size w w' := by
  have HR := Lib.hid h
  have HD := Lib.hid (show findR (l.drop 0) s = findR l s by rw [List.drop_zero])
  obtain ⟨n, hn⟩ : ∃ n, n = l.length := ⟨_, rfl⟩
  have HN := Lib.hid hn
  rw [← hn] at hl ⊢
  obtain ⟨r, hr⟩ : ∃ r, r = findR l s := ⟨_, rfl⟩
  rw [← hr] at HD ⊢
  obtain ⟨ev, hev⟩ : ∃ v : Int, v = if r.isSome = true then 0 else er := ⟨_, rfl⟩
  rw [← hev]
  have HEV := Lib.hid hev
  clear h hn hr hev
  go_enter Tryd.func74, Tryd.ntmps74
  go_wp2
  go_loopw [12] (fun i wr => ∃ k : Nat, k ≤ n ∧ i = .int .i64 k ∧ Hid (findR (l.drop k) s = r) ∧ Hid (Below w.heap.size w wr)) (fun i _ => n - (intOf i).toNat)
  case atStart => exact ⟨0, by omega, rfl, HD, Lib.hid (Below.refl _ _)⟩
  case round =>
    obtain ⟨k, hk, rfl, hm, hB⟩ := hrel
    have hsz := hB.out.size
    by_cases hlt : k < n
    · have hx : l[k]? = some (l[k]'(by rw [← HN.out]; exact hlt)) := List.getElem?_eq_getElem _
      obtain ⟨⟨x, y⟩, he⟩ : ∃ e, e = l[k]'(by rw [← HN.out]; exact hlt) := ⟨_, rfl⟩
      rw [← he] at hx
      obtain ⟨c0, c1⟩ := rows_on_u32 HR.out hB.out k _ hx
      simp only at c0 c1
      have HA := Lib.hid (find_at hx s)
      have k1 : (k : Int) < n := by omega
      have k0 : (0 : Int) ≤ k := by omega
      have HB2 := Lib.hid (hB.out.alloc hsz (.cells #[.string x, .int .u32 (y : Nat)] 75))
      clear hx he
      by_cases hs : x = s
      · subst hs
        have hv := Lib.hid (show r = some y by rw [← hm.out, HA.out, if_pos rfl])
        have t1 : (x.toList == x.toList) = true := by simp
        clear HA hm
        go_wp2
        go_ret2
        exact ⟨by rw [HEV.out, hv.out]; rfl, HB2.out⟩
      · have hv := Lib.hid (show findR (l.drop (k + 1)) s = r by rw [← hm.out, HA.out, if_neg hs])
        have hb : (x.toList == s.toList) = false := beq_eq_false_iff_ne.2 (fun e => hs (list_of_bytes10 e))
        clear HA hm hs
        go_wp2
        go_roundw
        case rel => exact ⟨k + 1, by omega, by go_num, hv, HB2⟩
        case measure => simp [intOf]; omega
    · obtain rfl : k = n := by omega
      have k1 : ¬ (k : Int) < k := by omega
      have hv := Lib.hid (show r = none by rw [← hm.out, HN.out, List.drop_length]; rfl)
      go_wp2
      go_ret2
      exact ⟨by rw [HEV.out, hv.out]; rfl, hB.out⟩
set_option maxHeartbeats 1600000 in
theorem namOf_u32 (l : List En10) (g : Nat) (m : Nat) (w : World) (hl : l.length ≤ 100) (h : Rows_u32 w g l) : Calls Tryd.prog 29 #[.slice (some ⟨g, 0, none⟩) l.length l.length, .int .u32 m] w fun e w' =>
    e = .returned (.string ((nameR l m).getD ⟨#[]⟩)) ∧ Below w.heap.size w w' := by
  have HR := Lib.hid h
  have HD := Lib.hid (show nameR (l.drop 0) m = nameR l m by rw [List.drop_zero])
  obtain ⟨n, hn⟩ : ∃ n, n = l.length := ⟨_, rfl⟩
  have HN := Lib.hid hn
  rw [← hn] at hl ⊢
  obtain ⟨r, hr⟩ : ∃ r, r = nameR l m := ⟨_, rfl⟩
  rw [← hr] at HD ⊢
  clear h hn hr
  go_enter Tryd.func29, Tryd.ntmps29
  go_wp2
  go_loopw [9] (fun i wr => ∃ k : Nat, k ≤ n ∧ i = .int .i64 k ∧ Hid (nameR (l.drop k) m = r) ∧ Hid (Below w.heap.size w wr)) (fun i _ => n - (intOf i).toNat)
  case atStart => exact ⟨0, by omega, rfl, HD, Lib.hid (Below.refl _ _)⟩
  case round =>
    obtain ⟨k, hk, rfl, hm, hB⟩ := hrel
    have hsz := hB.out.size
    by_cases hlt : k < n
    · have hx : l[k]? = some (l[k]'(by rw [← HN.out]; exact hlt)) := List.getElem?_eq_getElem _
      obtain ⟨⟨x, y⟩, he⟩ : ∃ e, e = l[k]'(by rw [← HN.out]; exact hlt) := ⟨_, rfl⟩
      rw [← he] at hx
      obtain ⟨c0, c1⟩ := rows_on_u32 HR.out hB.out k _ hx
      simp only at c0 c1
      have HA := Lib.hid (name_at hx m)
      have k1 : (k : Int) < n := by omega
      have k0 : (0 : Int) ≤ k := by omega
      have HB2 := Lib.hid (hB.out.alloc hsz (.cells #[.string x, .int .u32 (y : Nat)] 75))
      clear hx he
      by_cases hs : y = m
      · subst hs
        have hv := Lib.hid (show r = some x by rw [← hm.out, HA.out, if_pos rfl])
        clear HA hm
        go_wp2
        go_ret
        exact ⟨by rw [hv.out]; rfl, HB2.out⟩
      · have hv := Lib.hid (show nameR (l.drop (k + 1)) m = r by rw [← hm.out, HA.out, if_neg hs])
        have hb : ((y : Int) == (m : Int)) = false := beq_eq_false_iff_ne.2 (by omega)
        clear HA hm hs
        go_wp2
        go_roundw
        case rel => exact ⟨k + 1, by omega, by go_num, hv, HB2⟩
        case measure => simp [intOf]; omega
    · obtain rfl : k = n := by omega
      have k1 : ¬ (k : Int) < k := by omega
      have hv := Lib.hid (show r = none by rw [← hm.out, HN.out, List.drop_length]; rfl)
      go_wp2
      go_ret
      exact ⟨by rw [hv.out]; rfl, hB.out⟩
/-- Rows of a name and a number of u64 lie in memory. -/
def Rows_u64 (w : World) (g : Nat) (l : List En10) : Prop := ∀ k e, l[k]? = some e → w.cell? ⟨g, k * 2, none⟩ = some (.string e.1) ∧ w.cell? ⟨g, k * 2 + 1, none⟩ = some (.int .u64 (e.2 : Nat))
theorem rows_on_u64 {w w' : World} {g : Nat} {l : List En10} (h : Rows_u64 w g l) (hb : Below w.heap.size w w') : Rows_u64 w' g l := fun k e hk =>
  ⟨(hb.cell (World.block_lt_of_cell? w _ (h k e hk).1)).trans (h k e hk).1, (hb.cell (World.block_lt_of_cell? w _ (h k e hk).2)).trans (h k e hk).2⟩
set_option maxHeartbeats 1600000 in
theorem numOf_u64 (l : List En10) (g : Nat) (s : ByteArray) (er : Int) (w : World) (hl : l.length ≤ 100) (h : Rows_u64 w g l) : Calls Tryd.prog 75 #[.slice (some ⟨g, 0, none⟩) l.length l.length, .string s, .int .i64 er] w fun e w' =>
    e = .returned (.tuple #[.int .u64 ((findR l s).getD 0 : Nat), .int .i64 (if (findR l s).isSome = true then 0 else er)]) ∧ Below w.heap.size w w' := by
  have HR := Lib.hid h
  have HD := Lib.hid (show findR (l.drop 0) s = findR l s by rw [List.drop_zero])
  obtain ⟨n, hn⟩ : ∃ n, n = l.length := ⟨_, rfl⟩
  have HN := Lib.hid hn
  rw [← hn] at hl ⊢
  obtain ⟨r, hr⟩ : ∃ r, r = findR l s := ⟨_, rfl⟩
  rw [← hr] at HD ⊢
  obtain ⟨ev, hev⟩ : ∃ v : Int, v = if r.isSome = true then 0 else er := ⟨_, rfl⟩
  rw [← hev]
  have HEV := Lib.hid hev
  clear h hn hr hev
  go_enter Tryd.func75, Tryd.ntmps75
  go_wp2
  go_loopw [12] (fun i wr => ∃ k : Nat, k ≤ n ∧ i = .int .i64 k ∧ Hid (findR (l.drop k) s = r) ∧ Hid (Below w.heap.size w wr)) (fun i _ => n - (intOf i).toNat)
  case atStart => exact ⟨0, by omega, rfl, HD, Lib.hid (Below.refl _ _)⟩
  case round =>
    obtain ⟨k, hk, rfl, hm, hB⟩ := hrel
    have hsz := hB.out.size
    by_cases hlt : k < n
    · have hx : l[k]? = some (l[k]'(by rw [← HN.out]; exact hlt)) := List.getElem?_eq_getElem _
      obtain ⟨⟨x, y⟩, he⟩ : ∃ e, e = l[k]'(by rw [← HN.out]; exact hlt) := ⟨_, rfl⟩
      rw [← he] at hx
      obtain ⟨c0, c1⟩ := rows_on_u64 HR.out hB.out k _ hx
      simp only at c0 c1
      have HA := Lib.hid (find_at hx s)
      have k1 : (k : Int) < n := by omega
      have k0 : (0 : Int) ≤ k := by omega
      have HB2 := Lib.hid (hB.out.alloc hsz (.cells #[.string x, .int .u64 (y : Nat)] 72))
      clear hx he
      by_cases hs : x = s
      · subst hs
        have hv := Lib.hid (show r = some y by rw [← hm.out, HA.out, if_pos rfl])
        have t1 : (x.toList == x.toList) = true := by simp
        clear HA hm
        go_wp2
        go_ret2
        exact ⟨by rw [HEV.out, hv.out]; rfl, HB2.out⟩
      · have hv := Lib.hid (show findR (l.drop (k + 1)) s = r by rw [← hm.out, HA.out, if_neg hs])
        have hb : (x.toList == s.toList) = false := beq_eq_false_iff_ne.2 (fun e => hs (list_of_bytes10 e))
        clear HA hm hs
        go_wp2
        go_roundw
        case rel => exact ⟨k + 1, by omega, by go_num, hv, HB2⟩
        case measure => simp [intOf]; omega
    · obtain rfl : k = n := by omega
      have k1 : ¬ (k : Int) < k := by omega
      have hv := Lib.hid (show r = none by rw [← hm.out, HN.out, List.drop_length]; rfl)
      go_wp2
      go_ret2
      exact ⟨by rw [HEV.out, hv.out]; rfl, hB.out⟩
end Go.Proofs.YtbjhleajhkofeaaDoor
