/- Names of errnos, families, namespaces as the chapter says them: tables, what is found in one; the document's own tables, Find, Name. No condition. -/
import Derived.Test.YtfmfjnnbldmdlaaDoorFr
import Derived.Deep.AppendLies
import Derived.Deep.DrawnRows
import Derived.RegionTactic
import Derived.BigRegion
namespace Go.Proofs.YtfmfjnnbldmdlaaDoor
open Go.RowKit
set_option linter.unusedVariables false
attribute [local go_sem ↓] Go.wp_at_zero Go.wp_at_succ

abbrev En10 := ByteArray × Nat
def errnoT : List En10 := [(⟨#[69, 80, 69, 82, 77]⟩, 1), (⟨#[69, 78, 79, 69, 78, 84]⟩, 2), (⟨#[69, 73, 79]⟩, 5), (⟨#[69, 66, 65, 68, 70]⟩, 9), (⟨#[69, 65, 71, 65, 73, 78]⟩, 11), (⟨#[69, 78, 79, 77, 69, 77]⟩, 12), (⟨#[69, 65, 67, 67, 69, 83]⟩, 13), (⟨#[69, 70, 65, 85, 76, 84]⟩, 14), (⟨#[69, 66, 85, 83, 89]⟩, 16), (⟨#[69, 78, 79, 68, 69, 86]⟩, 19), (⟨#[69, 73, 78, 86, 65, 76]⟩, 22), (⟨#[69, 78, 79, 83, 89, 83]⟩, 38), (⟨#[69, 79, 80, 78, 79, 84, 83, 85, 80, 80]⟩, 95), (⟨#[69, 65, 70, 78, 79, 83, 85, 80, 80, 79, 82, 84]⟩, 97), (⟨#[69, 84, 73, 77, 69, 68, 79, 85, 84]⟩, 110)]
def famT : List En10 := [(⟨#[65, 70, 95, 85, 78, 73, 88]⟩, 1), (⟨#[65, 70, 95, 73, 78, 69, 84]⟩, 2), (⟨#[65, 70, 95, 73, 78, 69, 84, 54]⟩, 10), (⟨#[65, 70, 95, 78, 69, 84, 76, 73, 78, 75]⟩, 16), (⟨#[65, 70, 95, 80, 65, 67, 75, 69, 84]⟩, 17), (⟨#[65, 70, 95, 66, 76, 85, 69, 84, 79, 79, 84, 72]⟩, 31), (⟨#[65, 70, 95, 65, 76, 71]⟩, 38), (⟨#[65, 70, 95, 86, 83, 79, 67, 75]⟩, 40)]
def spcT : List En10 := [(⟨#[116, 105, 109, 101]⟩, 128), (⟨#[109, 110, 116]⟩, 131072), (⟨#[99, 103, 114, 111, 117, 112]⟩, 33554432), (⟨#[117, 116, 115]⟩, 67108864), (⟨#[105, 112, 99]⟩, 134217728), (⟨#[117, 115, 101, 114]⟩, 268435456), (⟨#[112, 105, 100]⟩, 536870912), (⟨#[110, 101, 116]⟩, 1073741824)]
/-- The number of a name. -/
def findR : List En10 → ByteArray → Option Nat
  | [], _ => none
  | e :: r, s => if e.1 = s then some e.2 else findR r s
/-- The name of a number. -/
def nameR : List En10 → Nat → Option ByteArray
  | [], _ => none
  | e :: r, n => if e.2 = n then some e.1 else nameR r n
theorem find_at {l : List En10} {k : Nat} {e : En10} (h : l[k]? = some e) (s : ByteArray) : findR (l.drop k) s = if e.1 = s then some e.2 else findR (l.drop (k + 1)) s := by
  obtain ⟨hk, rfl⟩ := List.getElem?_eq_some_iff.1 h
  rw [List.drop_eq_getElem_cons hk]; rfl
theorem name_at {l : List En10} {k : Nat} {e : En10} (h : l[k]? = some e) (n : Nat) : nameR (l.drop k) n = if e.2 = n then some e.1 else nameR (l.drop (k + 1)) n := by
  obtain ⟨hk, rfl⟩ := List.getElem?_eq_some_iff.1 h
  rw [List.drop_eq_getElem_cons hk]; rfl
/-- A table's cells; they lie in memory. -/
def esN (l : List En10) : List Value := l.flatMap fun e => [.string e.1, .int .u64 (e.2 : Nat)]
theorem esN_get : ∀ {l : List En10} {k : Nat} {e : En10}, l[k]? = some e → (esN l)[k * 2]? = some (.string e.1) ∧ (esN l)[k * 2 + 1]? = some (.int .u64 (e.2 : Nat))
  | [], k, e, h => by simp at h
  | x :: r, 0, e, h => by injection h with h; subst h; exact ⟨rfl, rfl⟩
  | x :: r, k + 1, e, h => by
    have := esN_get (l := r) (k := k) (e := e) (by simpa using h)
    have e1 : esN (x :: r) = .string x.1 :: .int .u64 (x.2 : Nat) :: esN r := rfl
    rw [e1, show (k + 1) * 2 = k * 2 + 1 + 1 by omega]
    exact this
def RowsN (w : World) (g : Nat) (l : List En10) : Prop := ∀ k e, l[k]? = some e → w.cell? ⟨g, k * 2, none⟩ = some (.string e.1) ∧ w.cell? ⟨g, k * 2 + 1, none⟩ = some (.int .u64 (e.2 : Nat))
theorem RowsN.on {w w' : World} {g : Nat} {l : List En10} (h : RowsN w g l) (hb : Below w.heap.size w w') : RowsN w' g l := fun k e hk =>
  ⟨(hb.cell (World.block_lt_of_cell? w _ (h k e hk).1)).trans (h k e hk).1, (hb.cell (World.block_lt_of_cell? w _ (h k e hk).2)).trans (h k e hk).2⟩
theorem RowsN.new (w : World) (l : List En10) (t : TypeId) : RowsN (w.alloc (.cells (esN l).toArray t)) w.heap.size l := fun k e hk => by
  obtain ⟨h1, h2⟩ := esN_get hk
  constructor
  · rw [cell_of_row _ _ _ _ _ (0, 0) (heap_alloc_new w _), List.getElem?_toArray]; exact h1
  · rw [cell_of_row _ _ _ _ _ (0, 0) (heap_alloc_new w _), List.getElem?_toArray]; exact h2
theorem list_of_bytes10 {a b : ByteArray} (h : a.toList = b.toList) : a = b := by
  apply ByteArray.ext
  have h2 := congrArg List.toArray h
  simpa [ByteArray.toList_eq] using h2
/-- What the document's tables return. -/
def TabTo (l : List En10) (w : World) (e : Ending) (w' : World) : Prop := e = .returned (.slice (some ⟨w.heap.size, 0, none⟩) l.length l.length) ∧ RowsN w' w.heap.size l ∧ Below w.heap.size w w'
set_option maxHeartbeats 4000000 in
set_option maxRecDepth 100000 in
theorem refErrnos (w : World) : Calls Tryd.prog 37 #[] w (TabTo errnoT w) := by
  go_enter Tryd.func37, Tryd.ntmps37
  go_wp2
  go_ret
  exact ⟨rfl, RowsN.new w errnoT 82, (Below.refl _ _).alloc (Nat.le_refl _) _⟩
set_option maxHeartbeats 1600000 in
theorem refFind (l : List En10) (g : Nat) (s : ByteArray) (er : Int) (w : World) (hl : l.length ≤ 100) (h : RowsN w g l) : Calls Tryd.prog 36 #[.slice (some ⟨g, 0, none⟩) l.length l.length, .string s, .int .i64 er] w fun e w' =>
    e = .returned (.tuple #[.int .u64 ((findR l s).getD 0 : Nat), .int .i64 (if (findR l s).isSome = true then 0 else er)]) ∧ w = w' := by
  have HR := Lib.hid h
  have HD := Lib.hid (show findR (l.drop 0) s = findR l s by rw [List.drop_zero])
  obtain ⟨n, hn⟩ : ∃ n, n = l.length := ⟨_, rfl⟩
  have HN := Lib.hid hn
  rw [← hn] at hl ⊢
  obtain ⟨r, hr⟩ : ∃ r, r = findR l s := ⟨_, rfl⟩
  rw [← hr] at HD ⊢
  obtain ⟨ev, hev⟩ : ∃ v : Int, v = if r.isSome = true then 0 else er := ⟨_, rfl⟩
  rw [← hev]
  have HEV := Lib.hid hev
  clear h hn hr hev
  go_enter Tryd.func36, Tryd.ntmps36
  go_wp2
  go_loop [8] (fun i => ∃ k : Nat, k ≤ n ∧ i = .int .i64 k ∧ Hid (findR (l.drop k) s = r)) (fun i => n - (intOf i).toNat)
  case atStart => exact ⟨0, by omega, rfl, HD⟩
  case round =>
    obtain ⟨k, hk, rfl, hm⟩ := hrel
    by_cases hlt : k < n
    · have hx : l[k]? = some (l[k]'(by rw [← HN.out]; exact hlt)) := List.getElem?_eq_getElem _
      obtain ⟨⟨x, y⟩, he⟩ : ∃ e, e = l[k]'(by rw [← HN.out]; exact hlt) := ⟨_, rfl⟩
      rw [← he] at hx
      obtain ⟨c0, c1⟩ := HR.out k _ hx
      simp only at c0 c1
      have HA := Lib.hid (find_at hx s)
      have k1 : (k : Int) < n := by omega
      have k0 : (0 : Int) ≤ k := by omega
      clear hx he
      by_cases hs : x = s
      · subst hs
        have hv := Lib.hid (show r = some y by rw [← hm.out, HA.out, if_pos rfl])
        have t1 : (x.toList == x.toList) = true := by simp
        clear HA hm
        go_wp2
        go_ret2
        exact ⟨by rw [HEV.out, hv.out]; rfl, rfl⟩
      · have hv := Lib.hid (show findR (l.drop (k + 1)) s = r by rw [← hm.out, HA.out, if_neg hs])
        have hb : (x.toList == s.toList) = false := beq_eq_false_iff_ne.2 (fun e => hs (list_of_bytes10 e))
        clear HA hm hs
        go_wp2
        go_round
        case rel => exact ⟨k + 1, by omega, by go_num, hv⟩
        case measure => simp [intOf]; omega
    · obtain rfl : k = n := by omega
      have k1 : ¬ (k : Int) < k := by omega
      have hv := Lib.hid (show r = none by rw [← hm.out, HN.out, List.drop_length]; rfl)
      go_wp2
      go_ret2
      exact ⟨by rw [HEV.out, hv.out]; rfl, rfl⟩
set_option maxHeartbeats 1600000 in
theorem refName (l : List En10) (g : Nat) (x : Int) (w : World) (hl : l.length ≤ 100) (h : RowsN w g l) (h0 : 0 ≤ x) : Calls Tryd.prog 38 #[.slice (some ⟨g, 0, none⟩) l.length l.length, .int .u64 x] w fun e w' =>
    e = .returned (.string ((nameR l x.toNat).getD ⟨#[]⟩)) ∧ w = w' := by
  obtain ⟨m, rfl⟩ := Int.eq_ofNat_of_zero_le h0
  rw [Int.toNat_natCast]
  have HR := Lib.hid h
  have HD := Lib.hid (show nameR (l.drop 0) m = nameR l m by rw [List.drop_zero])
  obtain ⟨n, hn⟩ : ∃ n, n = l.length := ⟨_, rfl⟩
  have HN := Lib.hid hn
  rw [← hn] at hl ⊢
  obtain ⟨r, hr⟩ : ∃ r, r = nameR l m := ⟨_, rfl⟩
  rw [← hr] at HD ⊢
  clear h hn hr h0
  go_enter Tryd.func38, Tryd.ntmps38
  go_wp2
  go_loop [5] (fun i => ∃ k : Nat, k ≤ n ∧ i = .int .i64 k ∧ Hid (nameR (l.drop k) m = r)) (fun i => n - (intOf i).toNat)
  case atStart => exact ⟨0, by omega, rfl, HD⟩
  case round =>
    obtain ⟨k, hk, rfl, hm⟩ := hrel
    by_cases hlt : k < n
    · have hx : l[k]? = some (l[k]'(by rw [← HN.out]; exact hlt)) := List.getElem?_eq_getElem _
      obtain ⟨⟨x, y⟩, he⟩ : ∃ e, e = l[k]'(by rw [← HN.out]; exact hlt) := ⟨_, rfl⟩
      rw [← he] at hx
      obtain ⟨c0, c1⟩ := HR.out k _ hx
      simp only at c0 c1
      have HA := Lib.hid (name_at hx m)
      have k1 : (k : Int) < n := by omega
      have k0 : (0 : Int) ≤ k := by omega
      clear hx he
      by_cases hs : y = m
      · subst hs
        have hv := Lib.hid (show r = some x by rw [← hm.out, HA.out, if_pos rfl])
        clear HA hm
        go_wp2
        go_ret
        exact ⟨by rw [hv.out]; rfl, rfl⟩
      · have hv := Lib.hid (show nameR (l.drop (k + 1)) m = r by rw [← hm.out, HA.out, if_neg hs])
        have hb : ((y : Int) == (m : Int)) = false := beq_eq_false_iff_ne.2 (by omega)
        clear HA hm hs
        go_wp2
        go_round
        case rel => exact ⟨k + 1, by omega, by go_num, hv⟩
        case measure => simp [intOf]; omega
    · obtain rfl : k = n := by omega
      have k1 : ¬ (k : Int) < k := by omega
      have hv := Lib.hid (show r = none by rw [← hm.out, HN.out, List.drop_length]; rfl)
      go_wp2
      go_ret
      exact ⟨by rw [hv.out]; rfl, rfl⟩
end Go.Proofs.YtfmfjnnbldmdlaaDoor
