/- What the document's own Names of the calls returns. No condition. -/
import Derived.Test.YtijnkhenplmghaaDoorCb
import Derived.Maps.AppendAt
namespace Go.Proofs.YtijnkhenplmghaaDoor
open Go.RowKit
set_option linter.unusedVariables false
attribute [local go_sem ↓] Go.wp_at_zero Go.wp_at_succ

/-- Names as cells. -/
def sV (l : List ByteArray) : List Value := l.map Value.string
theorem sV_length (l : List ByteArray) : (sV l).length = l.length := List.length_map _
theorem sV_one (l : List ByteArray) : ∀ u ∈ sV l, u.oneCell' = true := fun u hu => by
  obtain ⟨x, _, rfl⟩ := List.mem_map.1 hu; rfl
theorem sV_get {l : List ByteArray} {i : Nat} (h : i < l.length) : (sV l)[i]? = some (.string (l.getD i ⟨#[]⟩)) := by
  unfold sV
  rw [List.getElem?_map, List.getElem?_eq_getElem h, List.getD_eq_getElem?_getD, List.getElem?_eq_getElem h]; rfl
/-- The first so many names. -/
def namesTo : Nat → List ByteArray
  | 0 => []
  | k + 1 => namesTo k ++ [nmT k]
theorem namesTo_length : ∀ k, (namesTo k).length = k
  | 0 => rfl
  | k + 1 => by unfold namesTo; rw [List.length_append, namesTo_length k]; rfl
theorem names_all : namesTo 40 = callN := by decide +kernel
theorem str_info : ∃ i : TypeInfo, Tryd.prog.info? 9 = some i ∧ i.zero = some (.string ⟨#[]⟩) ∧ i.size = 1 ∧ i.bytes = 16 := by
  refine ⟨(Tryd.prog.info? 9).get (by kernel_rfl), (Option.some_get _).symm, by kernel_rfl, by kernel_rfl, by kernel_rfl⟩
theorem news_s (w : World) (x : ByteArray) (t : TypeId) : ∀ j u, (sV [x])[j]? = some u → (w.alloc (.cells #[.string x] t)).cell? ((⟨w.heap.size, 0, none⟩ : Addr).add j) = some u := fun j u hu => by
  rw [Addr.add_lit, Nat.zero_add, cell_of_row _ _ j _ _ (0, 0) (heap_alloc_new w _), ← Array.getElem?_toList]
  exact hu
theorem sV_app (l m : List ByteArray) : sV (l ++ m) = sV l ++ sV m := List.map_append
theorem ownBase9 {w : World} {B B' n size : Nat} {e : TypeId} {v : Value} {xs : List Value} (h : w.ownsRow B e size v n xs) (hB : B' ≤ B) : w.ownsRow B' e size v n xs := by
  obtain ⟨h1, h2⟩ := h
  refine ⟨h1, ?_⟩
  rcases h2 with h2 | ⟨g, cap, cur, hv, hgB, r⟩
  · exact Or.inl h2
  · exact Or.inr ⟨g, cap, cur, hv, by omega, r⟩
set_option maxRecDepth 100000 in
set_option maxHeartbeats 8000000 in
theorem refNames9 (w : World) : Calls Tryd.prog 10 #[] w fun e w' => ∃ q c, e = .returned (.slice q 40 c) ∧ w'.ownsRow w.heap.size 9 1 (.slice q 40 c) 40 (sV callN) ∧ Below w.heap.size w w' := by
  obtain ⟨i0, hi', hz0, hz1, hz2⟩ := str_info
  have HI := Lib.hid hi'
  have HZ0 := Lib.hid hz0
  have HZ1 := Lib.hid hz1
  have HZ2 := Lib.hid hz2
  have HT := Lib.hid (table_c w)
  clear hi' hz0 hz1 hz2
  go_enter Tryd.func10, Tryd.ntmps10
  go_wp2_with (go_at_call 20; ((with_reducible refine (HT.out).mono ?_); rintro e W ⟨rfl, t1, b1⟩); have HC := Lib.hid t1; have B1 := Lib.hid b1; clear t1 b1)
  clear HT
  go_loopw [1, 3] (fun v1 v3 wr => ∃ k : Nat, k ≤ 40 ∧ v3 = .int .i64 k ∧ Hid (wr.ownsRow W.heap.size 9 1 v1 k (sV (namesTo k))) ∧ Hid (Below W.heap.size W wr)) (fun _ v3 _ => 40 - (intOf v3).toNat)
  case atStart => exact ⟨0, by omega, rfl, Lib.hid (World.ownsRow_nil _ _ _ _), Lib.hid (Below.refl _ _)⟩
  case round =>
    obtain ⟨k, hk, rfl, PO, PB⟩ := hrel
    obtain ⟨V, rfl⟩ : ∃ wo : World, wo = wr := ⟨_, rfl⟩
    by_cases hlt : k < 40
    · have hc := (HC.out.on PB.out).name k hlt
      have k1 : (k : Int) < 40 := by omega
      have k0 : (0 : Int) ≤ k := by omega
      have HN := Lib.hid (show namesTo (k + 1) = namesTo k ++ [nmT k] from rfl)
      obtain ⟨x, hx⟩ : ∃ x, x = nmT k := ⟨_, rfl⟩
      rw [← hx] at hc HN
      have hsz := PB.out.size
      clear hx
      go_wp2_with (first
        | (at_builtin
           refine wpList_append_own _ rfl (.tmp 11) (.tmp 17) 28 rfl W.heap.size 9 i0 _ 1 16 Tryd.underlying28 HI.out HZ0.out HZ1.out HZ2.out rfl (by omega) _ k (sV (namesTo k)) rfl (PO.out.alloc _) ⟨V.heap.size, 0, none⟩ 1 1 (sV [x]) rfl rfl (news_s V x _) (sV_one _) (by unfold maxLen; omega) (by omega) (by rw [World.size_alloc]; omega) ?_
           intro v5 w5 o5 hg5 _
           rw [← sV_app] at o5
           have O5 := Lib.hid o5
           have B5 := Lib.hid ((PB.out.alloc hsz _).grown hg5 (by rw [World.size_alloc]; omega) (fun g hg => (PO.out.lt g hg).1))
           clear o5 hg5))
      go_roundw
      case rel => exact ⟨k + 1, by omega, by go_num, Lib.hid (by rw [HN.out]; exact O5.out), B5⟩
      case measure => simp [intOf]; omega
    · obtain rfl : k = 40 := by omega
      have ho := PO.out
      rw [names_all] at ho
      obtain ⟨q, c, hv⟩ : ∃ q c, _ = Value.slice q 40 c := by
        rcases ho.2 with ⟨hv, h0⟩ | ⟨g, cap, cur, hv, _⟩
        · omega
        · exact ⟨_, _, hv⟩
      subst hv
      go_wp2
      go_ret
      exact ⟨q, c, rfl, ownBase9 ho B1.out.size, B1.out.trans (PB.out.mono B1.out.size)⟩
end Go.Proofs.YtijnkhenplmghaaDoor
