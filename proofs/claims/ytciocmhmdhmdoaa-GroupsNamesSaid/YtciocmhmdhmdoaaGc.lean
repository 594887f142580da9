/- What the document's own Put returns: a name more in a list that rises. Condition: the list lies below, of at most a thousand. -/
import Derived.Test.YtciocmhmdhmdoaaGb
import Derived.Laws.Cover1
import Derived.Maps.AppendAt
namespace Go.Proofs.Ytciocmhmdhmdoaa
open Go.RowKit
set_option linter.unusedVariables false
set_option linter.unusedSimpArgs false
attribute [local go_sem ↓] Go.wp_at_zero Go.wp_at_succ

def sG (l : List ByteArray) : List Value := l.map Value.string
theorem sG_length (l : List ByteArray) : (sG l).length = l.length := List.length_map _
theorem sG_one (l : List ByteArray) : ∀ u ∈ sG l, u.oneCell' = true := fun u hu => by
  obtain ⟨x, _, rfl⟩ := List.mem_map.1 hu; rfl
theorem sG_get {l : List ByteArray} {k : Nat} {s : ByteArray} (h : l[k]? = some s) : (sG l)[k]? = some (.string s) := by
  unfold sG; rw [List.getElem?_map, h]; rfl
theorem sG_app (l m : List ByteArray) : sG (l ++ m) = sG l ++ sG m := List.map_append
theorem str_info11 : (Try.prog.info? 9).map (fun i => (i.zero, i.size, i.bytes)) = some (some (.string ⟨#[]⟩), 1, 16) := by kernel_rfl
theorem news_g (w : World) (x : ByteArray) (t : TypeId) : ∀ j u, (sG [x])[j]? = some u → (w.alloc (.cells #[.string x] t)).cell? ((⟨w.heap.size, 0, none⟩ : Addr).add j) = some u := fun j u hu => by
  rw [Addr.add_lit, Nat.zero_add, cell_of_row _ _ j _ _ (0, 0) (heap_alloc_new w _), ← Array.getElem?_toList]
  exact hu
/-- What one owns lies there as a slice says it. -/
theorem strs_own {w : World} {B : Nat} {v : Value} {l : List ByteArray} {t : TypeId} (h : w.ownsRow B t 1 v l.length (sG l)) : StrsAt w v l := by
  rcases h.2 with ⟨rfl, h0⟩ | ⟨g, cap, cur, rfl, _⟩
  · exact ⟨none, 0, by rw [h0], fun k s hk => by rw [List.eq_nil_of_length_eq_zero h0] at hk; simp at hk⟩
  · refine ⟨_, _, rfl, fun k s hk => ⟨g, 0, rfl, ?_⟩⟩
    have hl : k < l.length := (List.getElem?_eq_some_iff.1 hk).1
    rw [Nat.zero_add, h.cellAt k (by omega)]
    exact sG_get hk
def ltB (a b : ByteArray) : Bool := Go.Op.bytesLess a.toList b.toList
def leB (a b : ByteArray) : Bool := ltB a b || a.toList == b.toList
/-- A name more in a list that rises, once: as far as so many elements; in all. -/
def putTo (l : List ByteArray) (s : ByteArray) : Nat → Bool × List ByteArray
  | 0 => (false, [])
  | k + 1 =>
    let p := putTo l s k
    let t := l.getD k ⟨#[]⟩
    if p.1 = false ∧ leB s t = true then (true, (if ltB s t = true then p.2 ++ [s] else p.2) ++ [t]) else (p.1, p.2 ++ [t])
def putR (l : List ByteArray) (s : ByteArray) : List ByteArray := if (putTo l s l.length).1 = true then (putTo l s l.length).2 else (putTo l s l.length).2 ++ [s]
theorem put_le (l : List ByteArray) (s : ByteArray) : ∀ k, (putTo l s k).2.length ≤ 2 * k
  | 0 => Nat.le_refl _
  | k + 1 => by
    have ih := put_le l s k
    unfold putTo
    simp only
    split
    · split <;> simp only [List.length_append, List.length_cons, List.length_nil] <;> omega
    · simp only [List.length_append, List.length_cons, List.length_nil]; omega
theorem put_thr {l : List ByteArray} {s : ByteArray} {k : Nat} {o : List ByteArray} {t : ByteArray} (h : putTo l s k = (true, o)) (ht : l.getD k ⟨#[]⟩ = t) : putTo l s (k + 1) = (true, o ++ [t]) := by
  rw [putTo]; simp only [h, ht]; rfl
theorem put_no {l : List ByteArray} {s : ByteArray} {k : Nat} {o : List ByteArray} {t : ByteArray} (h : putTo l s k = (false, o)) (ht : l.getD k ⟨#[]⟩ = t) (hn : leB s t = false) : putTo l s (k + 1) = (false, o ++ [t]) := by
  rw [putTo]; simp only [h, ht, hn]; rfl
theorem put_lt {l : List ByteArray} {s : ByteArray} {k : Nat} {o : List ByteArray} {t : ByteArray} (h : putTo l s k = (false, o)) (ht : l.getD k ⟨#[]⟩ = t) (hn : ltB s t = true) : putTo l s (k + 1) = (true, o ++ [s] ++ [t]) := by
  rw [putTo]; simp only [h, ht, hn, show leB s t = true by unfold leB; rw [hn]; rfl]; rfl
theorem put_eq {l : List ByteArray} {s : ByteArray} {k : Nat} {o : List ByteArray} {t : ByteArray} (h : putTo l s k = (false, o)) (ht : l.getD k ⟨#[]⟩ = t) (hn : ltB s t = false) (he : leB s t = true) : putTo l s (k + 1) = (true, o ++ [t]) := by
  rw [putTo]; simp only [h, ht, hn, he]; rfl
set_option maxRecDepth 100000 in
set_option maxHeartbeats 16000000 in
theorem refPut (v : Value) (l : List ByteArray) (s : ByteArray) (w : World) (hl : StrsAt w v l) (hn : l.length ≤ 1000) : Calls Try.prog 25 #[v, .string s] w fun e w' =>
    ∃ r, e = .returned r ∧ w'.ownsRow w.heap.size 9 1 r (putR l s).length (sG (putR l s)) ∧ Below w.heap.size w w' := by
  obtain ⟨i0, hi0, hz0, hz1, hz2⟩ := info_parts str_info11
  have HI := Lib.hid hi0
  have HZ0 := Lib.hid hz0
  have HZ1 := Lib.hid hz1
  have HZ2 := Lib.hid hz2
  obtain ⟨q, c, rfl, hr⟩ := hl
  have HC := Lib.hid hr
  obtain ⟨n, hnl⟩ : ∃ n, n = l.length := ⟨_, rfl⟩
  have HN := Lib.hid hnl
  rw [← hnl] at hn ⊢
  have HP := Lib.hid (show putR l s = if (putTo l s n).1 = true then (putTo l s n).2 else (putTo l s n).2 ++ [s] by rw [hnl]; rfl)
  obtain ⟨R, hR⟩ : ∃ R, R = putR l s := ⟨_, rfl⟩
  rw [← hR] at HP ⊢
  clear hi0 hz0 hz1 hz2 hr hnl hR
  go_enter Try.func25, Try.ntmps25
  go_wp2
  go_loopw [5, 6, 7] (fun v5 v6 v7 wr => ∃ (k : Nat) (th : Bool) (o : List ByteArray), k ≤ n ∧ v7 = .int .i64 k ∧ v6 = .bool th ∧ Hid (putTo l s k = (th, o)) ∧ Hid (wr.ownsRow w.heap.size 9 1 v5 o.length (sG o)) ∧ Hid (Below w.heap.size w wr)) (fun _ _ v7 _ => n - (intOf v7).toNat)
  case atStart => exact ⟨0, false, [], by omega, rfl, rfl, Lib.hid rfl, Lib.hid (World.ownsRow_nil _ _ _ _), Lib.hid (Below.refl _ _)⟩
  case round =>
    obtain ⟨k, th, o, hk, rfl, rfl, hp, PO, PB⟩ := hrel
    obtain ⟨V, rfl⟩ : ∃ wo : World, wo = wr := ⟨_, rfl⟩
    have hol : o.length ≤ 2000 := by
      have h2 := put_le l s k
      rw [hp.out] at h2
      have h3 : o.length ≤ 2 * k := h2
      omega
    obtain ⟨m, hm⟩ : ∃ m, m = o.length := ⟨_, rfl⟩
    have HM := Lib.hid hm
    rw [← hm] at hol PO
    by_cases hlt : k < n
    · have hx : l[k]? = some (l[k]'(by rw [← HN.out]; exact hlt)) := List.getElem?_eq_getElem _
      obtain ⟨t, ht⟩ : ∃ t, t = l[k]'(by rw [← HN.out]; exact hlt) := ⟨_, rfl⟩
      rw [← ht] at hx
      obtain ⟨g, f, rfl, hc⟩ := HC.out k t hx
      have HW := Lib.hid hc
      have c0 := (PB.out.cell (World.block_lt_of_cell? w _ hc)).trans hc
      have HT := Lib.hid (show l.getD k ⟨#[]⟩ = t by rw [List.getD_eq_getElem?_getD, hx]; rfl)
      have k1 : (k : Int) < n := by omega
      have k0 : (0 : Int) ≤ k := by omega
      clear hx ht hc hm
      cases th with
      | true =>
        have HS := Lib.hid (put_thr hp.out HT.out)
        clear hp HT
        go_wp2_with (first
          | (at_builtin
             refine wpList_append_own _ rfl (.tmp 34) (.tmp 39) 22 rfl w.heap.size 9 i0 _ 1 16 Try.underlying22 HI.out HZ0.out HZ1.out HZ2.out rfl (by omega) _ m _ rfl (PO.out.alloc _) ⟨V.heap.size, 0, none⟩ 1 1 (sG [t]) rfl rfl (news_g V t _) (sG_one _) (by unfold maxLen; omega) (by omega) (by rw [World.size_alloc]; exact Nat.le_succ_of_le PB.out.size) ?_
             intro v5 w5 o5 h5 _
             rw [← sG_app] at o5
             have O5 := Lib.hid o5
             have B5 := Lib.hid ((PB.out.alloc PB.out.size _).grown h5 (by rw [World.size_alloc]; exact Nat.le_succ_of_le PB.out.size) (fun g hg => (PO.out.lt g hg).1))
             clear o5 h5))
        go_roundw
        case rel => exact ⟨k + 1, true, o ++ [t], by omega, by go_num, rfl, HS, Lib.hid (by rw [List.length_append, ← HM.out]; exact O5.out), B5⟩
        case measure => simp [intOf]; omega
      | false =>
        cases hle : leB s t with
        | false =>
          have HS := Lib.hid (put_no hp.out HT.out hle)
          unfold leB ltB at hle
          have hle1 := (Bool.or_eq_false_iff.1 hle).1
          have hle2 := (Bool.or_eq_false_iff.1 hle).2
          clear hp HT hle
          go_wp2_with (first
            | (at_builtin
               refine wpList_append_own _ rfl (.tmp 34) (.tmp 39) 22 rfl w.heap.size 9 i0 _ 1 16 Try.underlying22 HI.out HZ0.out HZ1.out HZ2.out rfl (by omega) _ m _ rfl (PO.out.alloc _) ⟨V.heap.size, 0, none⟩ 1 1 (sG [t]) rfl rfl (news_g V t _) (sG_one _) (by unfold maxLen; omega) (by omega) (by rw [World.size_alloc]; exact Nat.le_succ_of_le PB.out.size) ?_
               intro v5 w5 o5 h5 _
               rw [← sG_app] at o5
               have O5 := Lib.hid o5
               have B5 := Lib.hid ((PB.out.alloc PB.out.size _).grown h5 (by rw [World.size_alloc]; exact Nat.le_succ_of_le PB.out.size) (fun g hg => (PO.out.lt g hg).1))
               clear o5 h5))
          go_roundw
          case rel => exact ⟨k + 1, false, o ++ [t], by omega, by go_num, rfl, HS, Lib.hid (by rw [List.length_append, ← HM.out]; exact O5.out), B5⟩
          case measure => simp [intOf]; omega
        | true =>
          cases hll : ltB s t with
          | true =>
            have HS := Lib.hid (put_lt hp.out HT.out hll)
            unfold ltB at hll
            clear hp HT hle
            go_wp2_with (first
              | (at_builtin
                 refine wpList_append_own _ rfl (.tmp 30) (.tmp 32) 22 rfl w.heap.size 9 i0 _ 1 16 Try.underlying22 HI.out HZ0.out HZ1.out HZ2.out rfl (by omega) _ m _ rfl (PO.out.alloc _) ⟨V.heap.size, 0, none⟩ 1 1 (sG [s]) rfl rfl (news_g V s _) (sG_one _) (by unfold maxLen; omega) (by omega) (by rw [World.size_alloc]; exact Nat.le_succ_of_le PB.out.size) ?_
                 intro v5 w5 o5 h5 _
                 rw [← sG_app] at o5
                 have O5 := Lib.hid o5
                 have B5 := Lib.hid ((PB.out.alloc PB.out.size _).grown h5 (by rw [World.size_alloc]; exact Nat.le_succ_of_le PB.out.size) (fun g hg => (PO.out.lt g hg).1))
                 have c5 := (B5.out.cell (World.block_lt_of_cell? w _ HW.out)).trans HW.out
                 clear o5 h5)
              | (at_builtin
                 refine wpList_append_own _ rfl (.tmp 34) (.tmp 39) 22 rfl w.heap.size 9 i0 _ 1 16 Try.underlying22 HI.out HZ0.out HZ1.out HZ2.out rfl (by omega) _ (m + 1) _ rfl (O5.out.alloc _) ⟨w5.heap.size, 0, none⟩ 1 1 (sG [t]) rfl rfl (news_g w5 t _) (sG_one _) (by unfold maxLen; omega) (by omega) (by rw [World.size_alloc]; exact Nat.le_succ_of_le B5.out.size) ?_
                 intro v6 w6 o6 h6 _
                 rw [← sG_app] at o6
                 have O6 := Lib.hid o6
                 have B6 := Lib.hid ((B5.out.alloc B5.out.size _).grown h6 (by rw [World.size_alloc]; exact Nat.le_succ_of_le B5.out.size) (fun g hg => (O5.out.lt g hg).1))
                 clear o6 h6))
            go_roundw
            case rel => exact ⟨k + 1, true, o ++ [s] ++ [t], by omega, by go_num, rfl, HS, Lib.hid (by rw [List.length_append, List.length_append, ← HM.out]; exact O6.out), B6⟩
            case measure => simp [intOf]; omega
          | false =>
            have HS := Lib.hid (put_eq hp.out HT.out hll hle)
            unfold leB at hle
            rw [hll, Bool.false_or] at hle
            unfold ltB at hll
            clear hp HT
            go_wp2_with (first
              | (at_builtin
                 refine wpList_append_own _ rfl (.tmp 34) (.tmp 39) 22 rfl w.heap.size 9 i0 _ 1 16 Try.underlying22 HI.out HZ0.out HZ1.out HZ2.out rfl (by omega) _ m _ rfl (PO.out.alloc _) ⟨V.heap.size, 0, none⟩ 1 1 (sG [t]) rfl rfl (news_g V t _) (sG_one _) (by unfold maxLen; omega) (by omega) (by rw [World.size_alloc]; exact Nat.le_succ_of_le PB.out.size) ?_
                 intro v5 w5 o5 h5 _
                 rw [← sG_app] at o5
                 have O5 := Lib.hid o5
                 have B5 := Lib.hid ((PB.out.alloc PB.out.size _).grown h5 (by rw [World.size_alloc]; exact Nat.le_succ_of_le PB.out.size) (fun g hg => (PO.out.lt g hg).1))
                 clear o5 h5))
            go_roundw
            case rel => exact ⟨k + 1, true, o ++ [t], by omega, by go_num, rfl, HS, Lib.hid (by rw [List.length_append, ← HM.out]; exact O5.out), B5⟩
            case measure => simp [intOf]; omega
    · obtain rfl : k = n := by omega
      have k1 : ¬ (k : Int) < k := by omega
      cases th with
      | true =>
        have hv := Lib.hid (show R = o by rw [HP.out, hp.out]; rfl)
        go_wp2
        go_ret
        exact ⟨_, rfl, by rw [hv.out, ← HM.out]; exact PO.out, PB.out⟩
      | false =>
        have hv := Lib.hid (show R = o ++ [s] by rw [HP.out, hp.out]; rfl)
        go_wp2_with (first
          | (at_builtin
             refine wpList_append_own _ rfl (.tmp 43) (.tmp 45) 22 rfl w.heap.size 9 i0 _ 1 16 Try.underlying22 HI.out HZ0.out HZ1.out HZ2.out rfl (by omega) _ m _ rfl (PO.out.alloc _) ⟨V.heap.size, 0, none⟩ 1 1 (sG [s]) rfl rfl (news_g V s _) (sG_one _) (by unfold maxLen; omega) (by omega) (by rw [World.size_alloc]; exact Nat.le_succ_of_le PB.out.size) ?_
             intro v5 w5 o5 h5 _
             rw [← sG_app] at o5
             have O5 := Lib.hid o5
             have B5 := Lib.hid ((PB.out.alloc PB.out.size _).grown h5 (by rw [World.size_alloc]; exact Nat.le_succ_of_le PB.out.size) (fun g hg => (PO.out.lt g hg).1))
             clear o5 h5))
        go_ret
        exact ⟨_, rfl, by rw [hv.out, List.length_append, ← HM.out]; exact O5.out, B5.out⟩
end Go.Proofs.Ytciocmhmdhmdoaa
