/- What the document's own All of the calls returns: the calls of an architecture, sorted. No condition. -/
import Derived.Test.YtijnkhenplmghaaDoorCc
import Derived.Deep.RegionHeld3
import Derived.Deep.RegionWith
import Derived.BigQuiet
import Derived.Deep.QuietTactic
import Derived.WalkSmall
namespace Go.Proofs.YtijnkhenplmghaaDoor
open Go.RowKit
set_option linter.unusedVariables false
attribute [local go_sem ↓] Go.wp_at_zero Go.wp_at_succ

/-- A name with its number. -/
abbrev En := ByteArray × Int
def d0 : En := (⟨#[]⟩, 0)
def eV (e : En) : List Value := [.string e.1, .int .u32 e.2]
def esV (l : List En) : List Value := l.flatMap eV
theorem esV_length : ∀ (l : List En), (esV l).length = l.length * 2
  | [] => rfl
  | e :: r => by
    have := esV_length r
    show (eV e ++ esV r).length = _
    rw [List.length_append, this, List.length_cons]
    show 2 + r.length * 2 = _
    omega
theorem esV_app (l m : List En) : esV (l ++ m) = esV l ++ esV m := List.flatMap_append
theorem esV_one (l : List En) : ∀ u ∈ esV l, u.oneCell' = true := fun u hu => by
  obtain ⟨e, _, h⟩ := List.mem_flatMap.1 hu
  rcases List.mem_cons.1 h with h | h
  · rw [h]; rfl
  · rw [List.mem_singleton.1 h]; rfl
theorem esV_get : ∀ {l : List En} {i : Nat}, i < l.length → (esV l)[i * 2]? = some (.string (l.getD i d0).1) ∧ (esV l)[i * 2 + 1]? = some (.int .u32 (l.getD i d0).2)
  | e :: r, 0, _ => ⟨rfl, rfl⟩
  | e :: r, i + 1, h => by
    have h' : i < r.length := by simpa using h
    have ih := esV_get (l := r) (i := i) h'
    show (eV e ++ esV r)[(i + 1) * 2]? = some (.string (r.getD i d0).1) ∧ (eV e ++ esV r)[(i + 1) * 2 + 1]? = some (.int .u32 (r.getD i d0).2)
    have e1 : (i + 1) * 2 = (eV e).length + i * 2 := by show _ = 2 + _; omega
    rw [e1, Nat.add_assoc, List.getElem?_append_right (by omega), List.getElem?_append_right (by omega), Nat.add_sub_cancel_left, Nat.add_sub_cancel_left]
    exact ih
theorem esV_set : ∀ (l : List En) (i : Nat) (e : En), esV (l.set i e) = ((esV l).set (i * 2) (.string e.1)).set (i * 2 + 1) (.int .u32 e.2)
  | [], i, e => rfl
  | x :: r, 0, e => rfl
  | x :: r, i + 1, e => by
    show eV x ++ esV (r.set i e) = ((eV x ++ esV r).set ((i + 1) * 2) _).set ((i + 1) * 2 + 1) _
    have e1 : (i + 1) * 2 = (eV x).length + i * 2 := by show _ = 2 + _; omega
    rw [esV_set r i e, e1, Nat.add_assoc, List.set_append_right _ _ (by omega), List.set_append_right _ _ (by omega), Nat.add_sub_cancel_left, Nat.add_sub_cancel_left]
/-- Two neighbours change places. -/
def swp (l : List En) (k : Nat) : List En := (l.set (k + 1) (l.getD k d0)).set k (l.getD (k + 1) d0)
theorem swp_length (l : List En) (k : Nat) : (swp l k).length = l.length := by unfold swp; rw [List.length_set, List.length_set]
def bubT : Nat → List En → List En
  | 0, l => l
  | k + 1, l => if (l.getD (k + 1) d0).2 < (l.getD k d0).2 then bubT k (swp l k) else l
theorem bubT_length : ∀ (k : Nat) (l : List En), (bubT k l).length = l.length
  | 0, _ => rfl
  | k + 1, l => by
    unfold bubT
    split
    · rw [bubT_length k, swp_length]
    · rfl
/-- The calls of an architecture among the first so many, sorted. -/
def allT (a : Int) : Nat → List En
  | 0 => []
  | k + 1 => if (numR a (nmT k)).2 = 0 then bubT (allT a k).length (allT a k ++ [(nmT k, (numR a (nmT k)).1)]) else allT a k
theorem allT_length (a : Int) : ∀ k, (allT a k).length ≤ k
  | 0 => Nat.le_refl _
  | k + 1 => by
    have := allT_length a k
    unfold allT
    split
    · rw [bubT_length, List.length_append, List.length_singleton]; omega
    · omega
theorem ownForm9 {w : World} {B size n : Nat} {e : TypeId} {v : Value} {xs : List Value} (h : w.ownsRow B e size v n xs) : ∃ q c, v = .slice q n c := by
  rcases h.2 with ⟨hv, h0⟩ | ⟨g, cap, cur, hv, _⟩
  · exact ⟨none, 0, by rw [hv, h0]⟩
  · exact ⟨_, _, hv⟩
theorem ownOn9 {w w' : World} {B n size : Nat} {e : TypeId} {v : Value} {xs : List Value} (h : w.ownsRow B e size v n xs) (hb : Below w.heap.size w w') : w'.ownsRow B e size v n xs := by
  have hl := h.lt
  obtain ⟨h1, h2⟩ := h
  refine ⟨h1, ?_⟩
  rcases h2 with h2 | ⟨g, cap, cur, hv, hg, hh, r⟩
  · exact Or.inl h2
  · exact Or.inr ⟨g, cap, cur, hv, hg, by rw [hb.block g (hl g (by rw [hv]; rfl)).2]; exact hh, r⟩
theorem call_info : ∃ i : TypeInfo, Tryd.prog.info? 37 = some i ∧ i.zero = some (.agg #[.string ⟨#[]⟩, .int .u32 0]) ∧ i.size = 2 ∧ i.bytes = 24 := by
  refine ⟨(Tryd.prog.info? 37).get (by kernel_rfl), (Option.some_get _).symm, by kernel_rfl, by kernel_rfl, by kernel_rfl⟩
theorem news_e (w : World) (x : En) (t : TypeId) : ∀ j u, (esV [x])[j]? = some u → (w.alloc (.cells #[.string x.1, .int .u32 x.2] t)).cell? ((⟨w.heap.size, 0, none⟩ : Addr).add j) = some u := fun j u hu => by
  rw [Addr.add_lit, Nat.zero_add, cell_of_row _ _ j _ _ (0, 0) (heap_alloc_new w _), ← Array.getElem?_toList]
  exact hu
set_option maxRecDepth 100000 in
set_option maxHeartbeats 16000000 in
theorem refAll9 (a : Int) (w : World) : Calls Tryd.prog 17 #[.int .i64 a] w fun e w' => ∃ q c, e = .returned (.slice q (allT a 40).length c) ∧ w'.ownsRow w.heap.size 37 2 (.slice q (allT a 40).length c) (allT a 40).length (esV (allT a 40)) ∧ Below w.heap.size w w' := by
  obtain ⟨i0, hi', hz0, hz1, hz2⟩ := call_info
  have HI := Lib.hid hi'
  have HZ0 := Lib.hid hz0
  have HZ1 := Lib.hid hz1
  have HZ2 := Lib.hid hz2
  have HT := Lib.hid (table_c w)
  have HNU := Lib.hid (fun (s : ByteArray) (V : World) => refNumber9 a s V)
  clear hi' hz0 hz1 hz2
  go_enter Tryd.func17, Tryd.ntmps17
  go_wp2_with (go_at_call 20; ((with_reducible refine (HT.out).mono ?_); rintro e W ⟨rfl, t1, b1⟩); have HC := Lib.hid t1; have B1 := Lib.hid b1; clear t1 b1)
  clear HT
  go_loopw [3, 5] (fun v3 v5 wr => ∃ k : Nat, k ≤ 40 ∧ v5 = .int .i64 k ∧ Hid (wr.ownsRow W.heap.size 37 2 v3 (allT a k).length (esV (allT a k))) ∧ Hid (Below W.heap.size W wr)) (fun _ v5 _ => 40 - (intOf v5).toNat)
  case atStart => exact ⟨0, by omega, rfl, Lib.hid (World.ownsRow_nil _ _ _ _), Lib.hid (Below.refl _ _)⟩
  case round =>
    obtain ⟨k, hk, rfl, PO, PB⟩ := hrel
    obtain ⟨V, rfl⟩ : ∃ wo : World, wo = wr := ⟨_, rfl⟩
    by_cases hlt : k < 40
    · have hc := (HC.out.on PB.out).name k hlt
      have k1 : (k : Int) < 40 := by omega
      have k0 : (0 : Int) ≤ k := by omega
      have HA1 := Lib.hid (show (numR a (nmT k)).2 = 0 → allT a (k + 1) = bubT (allT a k).length (allT a k ++ [(nmT k, (numR a (nmT k)).1)]) from fun h => by
        show (if (numR a (nmT k)).2 = 0 then _ else _) = _
        rw [if_pos h])
      have HA0 := Lib.hid (show (numR a (nmT k)).2 ≠ 0 → allT a (k + 1) = allT a k from fun h => by
        show (if (numR a (nmT k)).2 = 0 then _ else _) = _
        rw [if_neg h])
      have HN1 := Lib.hid (fun V => HNU.out (nmT k) V)
      have hal := allT_length a k
      obtain ⟨x, hx⟩ : ∃ x, x = nmT k := ⟨_, rfl⟩
      rw [← hx] at hc HA1 HA0 HN1
      obtain ⟨⟨p, q⟩, hpq⟩ : ∃ r, r = numR a x := ⟨_, rfl⟩
      rw [← hpq] at HA1 HA0 HN1
      obtain ⟨L, hL⟩ : ∃ L, L = allT a k := ⟨_, rfl⟩
      rw [← hL] at HA1 HA0 PO hal
      have hsz := PB.out.size
      clear hx hpq hL
      by_cases hq : q = 0
      · subst hq
        have HS := Lib.hid (HA1.out rfl)
        clear HA1 HA0
        obtain ⟨n, hn⟩ : ∃ n, n = L.length := ⟨_, rfl⟩
        rw [← hn] at HS PO hal
        have HLN := Lib.hid hn
        have n1 : (n : Int) ≤ 40 := by omega
        clear hn
        go_wp2_with (first
          | (go_at_call 8; ((with_reducible refine (HN1.out _).mono ?_); rintro e v2 ⟨rfl, b2⟩); have c2 := (b2.cell (World.block_lt_of_cell? _ _ hc)).trans hc; have PB2 := Lib.hid (PB.out.trans (b2.mono hsz)); have PO2 := Lib.hid (ownOn9 PO.out b2); have hsz2 := PB2.out.size)
          | (at_builtin
             refine wpList_append_own _ rfl (.tmp 28) (.tmp 36) 34 rfl W.heap.size 37 i0 _ 2 24 Tryd.underlying34 HI.out HZ0.out HZ1.out HZ2.out rfl (by omega) _ n (esV L) rfl (PO2.out.alloc _) ⟨v2.heap.size, 0, none⟩ 1 1 (esV [(x, p)]) rfl rfl (news_e v2 (x, p) _) (esV_one _) (by unfold maxLen; omega) (by omega) (by rw [World.size_alloc]; omega) ?_
             intro v5 w5 o5 hg5 _
             rw [← esV_app] at o5
             have O5 := Lib.hid o5
             have B5 := Lib.hid ((PB2.out.alloc hsz2 _).grown hg5 (by rw [World.size_alloc]; omega) (fun g hg => (PO2.out.lt g hg).1))
             obtain ⟨g5, c5, hv5, hgB, hgl⟩ := o5.form (by omega)
             subst hv5
             clear o5 hg5))
        obtain ⟨L0, hL0⟩ : ∃ L0, L0 = L ++ [(x, p)] := ⟨_, rfl⟩
        have hl0 : L0.length = n + 1 := by rw [hL0, List.length_append, ← HLN.out]; rfl
        rw [← hL0] at O5 HS
        clear hL0 HLN
        have e1 : ((n + 1 : Nat) : Int) - 1 = n := by omega
        go_loopw [8] (fun v8 wr => ∃ (j : Nat) (L' : List En), j ≤ n ∧ v8 = .int .i64 j ∧ Hid (bubT j L' = bubT n L0) ∧ Hid (L'.length = n + 1) ∧ Hid (wr.ownsRow W.heap.size 37 2 (.slice (some ⟨g5, 0, none⟩) (n + 1) c5) (n + 1) (esV L')) ∧ Hid (Below W.heap.size W wr)) (fun v8 _ => (intOf v8).toNat)
        case atStart => exact ⟨n, L0, Nat.le_refl _, rfl, Lib.hid rfl, Lib.hid hl0, O5, B5⟩
        case round =>
          clear O5 B5
          obtain ⟨j, L', hj, rfl, HB, HL', PO', PB'⟩ := hrel
          obtain ⟨U, rfl⟩ : ∃ wo : World, wo = wr := ⟨_, rfl⟩
          have hj1 : (j : Int) ≤ n := by omega
          match j, hj, HB with
          | 0, hj, HB =>
            have HE := Lib.hid (show L' = bubT n L0 from HB.out)
            clear HB
            go_wp2_with fail
            go_quiet (fail)
            go_wp2_with fail
            go_roundw
            case rel => exact ⟨k + 1, by omega, by go_num, Lib.hid (by rw [HS.out, bubT_length, hl0, ← HE.out]; exact ownOn9 PO'.out (below_drewN (Below.refl _ _) _)), Lib.hid (below_drewN PB'.out _)⟩
            case measure => simp [intOf]; omega
          | m + 1, hj, HB =>
            have hL1 : m + 1 < L'.length := by rw [HL'.out]; omega
            have hL2 : m < L'.length := by omega
            have g1 := esV_get hL1
            have g2 := esV_get hL2
            have ca0 := PO'.out.cellAt ((m + 1) * 2) (by omega)
            have ca1 := PO'.out.cellAt ((m + 1) * 2 + 1) (by omega)
            have cb0 := PO'.out.cellAt (m * 2) (by omega)
            have cb1 := PO'.out.cellAt (m * 2 + 1) (by omega)
            rw [g1.1] at ca0
            rw [g1.2] at ca1
            rw [g2.1] at cb0
            rw [g2.2] at cb1
            have HU := Lib.hid (show bubT (m + 1) L' = if (L'.getD (m + 1) d0).2 < (L'.getD m d0).2 then bubT m (swp L' m) else L' from rfl)
            obtain ⟨ea, hea⟩ : ∃ e, e = L'.getD (m + 1) d0 := ⟨_, rfl⟩
            obtain ⟨eb, heb⟩ : ∃ e, e = L'.getD m d0 := ⟨_, rfl⟩
            have HSW := Lib.hid (show swp L' m = (L'.set (m + 1) eb).set m ea from by rw [hea, heb]; rfl)
            rw [← hea] at ca0 ca1 HU
            rw [← heb] at cb0 cb1 HU
            clear hea heb g1 g2
            obtain ⟨na, xa⟩ := ea
            obtain ⟨nb, xb⟩ := eb
            simp only at ca0 ca1 cb0 cb1 HU
            have HEY := Lib.hid (fun (h : xa < xb) => show bubT m (swp L' m) = bubT n L0 from by rw [← HB.out, HU.out, if_pos h])
            have HEN := Lib.hid (fun (h : ¬ xa < xb) => show L' = bubT n L0 from by rw [← HB.out, HU.out, if_neg h])
            have fa0 := PO'.out.frozenAt ((m + 1) * 2)
            have fa1 := PO'.out.frozenAt ((m + 1) * 2 + 1)
            have fb0 := PO'.out.frozenAt (m * 2)
            have fb1 := PO'.out.frozenAt (m * 2 + 1)
            have HPO := Lib.hid PO'.out
            have hmj : m + 1 ≤ n := hj
            have HOWN := Lib.hid (fun (X : World) (h : X.ownsRow W.heap.size 37 2 (.slice (some ⟨g5, 0, none⟩) (n + 1) c5) (n + 1) (esV L')) => (by
              have s1 := (h.stored ((m + 1) * 2) (.string nb)).1
              have s2 := (s1.stored ((m + 1) * 2 + 1) (.int .u32 xb)).1
              have s3 := (s2.stored (m * 2) (.string na)).1
              have s4 := (s3.stored (m * 2 + 1) (.int .u32 xa)).1
              rw [HSW.out, esV_set, esV_set]
              exact s4 : ((((X.setCell ⟨g5, (m + 1) * 2, none⟩ (.string nb)).setCell ⟨g5, (m + 1) * 2 + 1, none⟩ (.int .u32 xb)).setCell ⟨g5, m * 2, none⟩ (.string na)).setCell ⟨g5, m * 2 + 1, none⟩ (.int .u32 xa)).ownsRow W.heap.size 37 2 (.slice (some ⟨g5, 0, none⟩) (n + 1) c5) (n + 1) (esV (swp L' m))))
            clear hj hj1 hL1 hL2 HB HU
            generalize hJ : m + 1 = J at ca0 ca1 fa0 fa1 hmj HOWN ⊢
            generalize hNN : n + 1 = N at HL' HOWN HPO PO' ⊢
            have hwm : IntKind.i64.wrap (m : Int) = m := by rw [IntKind.wrap_i64]; omega
            have hw2 : IntKind.i64.wrap ((J : Int) - 1) = m := by rw [IntKind.wrap_i64]; omega
            have m1 : (J : Int) - 1 = m := by omega
            have m2 : (0 : Int) < (J : Int) := by omega
            have m3 : (J : Int) < (N : Int) := by omega
            have m4 : (m : Int) < (N : Int) := by omega
            have m5 : (0 : Int) ≤ (m : Int) := by omega
            have m6 : (0 : Int) ≤ (J : Int) := by omega
            have m40 : (N : Int) ≤ 41 := by omega
            have mN : m < N := by omega
            have jN : J < N := by omega
            have j0 : 0 < J := by omega
            have HJ := Lib.hid hJ
            have HNN := Lib.hid hNN
            have HMN := Lib.hid hmj
            clear hJ hNN hmj n1 e1
            by_cases hlt2 : xa < xb
            · have HE := Lib.hid (HEY.out hlt2)
              clear HEY HEN
              go_wp2_with fail
              go_quiet (fail)
              go_wp2_with fail
              go_region_with (fail)
              all_goals
                go_wp2_with fail
                go_roundw
                case rel => exact ⟨m, swp L' m, by have := HMN.out; have := HJ.out; omega, rfl, HE, Lib.hid (by rw [swp_length]; exact HL'.out), Lib.hid (HOWN.out _ (ownOn9 HPO.out (below_drewN (Below.refl _ _) _))), Lib.hid (((((below_drewN PB'.out _).setCell (p := ⟨g5, J * 2, none⟩) hgB _).setCell (p := ⟨g5, J * 2 + 1, none⟩) hgB _).setCell (p := ⟨g5, m * 2, none⟩) hgB _).setCell (p := ⟨g5, m * 2 + 1, none⟩) hgB _)⟩
                case measure => simp [intOf]; have := HJ.out; omega
            · have HE := Lib.hid (HEN.out hlt2)
              clear HEY HEN
              go_wp2_with fail
              go_quiet (fail)
              go_wp2_with fail
              go_roundw
              case rel => exact ⟨k + 1, by omega, by go_num, Lib.hid (by rw [HS.out, bubT_length, hl0, ← HE.out]; rw [HNN.out]; exact ownOn9 PO'.out (below_drewN (Below.refl _ _) _)), Lib.hid (below_drewN PB'.out _)⟩
              case measure => simp [intOf]; omega
      · have hqq : (q != 0) = true := by simp [hq]
        have HS := Lib.hid (HA0.out hq)
        clear HA1 HA0
        go_wp2_with (go_at_call 8; ((with_reducible refine (HN1.out _).mono ?_); rintro e v2 ⟨rfl, b2⟩))
        go_roundw
        case rel => exact ⟨k + 1, by omega, by go_num, Lib.hid (by rw [HS.out]; exact ownOn9 PO.out b2), Lib.hid (PB.out.trans (b2.mono hsz))⟩
        case measure => simp [intOf]; omega
    · obtain rfl : k = 40 := by omega
      have ho := PO.out
      obtain ⟨q, c, hv⟩ := ownForm9 ho
      subst hv
      go_wp2
      go_ret
      exact ⟨q, c, rfl, ownBase9 ho B1.out.size, B1.out.trans (PB.out.mono B1.out.size)⟩
end Go.Proofs.YtijnkhenplmghaaDoor
