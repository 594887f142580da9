/- The landed calls.All: the library's sort by its contract; and that the five calls return what the chapter says. -/
import Derived.Test.YtijnkhenplmghaaDoorCr
import Derived.Test.YtijnkhenplmghaaDoorHs
namespace Go.Proofs.YtijnkhenplmghaaDoor
open Go.RowKit
set_option linter.unusedVariables false
attribute [local go_sem ↓] Go.wp_at_zero Go.wp_at_succ

theorem flat_es (d : Array En) (j : Nat) (hj : j < d.size * 2) : (esV d.toList)[j]? = some ((Sort.flatK eV 2 d)[j]!) := by
  rw [Sort.get_flatK eV 2 d j hj]
  have hi : j / 2 < d.size := by omega
  have hg := esV_get (l := d.toList) (i := j / 2) (by simpa using hi)
  have e : d.toList.getD (j / 2) d0 = d[j / 2]! := by
    rw [List.getD_eq_getElem?_getD, List.getElem?_eq_getElem (by simpa using hi), getElem!_pos d _ hi]; rfl
  rw [e] at hg
  rcases Nat.mod_two_eq_zero_or_one j with h | h
  · rw [show (esV d.toList)[j]? = (esV d.toList)[j / 2 * 2]? from by congr 1; omega, hg.1, h]; rfl
  · rw [show (esV d.toList)[j]? = (esV d.toList)[j / 2 * 2 + 1]? from by congr 1; omega, hg.2, h]; rfl
theorem sort_heap (V : World) (g m : Nat) (d' : Array En) (os : Array Obj) (k : Nat) (hk : k < V.heap.size) : (sortWorldK eV 2 V g 0 m d' os).heap[k]? = if g = k then (V.heap[k]?).map (Sort.onCells (Sort.putCells id 0 (Sort.flatK eV 2 d'))) else V.heap[k]? := by
  unfold sortWorldK
  rw [Sort.heap_grow_old _ _ (by rw [Sort.size_putRowK]; exact hk)]
  unfold Sort.putRowK Sort.putRow Sort.mapBlock
  exact Array.getElem?_modify
theorem sort_below {V w0 : World} {B g m : Nat} {d' : Array En} {os : Array Obj} (h : Below B w0 V) (hB : B ≤ g) (hV : B ≤ V.heap.size) : Below B w0 (sortWorldK eV 2 V g 0 m d' os) :=
  ⟨h.os, h.tape, h.output, Nat.le_trans h.size (size_sortWorldK_c eV 2 V g 0 m d' os), fun k hk => by
    rw [sort_heap V g m d' os k (by omega), if_neg (by omega)]; exact h.block k hk⟩
theorem sort_own {V : World} {B g cap m : Nat} {d d' : Array En} {os : Array Obj} (hd : d'.size = d.size) (h : V.ownsRow B 37 2 (.slice (some ⟨g, 0, none⟩) d.size cap) d.size (esV d.toList)) :
    (sortWorldK eV 2 V g 0 m d' os).ownsRow B 37 2 (.slice (some ⟨g, 0, none⟩) d.size cap) d.size (esV d'.toList) := by
  have hlt := (h.lt g rfl).2
  obtain ⟨h1, h2⟩ := h
  refine ⟨by rw [esV_length]; simp [hd], ?_⟩
  rcases h2 with ⟨h2, _⟩ | ⟨g2, c2, cur, hv, hg, hh, h3, h4, h5, h6⟩
  · exact absurd h2 (by simp)
  · have e1 := (Value.slice.inj hv).1
    have e2 : g = g2 := congrArg (fun o : Option Addr => (o.getD ⟨0, 0, none⟩).block) e1
    have e3 := (Value.slice.inj hv).2.2
    subst e2
    subst e3
    have hp : (Sort.putCells id 0 (Sort.flatK eV 2 d') cur).size = cur.size := by simp [Sort.putCells]
    refine .inr ⟨g, cap, Sort.putCells id 0 (Sort.flatK eV 2 d') cur, rfl, hg, by rw [sort_heap V g m d' os g hlt, if_pos rfl, hh]; rfl, h3, h4, by rw [hp]; exact h5, ?_⟩
    apply List.ext_getElem?
    intro j
    rw [List.getElem?_take]
    split
    · rename_i hj
      rw [flat_es d' j (by omega), Array.getElem?_toList]
      have hj2 : j < cur.size := by rw [h5]; exact Nat.lt_of_lt_of_le hj (Nat.mul_le_mul_right 2 h3)
      rw [Array.getElem?_eq_getElem (by rw [hp]; exact hj2)]
      simp [Sort.putCells, hd, hj]
    · rename_i hj
      rw [List.getElem?_eq_none]
      rw [esV_length, Array.length_toList, hd]; omega
theorem own_holds {V : World} {B g cap : Nat} {d : Array En} (h : V.ownsRow B 37 2 (.slice (some ⟨g, 0, none⟩) d.size cap) d.size (esV d.toList)) : Sort.HoldsK eV 2 V g 0 d := fun j hj => by
  have hj2 : j < d.size * 2 := by simpa using hj
  rw [Nat.zero_add]
  exact ⟨(h.cellAt j hj2).trans (flat_es d j hj2), h.frozenAt j⟩
theorem nan9 (a : Int) (W : World) : Calls Tryd.prog 31 #[.int .u32 a] W fun e w' => e = .returned (.bool false) ∧ w' = W := by
  have e : (a != a) = false := by simp
  go_enter Tryd.func31, Tryd.ntmps31
  go_wp2
  go_ret
  exact ⟨rfl, rfl⟩
theorem cmp9 (a b : Int) (W : World) : Calls Tryd.prog 26 #[.int .u32 a, .int .u32 b] W fun e w' => e = .returned (.int .i64 (Lib.compareInt a b)) ∧ w' = W := by
  have HN := Lib.hid (fun x W => nan9 x W)
  unfold Lib.compareInt
  by_cases h : a < b
  · rw [if_pos h]
    go_enter Tryd.func26, Tryd.ntmps26
    go_wp2_with (go_at_call 31; ((with_reducible refine (HN.out _ _).mono ?_); rintro e w1 ⟨rfl, rfl⟩))
    go_ret
    exact ⟨rfl, rfl⟩
  · rw [if_neg h]
    by_cases h2 : b < a
    · rw [if_pos h2]
      have h2' : a > b := h2
      go_enter Tryd.func26, Tryd.ntmps26
      go_wp2_with (go_at_call 31; ((with_reducible refine (HN.out _ _).mono ?_); rintro e w1 ⟨rfl, rfl⟩))
      go_ret
      exact ⟨rfl, rfl⟩
    · rw [if_neg h2]
      go_enter Tryd.func26, Tryd.ntmps26
      go_wp2_with (go_at_call 31; ((with_reducible refine (HN.out _ _).mono ?_); rintro e w1 ⟨rfl, rfl⟩))
      go_ret
      exact ⟨rfl, rfl⟩
theorem clos9 (x y : En) (W : World) : Calls Tryd.prog 25 #[.agg #[.string x.1, .int .u32 x.2], .agg #[.string y.1, .int .u32 y.2]] W fun e w' => e = .returned (.int .i64 (cf9 x y)) ∧ ∃ q os', w' = Sort.grow (W.drewN q) os' := by
  have HC := Lib.hid (fun W => cmp9 x.2 y.2 W)
  unfold cf9
  generalize Lib.compareInt x.2 y.2 = r at HC ⊢
  go_enter Tryd.func25, Tryd.ntmps25
  go_wp2_with (go_at_call 26; ((with_reducible refine (HC.out _).mono ?_); rintro e w' ⟨rfl, rfl⟩))
  go_ret
  exact ⟨rfl, 0, _, by rw [Sort.alloc_eq_grow, Sort.alloc_eq_grow, Sort.grow_grow]; rfl⟩
theorem sort9 (V : World) (B g cap : Nat) (d : Array En) (hV : V.ownsRow B 37 2 (.slice (some ⟨g, 0, none⟩) d.size cap) d.size (esV d.toList)) (hs : d.size < 4611686018427387904) (hB : B ≤ V.heap.size) :
    Calls Tryd.prog 24 #[.slice (some ⟨g, 0, none⟩) d.size cap, .func (.func 25) #[] #[]] V fun e w' => e = .returned (.tuple #[]) ∧ ∃ d', Sort.PermIn 0 d.size d d' ∧ Sort.SortedIn (ltOf cf9) 0 d.size d' ∧ w'.ownsRow B 37 2 (.slice (some ⟨g, 0, none⟩) d.size cap) d.size (esV d'.toList) ∧ Below B V w' := by
  have eg : ∀ args w, (callFunc 25 args).run Tryd.prog w = .ok (.enter 25 args) w := enters_of Tryd.func25 (by kernel_rfl) rfl
  have hl := hV.lt g rfl
  have hcon := AnyQ.slices_SortFunc Tryd.sortCall 2 Tryd.isAgg37 Tryd.sizeOf37 eV (fun _ => rfl) (fun x v hv => by simp [eV] at hv; rcases hv with rfl | rfl <;> rfl) cf9 swo9 25 #[] g 0 cap d V eg (fun _ _ _ _ x y => clos9 x y _) (own_holds hV) hl.2 hs
  change Calls Tryd.prog 24 _ _ _ at hcon
  refine hcon.mono ?_
  rintro e w' ⟨rfl, d', m, os, hp, hs', rfl⟩
  exact ⟨rfl, d', hp, hs', sort_own hp.1 hV, sort_below (Below.refl _ _) hl.1 hB⟩
theorem sort9_none (V : World) (p : Option Addr) (cap : Nat) : Calls Tryd.prog 24 #[.slice p 0 cap, .func (.func 25) #[] #[]] V fun e w' => e = .returned (.tuple #[]) ∧ w' = V := by
  have hcon := AnyF.slices_SortFunc_none Tryd.sortCall p cap (.func (.func 25) #[] #[]) V
  change Calls Tryd.prog 24 _ _ _ at hcon
  exact hcon
theorem news_e2 (w : World) (x : En) (t : TypeId) : ∀ j u, (esV [x])[j]? = some u → (w.alloc (.cells #[.string x.1, .int .u32 x.2] t)).cell? ((⟨w.heap.size, 0, none⟩ : Addr).add j) = some u := news_e w x t
set_option maxRecDepth 100000 in
set_option maxHeartbeats 16000000 in
theorem all9 (a : Int) (w : World) (hG : GA8 w) : Calls Tryd.prog 16 #[.int .i64 a] w fun e w' => ∃ q c, e = .returned (.slice q (allT a 40).length c) ∧ w'.ownsRow w.heap.size 37 2 (.slice q (allT a 40).length c) (allT a 40).length (esV (allT a 40)) ∧ Below w.heap.size w w' := by
  obtain ⟨i0, hi', hz0, hz1, hz2⟩ := call_info
  have HI := Lib.hid hi'
  have HZ0 := Lib.hid hz0
  have HZ1 := Lib.hid hz1
  have HZ2 := Lib.hid hz2
  have HT := Lib.hid (fun W => table9 W)
  have HGA := Lib.hid (fun W b => (hG.on b : GA8 W))
  have HS0 := Lib.hid (fun V p cap => sort9_none V p cap)
  clear hi' hz0 hz1 hz2 hG
  go_enter Tryd.func16, Tryd.ntmps16
  go_wp2_with (go_at_call 21; ((with_reducible refine (HT.out _).mono ?_); rintro e W ⟨rfl, b1⟩); have B1 := Lib.hid b1; clear b1)
  clear HT
  go_loopw [3, 9] (fun v3 v9 wr => ∃ k : Nat, k ≤ 40 ∧ v9 = .int .i64 k ∧ Hid (wr.ownsRow W.heap.size 37 2 v3 (rawT a k).length (esV (rawT a k))) ∧ Hid (Below W.heap.size W wr)) (fun _ v9 _ => 40 - (intOf v9).toNat)
  case atStart => exact ⟨0, by omega, rfl, Lib.hid (World.ownsRow_nil _ _ _ _), Lib.hid (Below.refl _ _)⟩
  case round =>
    obtain ⟨k, hk, rfl, PO, PB⟩ := hrel
    obtain ⟨V, rfl⟩ : ∃ wo : World, wo = wr := ⟨_, rfl⟩
    have hsz := PB.out.size
    by_cases hlt : k < 40
    · have k1 : (k : Int) < 40 := by omega
      have k0 : (0 : Int) ≤ k := by omega
      have HO := Lib.hid (fun W g => on9_any a k hlt W g)
      have HR := Lib.hid (show (rL k).toArray = #[.string (nmT k), .int .i16 (mN k 0), .int .i16 (mN k 1), .int .i16 (mN k 2), .int .i16 (mN k 3), .int .i16 (mN k 4), .int .i16 (mN k 5)] from by rw [rL_is k hlt])
      rw [HR.out] at HO
      have HA1 := Lib.hid (show okT a k = true → rawT a (k + 1) = rawT a k ++ [(nmT k, onN a k)] from fun h => by
        show (if okT a k = true then _ else _) = _
        rw [if_pos h])
      have HA0 := Lib.hid (show okT a k = false → rawT a (k + 1) = rawT a k from fun h => by
        show (if okT a k = true then _ else _) = _
        rw [if_neg (by rw [h]; decide)])
      have hal := rawT_length a k
      generalize nmT k = x at HR HO HA1
      generalize mN k 0 = n0 at HR HO
      generalize mN k 1 = n1 at HR HO
      generalize mN k 2 = n2 at HR HO
      generalize mN k 3 = n3 at HR HO
      generalize mN k 4 = n4 at HR HO
      generalize mN k 5 = n5 at HR HO
      generalize onN a k = y at HO HA1
      generalize okT a k = z at HO HA1 HA0
      obtain ⟨L, hL⟩ : ∃ L, L = rawT a k := ⟨_, rfl⟩
      rw [← hL] at HA1 HA0 PO hal
      clear hL
      have HGV := Lib.hid (HGA.out _ ((thn9 B1.out PB.out).alloc (Nat.le_trans B1.out.size hsz) (.cells #[.string x, .int .i16 n0, .int .i16 n1, .int .i16 n2, .int .i16 n3, .int .i16 n4, .int .i16 n5] 46)))
      cases z
      · have HS := Lib.hid (HA0.out rfl)
        clear HA1 HA0
        go_wp2_with (first
          | ((with_reducible show wpList _ _ _ (⟨some 11, _, _, _, _, _⟩ :: _) _ _)
             refine wpList_row9 rfl (.tmp 8) (.tmp 9) rfl k hlt rfl rfl ?_
             rw [HR.out])
          | (go_at_call 19; ((with_reducible refine (HO.out _ HGV.out).mono ?_); rintro e w1 ⟨rfl, b2⟩); have B2 := Lib.hid (thn9 ((Below.refl V.heap.size V).alloc (Nat.le_refl _) (.cells #[.string x, .int .i16 n0, .int .i16 n1, .int .i16 n2, .int .i16 n3, .int .i16 n4, .int .i16 n5] 46)) b2)))
        go_roundw
        case rel => exact ⟨k + 1, by omega, by go_num, Lib.hid (by rw [HS.out]; exact ownOn9 PO.out B2.out), Lib.hid (PB.out.trans (B2.out.mono hsz))⟩
        case measure => simp [intOf]; omega
      · have HS := Lib.hid (HA1.out rfl)
        clear HA1 HA0
        go_wp2_with (first
          | ((with_reducible show wpList _ _ _ (⟨some 11, _, _, _, _, _⟩ :: _) _ _)
             refine wpList_row9 rfl (.tmp 8) (.tmp 9) rfl k hlt rfl rfl ?_
             rw [HR.out])
          | (go_at_call 19; ((with_reducible refine (HO.out _ HGV.out).mono ?_); rintro e w1 ⟨rfl, b2⟩); have hc0 := (cell_of_row w1 V.heap.size 0 _ _ (0, 0) ((b2.block V.heap.size (by rw [World.size_alloc]; exact Nat.lt_succ_self _)).trans (heap_alloc_new V _))).trans (show _ = some (Value.string x) from rfl); have B2 := Lib.hid (thn9 ((Below.refl V.heap.size V).alloc (Nat.le_refl _) (.cells #[.string x, .int .i16 n0, .int .i16 n1, .int .i16 n2, .int .i16 n3, .int .i16 n4, .int .i16 n5] 46)) b2); have hs1 := B2.out.size)
          | (at_builtin
             refine wpList_append_own _ rfl (.tmp 19) (.tmp 24) 34 rfl W.heap.size 37 i0 _ 2 24 Tryd.underlying34 HI.out HZ0.out HZ1.out HZ2.out rfl (by omega) _ L.length (esV L) rfl ((ownOn9 PO.out B2.out).alloc _) ⟨w1.heap.size, 0, none⟩ 1 1 (esV [(x, y)]) rfl rfl (news_e2 w1 (x, y) _) (esV_one _) (by unfold maxLen; omega) (by omega) (by rw [World.size_alloc]; omega) ?_
             intro v5 w5 o5 hg5 _
             rw [← esV_app] at o5
             have O5 := Lib.hid o5
             have B5 := Lib.hid (((PB.out.trans (B2.out.mono hsz)).alloc (Nat.le_trans hsz hs1) _).grown hg5 (by rw [World.size_alloc]; omega) (fun g hg => (PO.out.lt g hg).1))
             clear o5 hg5))
        go_roundw
        case rel => exact ⟨k + 1, by omega, by go_num, Lib.hid (by rw [HS.out, List.length_append, List.length_singleton]; exact O5.out), B5⟩
        case measure => simp [intOf]; omega
    · obtain rfl : k = 40 := by omega
      have ho := PO.out
      have hpm := raw_perm a 40 (Nat.le_refl _)
      have hlen : (rawT a 40).length = (allT a 40).length := hpm.length_eq.symm
      have hle := rawT_length a 40
      by_cases h0 : (rawT a 40).length = 0
      · have e1 : rawT a 40 = [] := List.eq_nil_of_length_eq_zero h0
        have e2 : allT a 40 = [] := by rw [e1] at hpm; exact hpm.eq_nil
        rw [e1] at ho
        obtain ⟨q, c, hv⟩ : ∃ q c, _ = Value.slice q 0 c := ownForm9 ho
        subst hv
        go_wp2_with (go_at_call 24; ((with_reducible refine (HS0.out _ _ _).mono ?_); rintro e w1 ⟨rfl, rfl⟩))
        go_ret
        rw [e2]
        exact ⟨q, c, rfl, ownBase9 ho B1.out.size, B1.out.trans (PB.out.mono B1.out.size)⟩
      · have ha : 0 ≤ a ∧ a < 6 := Decidable.byContradiction fun h => h0 (by rw [rawT_out a h 40]; rfl)
        obtain ⟨q, c, hv⟩ : ∃ q c, _ = Value.slice q (rawT a 40).length c := ownForm9 ho
        subst hv
        obtain ⟨g, hg⟩ : ∃ g, q = some ⟨g, 0, none⟩ := by
          rcases ho.2 with ⟨_, hn⟩ | ⟨g, cap, cur, hv, _⟩
          · exact absurd hn h0
          · exact ⟨g, (Value.slice.inj hv).1⟩
        subst hg
        obtain ⟨d, hd⟩ : ∃ d : Array En, d.toList = rawT a 40 := ⟨(rawT a 40).toArray, rfl⟩
        have hds : (rawT a 40).length = d.size := by rw [← hd]; exact Array.length_toList
        have HD := Lib.hid (fun (d' : Array En) (hp : Sort.PermIn 0 d.size d d') (hs : Sort.SortedIn (ltOf cf9) 0 d.size d') => (sorted_is ha hd hp hs : d'.toList = allT a 40))
        rw [hds, ← hd] at ho
        rw [hds] at hle h0 hlen
        have HLE := Lib.hid hlen.symm
        have HSO := Lib.hid (sort9 V W.heap.size g c d ho (by omega) hsz)
        clear ho hd hlen hpm
        rw [hds]
        go_wp2_with (go_at_call 24; ((with_reducible refine (HSO.out).mono ?_); rintro e w1 ⟨rfl, d', hp, hs, ho', hb'⟩))
        go_ret
        rw [HD.out d' hp hs] at ho'
        rw [HLE.out]
        exact ⟨some ⟨g, 0, none⟩, c, rfl, ownBase9 ho' B1.out.size, B1.out.trans ((PB.out.trans hb').mono B1.out.size)⟩
theorem callsC : CallsC GA8 where
  on h b := h.on b
  names w _ := names9 w
  known s w _ _ := known9 s w
  number a s w g _ _ _ := number9 a s w g
  name a nr w g _ _ _ _ := namer9 a nr w g
  all a w g _ _ := all9 a w g
end Go.Proofs.YtijnkhenplmghaaDoor
