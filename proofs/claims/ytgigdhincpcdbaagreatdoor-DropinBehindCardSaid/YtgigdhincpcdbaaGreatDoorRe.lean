/- Files sorted by their names behind the first one, by the library's sort; rows beside a map and its iterator. Condition: a row of files of the call's own. -/
import Derived.Test.YtgigdhincpcdbaaGreatDoorRd
import Derived.Test.YtgigdhincpcdbaaGreatDoorHs
namespace Go.Proofs.YtgigdhincpcdbaaGreatDoor
open Go.RowKit Go.Maps
set_option linter.unusedVariables false
set_option linter.unusedSimpArgs false
attribute [local go_sem ↓] Go.wp_at_zero Go.wp_at_succ

theorem flat_f (d : Array Fle) (j : Nat) (hj : j < d.size * 3) : (rowC encF d.toList)[j]? = some ((Sort.flatK encF 3 d)[j]!) := by
  rw [Sort.get_flatK encF 3 d j hj]
  have hi : j / 3 < d.size := by omega
  have hx : d.toList[j / 3]? = some d[j / 3]! := by
    rw [List.getElem?_eq_getElem (by simpa using hi), getElem!_pos d _ hi]; rfl
  have hm : j % 3 < (encF d[j / 3]!).length := Nat.mod_lt _ (by decide)
  have hg := rowC_get encF_len hx (j % 3) _ (List.getElem?_eq_getElem hm)
  rw [show j / 3 * 3 + j % 3 = j by omega] at hg
  rw [hg, getElem!_pos (encF d[j / 3]!) (j % 3) hm]
theorem sort_heapF (V : World) (g m : Nat) (d' : Array Fle) (os : Array Obj) (k : Nat) (hk : k < V.heap.size) : (sortWorldK encF 3 V g 3 m d' os).heap[k]? = if g = k then (V.heap[k]?).map (Sort.onCells (Sort.putCells id 3 (Sort.flatK encF 3 d'))) else V.heap[k]? := by
  unfold sortWorldK
  rw [Sort.heap_grow_old _ _ (by rw [Sort.size_putRowK]; exact hk)]
  unfold Sort.putRowK Sort.putRow Sort.mapBlock
  exact Array.getElem?_modify
theorem sort_belowF {V w0 : World} {B g m : Nat} {d' : Array Fle} {os : Array Obj} (h : Below B w0 V) (hB : B ≤ g) (hV : B ≤ V.heap.size) : Below B w0 (sortWorldK encF 3 V g 3 m d' os) :=
  ⟨h.os, h.tape, h.output, Nat.le_trans h.size (size_sortWorldK_c encF 3 V g 3 m d' os), fun k hk => by
    rw [sort_heapF V g m d' os k (by omega), if_neg (by omega)]; exact h.block k hk⟩
theorem sort_ownF {V : World} {B g cap m : Nat} {x : Fle} {d d' : Array Fle} {os : Array Obj} (hd : d'.size = d.size) (h : V.ownsRow B 24 3 (.slice (some ⟨g, 0, none⟩) (d.size + 1) cap) (d.size + 1) (rowC encF (x :: d.toList))) :
    (sortWorldK encF 3 V g 3 m d' os).ownsRow B 24 3 (.slice (some ⟨g, 0, none⟩) (d.size + 1) cap) (d.size + 1) (rowC encF (x :: d'.toList)) := by
  have hlt := (h.lt g rfl).2
  obtain ⟨h1, h2⟩ := h
  refine ⟨by rw [rowC_length encF_len, List.length_cons, Array.length_toList, hd], ?_⟩
  rcases h2 with ⟨h2, _⟩ | ⟨g2, c2, cur, hv, hg, hh, h3, h4, h5, h6⟩
  · exact absurd h2 (by simp)
  · have e1 := (Value.slice.inj hv).1
    have e2 : g = g2 := congrArg (fun o : Option Addr => (o.getD ⟨0, 0, none⟩).block) e1
    have e3 := (Value.slice.inj hv).2.2
    subst e2
    subst e3
    have hp : (Sort.putCells id 3 (Sort.flatK encF 3 d') cur).size = cur.size := by simp [Sort.putCells]
    refine .inr ⟨g, cap, Sort.putCells id 3 (Sort.flatK encF 3 d') cur, rfl, hg, by rw [sort_heapF V g m d' os g hlt, if_pos rfl, hh]; rfl, h3, h4, by rw [hp]; exact h5, ?_⟩
    apply List.ext_getElem?
    intro j
    rw [List.getElem?_take]
    have hcs : (d.size + 1) * 3 ≤ cur.size := by rw [h5]; exact Nat.mul_le_mul_right 3 h3
    have hcur : ∀ i, i < (d.size + 1) * 3 → cur[i]? = (rowC encF (x :: d.toList))[i]? := fun i hi => by
      have := congrArg (fun l => l[i]?) h6
      simp only [List.getElem?_take, hi, if_true, Array.getElem?_toList] at this
      exact this
    split
    · rename_i hj
      have hj2 : j < cur.size := by omega
      rw [Array.getElem?_toList, Array.getElem?_eq_getElem (by rw [hp]; exact hj2)]
      by_cases h0 : j < 3
      · have hc := hcur j hj
        rw [Array.getElem?_eq_getElem hj2] at hc
        have e0 : (rowC encF (x :: d'.toList))[j]? = (rowC encF (x :: d.toList))[j]? := by
          show (encF x ++ rowC encF d'.toList)[j]? = (encF x ++ rowC encF d.toList)[j]?
          rw [List.getElem?_append_left (by rw [encF_len]; exact h0), List.getElem?_append_left (by rw [encF_len]; exact h0)]
        rw [e0, ← hc]
        simp [Sort.putCells, Nat.not_le.2 h0]
      · have e0 : (rowC encF (x :: d'.toList))[j]? = (rowC encF d'.toList)[j - 3]? := by
          show (encF x ++ rowC encF d'.toList)[j]? = _
          rw [List.getElem?_append_right (by rw [encF_len]; omega), encF_len]
        rw [e0, flat_f d' (j - 3) (by omega)]
        have h30 : 3 ≤ j := by omega
        have h31 : j < 3 + d.size * 3 := by omega
        simp [Sort.putCells, hd, h30, h31]
    · rename_i hj
      rw [List.getElem?_eq_none]
      rw [rowC_length encF_len, List.length_cons, Array.length_toList, hd]; omega
theorem own_holdsF {V : World} {B g cap : Nat} {x : Fle} {d : Array Fle} (h : V.ownsRow B 24 3 (.slice (some ⟨g, 0, none⟩) (d.size + 1) cap) (d.size + 1) (rowC encF (x :: d.toList))) : Sort.HoldsK encF 3 V g 3 d := fun j hj => by
  have hj2 : j < d.size * 3 := by simpa using hj
  have e0 : (rowC encF (x :: d.toList))[3 + j]? = some ((Sort.flatK encF 3 d)[j]!) := by
    show (encF x ++ rowC encF d.toList)[3 + j]? = _
    rw [List.getElem?_append_right (by rw [encF_len]; omega), encF_len, Nat.add_sub_cancel_left, flat_f d j hj2]
  exact ⟨(h.cellAt (3 + j) (by omega)).trans e0, h.frozenAt (3 + j)⟩
theorem order1_c (x y : Fle) (W : World) : Calls Tryz.prog 26 #[.agg #[.string x.name, .int .i64 x.dir, .slice x.ptr x.len x.cap], .agg #[.string y.name, .int .i64 y.dir, .slice y.ptr y.len y.cap]] W fun e w' => e = .returned (.int .i64 (cfF x y)) ∧ ∃ q os', w' = Sort.grow (W.drewN q) os' := by
  have HC := Lib.hid (fun W => compare_c x.name y.name W)
  unfold cfF
  generalize Lib.compareBytes x.name.data.toList y.name.data.toList = r at HC ⊢
  go_enter Tryz.func26, Tryz.ntmps26
  go_wp2_with (go_at_call 27; ((with_reducible refine (HC.out _).mono ?_); rintro e w' ⟨rfl, rfl⟩))
  go_ret
  exact ⟨rfl, 0, _, by rw [Sort.alloc_eq_grow, Sort.alloc_eq_grow, Sort.grow_grow]; rfl⟩
theorem sort14 (V : World) (B g cap c2 : Nat) (x : Fle) (d : Array Fle) (hV : V.ownsRow B 24 3 (.slice (some ⟨g, 0, none⟩) (d.size + 1) cap) (d.size + 1) (rowC encF (x :: d.toList))) (hs : d.size < 4611686018427387904) (hB : B ≤ V.heap.size) :
    Calls Tryz.prog 25 #[.slice (some ⟨g, 3, none⟩) d.size c2, .func (.func 26) #[] #[]] V fun e w' => e = .returned (.tuple #[]) ∧ ∃ d', Sort.PermIn 0 d.size d d' ∧ Sort.SortedIn (ltOf cfF) 0 d.size d' ∧ w'.ownsRow B 24 3 (.slice (some ⟨g, 0, none⟩) (d.size + 1) cap) (d.size + 1) (rowC encF (x :: d'.toList)) ∧ Below B V w' ∧ ∀ k, k < V.heap.size → k ≠ g → w'.heap[k]? = V.heap[k]? := by
  have eg : ∀ args w, (callFunc 26 args).run Tryz.prog w = .ok (.enter 26 args) w := enters_of Tryz.func26 (by kernel_rfl) rfl
  have hl := hV.lt g rfl
  have hcon := AnyQ.slices_SortFunc Tryz.sortFile 3 Tryz.isAgg24 Tryz.sizeOf24 encF (fun _ => rfl) encF_one cfF swoF 26 #[] g 3 c2 d V eg (fun _ _ _ _ x y => order1_c x y _) (own_holdsF hV) hl.2 hs
  change Calls Tryz.prog 25 _ _ _ at hcon
  refine hcon.mono ?_
  rintro e w' ⟨rfl, d', m, os, hp, hs', rfl⟩
  exact ⟨rfl, d', hp, hs', sort_ownF hp.1 hV, sort_belowF (Below.refl _ _) hl.1 hB, fun k hk hne => by rw [sort_heapF V g m d' os k hk, if_neg (fun e => hne e.symm)]⟩
theorem sort14_none (V : World) (p : Option Addr) (c2 : Nat) : Calls Tryz.prog 25 #[.slice p 0 c2, .func (.func 26) #[] #[]] V fun e w' => e = .returned (.tuple #[]) ∧ V = w' := by
  have hcon := AnyF.slices_SortFunc_none Tryz.sortFile p c2 (.func (.func 26) #[] #[]) V
  change Calls Tryz.prog 25 _ _ _ at hcon
  exact hcon.mono fun e w' h => ⟨h.1, h.2.symm⟩
/-! ### what is sorted is the chapter's order -/
theorem apart_perm {S E : List Fle} (hp : (S.map Fle.fil).Perm (E.map Fle.fil)) (h : Apart14 E) : Apart14 S := by
  have key : ∀ l : List Fle, Apart14 l ↔ (l.map Fle.fil).Pairwise fun a b => a.1.toList ≠ b.1.toList := fun l => by rw [List.pairwise_map]; exact Iff.rfl
  rw [key] at h ⊢
  exact (hp.pairwise_iff fun {a b} hab => Ne.symm hab).2 h
theorem sorted_pair {d' : Array Fle} {n : Nat} (hs : Sort.SortedIn (ltOf cfF) 0 n d') (hn : d'.size = n) (ha : Apart14 d'.toList) : d'.toList.Pairwise fun a b => ltN a.name b.name = true := by
  rw [List.pairwise_iff_getElem]
  intro i j hi hj hij
  have h1 := hs i j (Nat.zero_le _) hij (by rw [← hn]; simpa using hj)
  rw [lt_cf, getElem!_pos d' i (by simpa using hi), getElem!_pos d' j (by simpa using hj)] at h1
  have h2 := List.pairwise_iff_getElem.1 ha i j hi hj hij
  rw [Array.getElem_toList, Array.getElem_toList] at h2 ⊢
  exact ltN_total h1 (fun e => h2 e.symm)
theorem perm_list {d d' : Array Fle} (h : Sort.PermIn 0 d.size d d') : d'.toList.Perm d.toList := by
  obtain ⟨p1, _, p3⟩ := h
  have e1 : d'.extract 0 d.size = d' := by rw [← p1]; simp
  have e2 : d.extract 0 d.size = d := by simp
  rwa [e1, e2] at p3
/-- What was collected, sorted, is the chapter's order. -/
theorem order_of {m mm : Fle} {D T F : List Fle} {d' : Array Fle} (hE : ordE D = 0) (hm : mm.fil = m.fil) (hT : T.map Fle.fil = F.map Fle.fil) (hF : F.Perm (effL D D.length)) (hp : Sort.PermIn 0 T.toArray.size T.toArray d') (hs : Sort.SortedIn (ltOf cfF) 0 T.toArray.size d') :
    (mm :: d'.toList).map Fle.fil = (ordL m D).map Fle.fil := by
  have hE2 := eff_names (D := D) D.length (Nat.le_refl _)
  have hq : (d'.toList.map Fle.fil).Perm ((effL D D.length).map Fle.fil) := by
    have h1 : d'.toList.Perm T := perm_list hp
    exact (h1.map _).trans (by rw [hT]; exact hF.map _)
  unfold ordL
  rw [if_pos hE, ordF_is, List.map_cons, List.map_cons, hm, sorted_eff hE2 hq (sorted_pair hs hp.1 (apart_perm hq hE2))]
theorem order_of0 {m mm : Fle} {D T F : List Fle} (hE : ordE D = 0) (hm : mm.fil = m.fil) (hT : T.map Fle.fil = F.map Fle.fil) (hF : F.Perm (effL D D.length)) (h0 : T = []) :
    (mm :: T).map Fle.fil = (ordL m D).map Fle.fil := by
  subst h0
  have := order_of (d' := #[]) hE hm hT hF ⟨rfl, fun _ _ => rfl, List.Perm.refl _⟩ (fun i j _ h1 h2 => absurd h2 (by simp))
  exact this
/-! ### rows beside a map and its iterator -/
theorem ranges_on {P : Program} {W W' : World} {k : TypeId} {b r n : Nat} {D : DataW Value} {left : Lit → Bool} {cnt : Nat} (h : W.ranges P k RV b r n D left cnt) (hb : Below W.heap.size W W') : W'.ranges P k RV b r n D left cnt := by
  have h1 := h.owns.lt
  have h2 := h.lt
  obtain ⟨es, clock, since, seen, c0, hm, F, hs, hD, hr, rest⟩ := h
  exact ⟨es, clock, since, seen, c0, (hb.block b h1).trans hm, F, hs, hD, (hb.block r h2).trans hr, rest⟩
theorem row_not {W : World} {B n s x : Nat} {e : TypeId} {v : Value} {xs : List Value} (h : W.ownsRow B e s v n xs) (hx : ∀ cur t fr, W.heap[x]? ≠ some (.cells cur t fr)) : some x ≠ v.ownBlock := by
  rcases h.2 with ⟨rfl, _⟩ | ⟨g, cap, cur, rfl, _, hh, _⟩
  · intro e; cases e
  · intro eq
    have e1 : x = g := Option.some.inj eq
    subst e1
    exact hx _ _ _ hh
theorem row_iter {P : Program} {W : World} {k : TypeId} {b r n : Nat} {D : DataW Value} {left : Lit → Bool} {cnt B s m : Nat} {e : TypeId} {v : Value} {xs : List Value} (h : W.ranges P k RV b r n D left cnt) (ho : W.ownsRow B e s v m xs) : some b ≠ v.ownBlock ∧ some r ≠ v.ownBlock := by
  obtain ⟨es, clock, since, seen, c0, hm, F, hs, hD, hr, rest⟩ := h
  exact ⟨row_not ho (fun _ _ _ e => by rw [hm] at e; cases e), row_not ho (fun _ _ _ e => by rw [hr] at e; cases e)⟩
theorem NewF.iter {P : Program} {W W' : World} {k : TypeId} {b r n : Nat} {D : DataW Value} {left : Lit → Bool} {cnt B : Nat} {v : Value} {L : List Fle} (h : NewF B W v L) (hr : W.ranges P k RV b r n D left cnt) (hg : W.grownBy W' (some r)) : NewF B W' v L :=
  ⟨h.own.kept hg (.inr fun e => (row_iter hr h.own).2 e.symm), fun f hf => ⟨(h.each f hf).1, (h.each f hf).2.kept hg (.inr fun e => (row_iter hr (h.each f hf).2).2 e.symm)⟩⟩
theorem own_apart14 {V V' : World} {B n s g : Nat} {e e2 : TypeId} {v : Value} {xs : List Value} {cur : Array Value} {fr : Nat × Nat} (h : V.ownsRow B e s v n xs) (hg : V.heap[g]? = some (.cells cur e2 fr)) (hne : e ≠ e2) (hk : ∀ k, k < V.heap.size → k ≠ g → V'.heap[k]? = V.heap[k]?) : V'.ownsRow B e s v n xs :=
  ⟨h.1, h.2.imp id fun ⟨g1, cap, c1, hv, h1, hh, r⟩ => ⟨g1, cap, c1, hv, h1, (hk g1 (Array.getElem?_eq_some_iff.1 hh).1 (fun e1 => by
    rw [e1, hg] at hh
    injection hh with hh
    injection hh with _ hh _
    exact hne hh.symm)).trans hh, r⟩⟩
/-- A step of a loop over the map: nothing is left, or one of those that count comes. -/
theorem next14 {w : World} {ops : Array Oper} {rest : List Oper} {o : Oper} {a : Act} {Q : Exit → Act → World → Prop} (hg : o.guard = none) (it : Operand) (hop : o.op = Op.next it false) (bm r n : Nat) {M : DataW Value} {D : List Fle} {left : Lit → Bool} {cnt : Nat} (hM : MapK M D n) (hn : D.length = n)
    (hit : a.eval it = .pointer (some ⟨r, 0, none⟩)) (h : w.ranges Tryz.prog 9 RV bm r n M left cnt)
    (hDone : (∀ kl, left kl = false) → wpList Tryz.prog ops Q rest (a.put o.dst (.tuple #[.bool false])) w)
    (hMore : ∀ (key : Value) (fn : ByteArray) (fd : Int) (fp : Option Addr) (fl fc : Nat) (fb : List UInt8) (w' : World) (cnt' : Nat), (⟨fn, fd, fp, fl, fc, fb⟩ : Fle) ∈ effL D n → left (keyF ⟨fn, fd, fp, fl, fc, fb⟩) = true → w'.ranges Tryz.prog 9 RV bm r n M (fun z => left z && !z.sameKey (keyF ⟨fn, fd, fp, fl, fc, fb⟩)) cnt' → cnt' < cnt → w.grownBy w' (some r) → w'.heap.size = w.heap.size →
      (Instr.entry (.pointer (some ⟨r, 0, none⟩))).run Tryz.prog w' = .ok (.tuple #[key, .agg #[.string fn, .int .i64 fd, .slice fp fl fc]]) w' → wpList Tryz.prog ops Q rest (a.put o.dst (.tuple #[.bool true, key, .agg #[.string fn, .int .i64 fd, .slice fp fl fc]])) w') :
    wpList Tryz.prog ops Q (o :: rest) a w := by
  refine wpList_plain hg fun K' hK' => ?_
  unfold Oper.wp
  rcases h.next keyed14 o.type with ⟨_, hl, hrun⟩ | ⟨key, v, kl, y, w', cnt', hkey, hlk, hv, hat, hrun, hrg, hlt, hgr, hsz, hen⟩
  · simp [execOp, hop, hit, hrun, Result.andThen]
    exact hK' _ _ (hDone hl)
  · obtain ⟨i, hi, hm, he⟩ := hM.key kl (has_true_of_atKey hat)
    have hmem := mem_eff (D := D) (n := n) hi (by rw [hn]; exact hm)
    have e1 := (hat (.held undef)).symm.trans (he ▸ hM.at_ i hi hm (.held undef))
    have e2 := congrArg (fun q => q.1) (Option.some.inj hv)
    have e3 : DataW.held v = .held (aggF (D.getD i f0)) := (show DataW.held v = y.1 from e2).trans e1
    injection e3 with e3
    subst e3
    subst he
    generalize D.getD i f0 = f at hmem hlk hrg hrun hen
    obtain ⟨fn, fd, fp, fl, fc, fb⟩ := f
    simp [execOp, hop, hit, hrun, Result.andThen]
    exact hK' _ _ (hMore key fn fd fp fl fc fb w' cnt' hmem hlk hrg hlt hgr hsz hen)
end Go.Proofs.YtgigdhincpcdbaaGreatDoor
