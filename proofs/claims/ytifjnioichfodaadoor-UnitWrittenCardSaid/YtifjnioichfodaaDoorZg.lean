/- A region that draws its order, whose last operation but one stands behind all others, the last one behind it: the others yield one value each, whatever the order, in every world of a class; then the last one is run. No program. Condition: no guards. -/
import Derived.OrdersIn
namespace Go.Proofs.YtifjnioichfodaaDoor
open Go
set_option linter.unusedVariables false

theorem filter_less {p q : Nat → Bool} {i : Nat} (hp : p i = true) (hq : q i = false) : ∀ {l : List Nat}, l.Nodup → i ∈ l → (∀ j, j ≠ i → q j = p j) → (l.filter q).length + 1 = (l.filter p).length
  | [], _, h, _ => by cases h
  | x :: l, hn, h, he => by
    rw [List.nodup_cons] at hn
    by_cases hx : x = i
    · subst hx
      rw [List.filter_cons_of_pos hp, List.filter_cons_of_neg (by rw [hq]; simp), List.length_cons]
      rw [List.filter_congr (fun j hj => he j (fun e => hn.1 (e ▸ hj)))]
    · have hi : i ∈ l := (List.mem_cons.1 h).resolve_left (fun e => hx e.symm)
      have ih := filter_less hp hq hn.2 hi he
      cases hpx : p x with
      | true =>
        rw [List.filter_cons_of_pos hpx, List.filter_cons_of_pos (by rw [he x hx]; exact hpx), List.length_cons, List.length_cons, ih]
      | false =>
        rw [List.filter_cons_of_neg (p := q) (by rw [he x hx, hpx]; simp), List.filter_cons_of_neg (p := p) (by rw [hpx]; simp)]
        exact ih
theorem put_same {a : Act} {d : Nat} {v : Value} (h : d < a.tmps.size) : (a.put (some d) v).tmps.getD d undef = v := by
  simp [Act.put, Array.getD_eq_getD_getElem?, h]
theorem put_other {a : Act} {d s : Nat} {v : Value} (h : d ≠ s) : (a.put (some d) v).tmps.getD s undef = a.tmps.getD s undef := by
  simp [Act.put, Array.getD_eq_getD_getElem?, h]
theorem put_size {a : Act} {d : Nat} {v : Value} : (a.put (some d) v).tmps.size = a.tmps.size := by simp [Act.put]
/-- What is asked of the region's shape, by reckoning. -/
def lastB2 (ops : Array Oper) (last : Nat) (D : Nat → Nat) : Bool :=
  ops.size == last + 2 && ops.all (fun o => o.guard.isNone) &&
  ((ops[last + 1]?).map (fun o => o.after.any fun e => Region.binds .any e && e.on == last)).getD false &&
  ((List.range last).all fun i => (List.range (last + 1)).any fun j => decide (i < j) && ((ops[j]?).map (fun o => o.after.any fun e => Region.binds .any e && e.on == i)).getD false) &&
  ((List.range ops.size).all fun i => ((ops[i]?).map (fun o => o.dst == some (D i) && o.after.all fun e => !Region.binds .any e || decide (e.on < i))).getD false)
theorem region_last2 {F : Fence} {n : Nat} {P : Program} {id : Nat} {ops : Array Oper} {Q : Exit → Act → World → Prop} {a : Act} {w : World} (hm : P.follows .mixedOrders = true) (last : Nat) (D : Nat → Nat) (hB : lastB2 ops last D = true)
    (hD : ∀ i j, D i = D j → i = j) (hin : ∀ i, i ≤ last → D i < a.tmps.size) (vals : Nat → Value) (C : World → Prop) (hC : C { w with drawn := w.drawn + 1 })
    (hop : ∀ i o, i < last → ops[i]? = some o → ∀ a' w', C w' → (∀ s, (∀ j, j ≤ last → D j ≠ s) → a'.tmps.getD s undef = a.tmps.getD s undef) → (∀ e ∈ o.after, Region.binds .any e = true → a'.tmps.getD (D e.on) undef = vals e.on) → ∀ K : Act → World → Prop, (∀ w'', C w'' → K (a'.put o.dst (vals i)) w'') → o.wpIn F n P a' w' K Q)
    (hlast : ∀ o o2, ops[last]? = some o → ops[last + 1]? = some o2 → ∀ a' w', C w' → (∀ s, (∀ j, j ≤ last → D j ≠ s) → a'.tmps.getD s undef = a.tmps.getD s undef) → (∀ j, j < last → a'.tmps.getD (D j) undef = vals j) → a'.tmps.size = a.tmps.size → ∀ K : Act → World → Prop, (∀ a'' w'', (∀ K2 : Act → World → Prop, (∀ a3 w3, Q .normal a3 w3 → K2 a3 w3) → o2.wpIn F n P a'' w'' K2 Q) → K a'' w'') → o.wpIn F n P a' w' K Q) :
    (Code.region id ops true).wpIn F n P Q a w := by
  unfold lastB2 at hB
  rw [Bool.and_eq_true, Bool.and_eq_true, Bool.and_eq_true, Bool.and_eq_true, beq_iff_eq, Array.all_eq_true_iff_forall_mem, List.all_eq_true, List.all_eq_true] at hB
  obtain ⟨⟨⟨⟨hsz, hg⟩, hfin⟩, hcov⟩, hsh⟩ := hB
  have hof : ops[last + 1]? = some (ops[last + 1]'(by omega)) := Array.getElem?_eq_getElem _
  obtain ⟨o2, ho2⟩ : ∃ o2, o2 = ops[last + 1]'(by omega) := ⟨_, rfl⟩
  rw [← ho2] at hof
  rw [hof, Option.map_some, Option.getD_some, ← Array.any_toList, List.any_eq_true] at hfin
  obtain ⟨ef, hef, hef2⟩ := hfin
  replace hef := Array.mem_toList_iff.1 hef
  rw [Bool.and_eq_true, beq_iff_eq] at hef2
  clear ho2
  have hgn : ∀ {i : Nat} {o : Oper}, ops[i]? = some o → o.guard = none := fun {i o} ho => by
    have := hg o (Array.mem_of_getElem? ho)
    cases hx : o.guard with
    | none => rfl
    | some g => rw [hx] at this; cases this
  have hshape : ∀ {i : Nat} {o : Oper}, ops[i]? = some o → o.dst = some (D i) ∧ ∀ e ∈ o.after, Region.binds .any e = true → e.on < i := fun {i o} ho => by
    have hlt := (Array.getElem?_eq_some_iff.1 ho).1
    have := hsh i (List.mem_range.2 hlt)
    rw [ho, Option.map_some, Option.getD_some, Bool.and_eq_true, beq_iff_eq, Array.all_eq_true_iff_forall_mem] at this
    refine ⟨this.1, fun e he hb => ?_⟩
    have h := this.2 e he
    rw [hb] at h
    simpa using h
  refine wpIn_region_any hm ?_
  have key : ∀ (fuel : Nat) (listed : Array Bool) (a' : Act) (w' : World), listed.size = ops.size → listed.getD last true = false → listed.getD (last + 1) true = false → ((List.range ops.size).filter (fun j => !listed.getD j true)).length = fuel →
      (∀ i o, ops[i]? = some o → listed.getD i false = true → ∀ e ∈ o.after, Region.binds .any e = true → listed.getD e.on false = true) → C w' → (∀ s, (∀ j, j ≤ last → D j ≠ s) → a'.tmps.getD s undef = a.tmps.getD s undef) → a'.tmps.size = a.tmps.size →
      (∀ j, j ≤ last → listed.getD j false = true → a'.tmps.getD (D j) undef = vals j) → wpAnyIn F n P .any ops Q fuel listed a' w' := by
    have flip : ∀ {listed : Array Bool} {j : Nat}, listed.size = ops.size → j < ops.size → listed.getD j true = listed.getD j false := fun {listed j} hs hj => by
      have : j < listed.size := by omega
      simp [Array.getD_eq_getD_getElem?, Array.getElem?_eq_getElem this]
    intro fuel
    induction fuel with
    | zero =>
      intro listed a' w' hs hl hl2 hf
      have : last ∈ (List.range ops.size).filter (fun j => !listed.getD j true) := List.mem_filter.2 ⟨List.mem_range.2 (by omega), by rw [hl]; rfl⟩
      rw [List.length_eq_zero_iff.1 hf] at this
      cases this
    | succ fuel ih =>
      intro listed a' w' hs hl hl2 hf hc hw hfr hsize hv
      refine ⟨fun h0 => ?_, fun i hi => ?_⟩
      · exfalso
        have least : ∀ i, i < ops.size → listed.getD i true = false → False := by
          intro i
          induction i using Nat.strongRecOn with
          | _ i ihi =>
            intro hlt hu
            have ho : ops[i]? = some ops[i] := Array.getElem?_eq_getElem hlt
            by_cases hall : ∀ e ∈ ops[i].after, Region.binds .any e = true → listed.getD e.on false = true
            · have : i ∈ Region.ready .any ops listed := mem_ready.2 ⟨hu, _, ho, hall⟩
              rw [h0] at this; cases this
            · refine hall fun e he hb => ?_
              have hei := (hshape ho).2 e he hb
              cases hle : listed.getD e.on false with
              | true => rfl
              | false => exact (ihi e.on hei (by omega) (by rw [flip hs (by omega)]; exact hle)).elim
        exact least last (by omega) hl
      · obtain ⟨hu, o, ho, hall⟩ := mem_ready.1 hi
        have hlt := (Array.getElem?_eq_some_iff.1 ho).1
        refine wpOpIn_step ho fun K' hK' => ?_
        rw [if_pos (by unfold Region.wanted; rw [hgn ho])]
        by_cases hil : i = last
        · subst hil
          have hdone : ∀ d j, i - j = d → j < i → listed.getD j false = true := by
            intro d
            induction d using Nat.strongRecOn with
            | _ d ihd =>
              intro j hd hj
              have := hcov j (List.mem_range.2 hj)
              rw [List.any_eq_true] at this
              obtain ⟨k, hk, hk2⟩ := this
              have hkt := List.mem_range.1 hk
              have hkl : k < ops.size := by omega
              rw [Bool.and_eq_true, decide_eq_true_eq] at hk2
              have hok : ops[k]? = some ops[k] := Array.getElem?_eq_getElem hkl
              rw [hok, Option.map_some, Option.getD_some, ← Array.any_toList, List.any_eq_true] at hk2
              obtain ⟨hjk, e, he, hbe⟩ := hk2
              replace he := Array.mem_toList_iff.1 he
              rw [Bool.and_eq_true, beq_iff_eq] at hbe
              by_cases hki : k = i
              · subst hki
                rw [hok] at ho
                injection ho with ho
                rw [← hbe.2]
                exact hall e (ho ▸ he) hbe.1
              · have := ihd (i - k) (by omega) k rfl (by omega)
                rw [← hbe.2]
                exact hc k _ hok this e he hbe.1
          refine hlast o o2 ho hof a' w' hw hfr (fun j hj => hv j (by omega) (hdone _ j rfl hj)) hsize K' fun a'' w'' hq => hK' a'' w'' ?_
          have hl3 : (listed.setIfInBounds i true).getD (i + 1) true = false := by rw [getD_set_ne true (by omega)]; exact hl2
          have hall2 : ∀ j, j < i + 1 → (listed.setIfInBounds i true).getD j false = true := fun j hj => by
            by_cases hji : j = i
            · subst hji
              have : j < listed.size := by omega
              simp [Array.getD_eq_getD_getElem?, this]
            · exact getD_set_true (hdone _ j rfl (by omega))
          have hs2 : (listed.setIfInBounds i true).size = ops.size := by rw [Array.size_setIfInBounds]; exact hs
          obtain ⟨L, hL⟩ : ∃ L, L = listed.setIfInBounds i true := ⟨_, rfl⟩
          have hcount := filter_less (p := fun j => !listed.getD j true) (q := fun j => !L.getD j true) (i := i) (by simp only [hu]; rfl)
              (by
                have : i < listed.size := by omega
                simp [hL, Array.getD_eq_getD_getElem?, this]) (List.nodup_range (n := ops.size)) (List.mem_range.2 hlt) (fun j hj => by simp only [hL, getD_set_ne true (Ne.symm hj)])
          rw [← hL] at hl3 hall2 hs2 ⊢
          have hready : i + 1 ∈ Region.ready .any ops L := mem_ready.2 ⟨hl3, _, hof, fun e he hb => hall2 e.on ((hshape hof).2 e he hb)⟩
          have honly : ∀ j, j ∈ Region.ready .any ops L → j = i + 1 := fun j hj => by
            obtain ⟨h1, o3, ho3, _⟩ := mem_ready.1 hj
            have hjl := (Array.getElem?_eq_some_iff.1 ho3).1
            by_cases hji : j < i + 1
            · rw [flip hs2 hjl, hall2 j hji] at h1
              cases h1
            · omega
          cases fuel with
          | zero =>
            have : i + 1 ∈ (List.range ops.size).filter (fun j => !L.getD j true) := List.mem_filter.2 ⟨List.mem_range.2 (by omega), by rw [hl3]; rfl⟩
            rw [List.length_eq_zero_iff.1 (by omega : ((List.range ops.size).filter (fun j => !L.getD j true)).length = 0)] at this
            cases this
          | succ fuel =>
            refine ⟨fun h0 => ?_, fun j hj => ?_⟩
            · exfalso; rw [h0] at hready; cases hready
            · obtain rfl := honly j hj
              refine wpOpIn_step hof fun K2 hK2 => ?_
              rw [if_pos (by unfold Region.wanted; rw [hgn hof])]
              refine hq K2 fun a3 w3 h3 => hK2 a3 w3 (wpAnyIn_done ?_ h3 fuel)
              rw [List.eq_nil_iff_forall_not_mem]
              intro k hk
              obtain ⟨h1, o4, ho4, _⟩ := mem_ready.1 hk
              have hkl := (Array.getElem?_eq_some_iff.1 ho4).1
              by_cases hke : k = i + 1
              · subst hke
                have : i + 1 < L.size := by omega
                simp [Array.getD_eq_getD_getElem?, this] at h1
              · rw [getD_set_ne true (Ne.symm hke), flip hs2 hkl, hall2 k (by omega)] at h1
                cases h1
        · have hlt2 : i < last := by
            rcases Nat.lt_or_ge i last with h | h
            · exact h
            · exfalso
              obtain rfl : i = last + 1 := by omega
              rw [hof] at ho
              injection ho with ho
              have := hall ef (ho ▸ hef) hef2.1
              rw [hef2.2, ← flip hs (by omega), hl] at this
              cases this
          refine hop i o hlt2 ho a' w' hw hfr (fun e he hb => hv e.on (by have := (hshape ho).2 e he hb; omega) (hall e he hb)) K' fun w'' hw'' => hK' _ _ ?_
          rw [(hshape ho).1]
          refine ih _ _ _ (by rw [Array.size_setIfInBounds]; exact hs) (by rw [getD_set_ne true hil]; exact hl) (by rw [getD_set_ne true (by omega)]; exact hl2) ?_ ?_ hw'' ?_ (by rw [put_size]; exact hsize) ?_
          · have := filter_less (p := fun j => !listed.getD j true) (q := fun j => !(listed.setIfInBounds i true).getD j true) (i := i) (by simp only [hu]; rfl)
              (by
                have : i < listed.size := by omega
                simp [Array.getD_eq_getD_getElem?, this]) (List.nodup_range (n := ops.size)) (List.mem_range.2 hlt) (fun j hj => by simp only [getD_set_ne true (Ne.symm hj)])
            omega
          · intro k ok hok hk e he hb
            by_cases hki : k = i
            · subst hki
              rw [hok] at ho
              injection ho with ho
              exact getD_set_true (hall e (ho ▸ he) hb)
            · rw [getD_set_ne false (Ne.symm hki)] at hk
              exact getD_set_true (hc k ok hok hk e he hb)
          · intro s h
            rw [put_other (h i (by omega))]
            exact hfr s h
          · intro j hj hjl
            by_cases hji : j = i
            · subst hji
              exact put_same (by rw [hsize]; exact hin j hj)
            · rw [put_other (fun e => hji (hD _ _ e).symm)]
              rw [getD_set_ne false (Ne.symm hji)] at hjl
              exact hv j hj hjl
  refine key _ _ a _ (by simp) ?_ ?_ ?_ ?_ hC (fun _ _ => rfl) rfl ?_
  · have : last < ops.size := by omega
    simp [Array.getD_eq_getD_getElem?, this]
  · have : last + 1 < ops.size := by omega
    simp [Array.getD_eq_getD_getElem?, this]
  · rw [List.filter_eq_self.2 (fun j hj => by have := List.mem_range.1 hj; simp [Array.getD_eq_getD_getElem?, this]), List.length_range]
  · intro i o ho h
    have : i < ops.size := (Array.getElem?_eq_some_iff.1 ho).1
    simp [Array.getD_eq_getD_getElem?, this] at h
  · intro j hj h
    have : j < ops.size := by omega
    simp [Array.getD_eq_getD_getElem?, this] at h
end Go.Proofs.YtifjnioichfodaaDoor
