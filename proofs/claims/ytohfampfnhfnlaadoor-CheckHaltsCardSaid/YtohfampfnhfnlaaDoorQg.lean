/- A region that draws its order, whose last operation stands behind all others: the others yield one value each, whatever the order, in every world of a class; then the last one is run. No program. Condition: no guards. The cells that are certain, reckoned place by place as the landed Sure does it; the small calls of Sure. Condition: a program. -/
import Derived.OrdersIn
import Derived.Test.YtohfampfnhfnlaaDoorQe
import Derived.Laws.BitsAllLaws
namespace Go.Proofs.YtohfampfnhfnlaaDoor
open Go
set_option linter.unusedVariables false

theorem filter_less {p q : Nat → Bool} {i : Nat} (hp : p i = true) (hq : q i = false) : ∀ {l : List Nat}, l.Nodup → i ∈ l → (∀ j, j ≠ i → q j = p j) → (l.filter q).length + 1 = (l.filter p).length
  | [], _, h, _ => by cases h
  | x :: l, hn, h, he => by
    rw [List.nodup_cons] at hn
    by_cases hx : x = i
    · subst hx
      rw [List.filter_cons_of_pos hp, List.filter_cons_of_neg (by rw [hq]; simp), List.length_cons]
      rw [List.filter_congr (fun j hj => he j (fun e => hn.1 (e ▸ hj)))]
    · have hi : i ∈ l := (List.mem_cons.1 h).resolve_left (fun e => hx e.symm)
      have ih := filter_less hp hq hn.2 hi he
      cases hpx : p x with
      | true =>
        rw [List.filter_cons_of_pos hpx, List.filter_cons_of_pos (by rw [he x hx]; exact hpx), List.length_cons, List.length_cons, ih]
      | false =>
        rw [List.filter_cons_of_neg (p := q) (by rw [he x hx, hpx]; simp), List.filter_cons_of_neg (p := p) (by rw [hpx]; simp)]
        exact ih
theorem put_same {a : Act} {d : Nat} {v : Value} (h : d < a.tmps.size) : (a.put (some d) v).tmps.getD d undef = v := by
  simp [Act.put, Array.getD_eq_getD_getElem?, h]
theorem put_other {a : Act} {d s : Nat} {v : Value} (h : d ≠ s) : (a.put (some d) v).tmps.getD s undef = a.tmps.getD s undef := by
  simp [Act.put, Array.getD_eq_getD_getElem?, h]
theorem put_size {a : Act} {d : Nat} {v : Value} : (a.put (some d) v).tmps.size = a.tmps.size := by simp [Act.put]
/-- What is asked of the region's shape, by reckoning. -/
def lastB (ops : Array Oper) (last : Nat) (D : Nat → Nat) : Bool :=
  ops.size == last + 1 && ops.all (fun o => o.guard.isNone) &&
  ((List.range last).all fun i => (List.range ops.size).any fun j => decide (i < j) && ((ops[j]?).map (fun o => o.after.any fun e => Region.binds .any e && e.on == i)).getD false) &&
  ((List.range ops.size).all fun i => ((ops[i]?).map (fun o => o.dst == some (D i) && o.after.all fun e => !Region.binds .any e || decide (e.on < i))).getD false)
theorem region_last {F : Fence} {n : Nat} {P : Program} {id : Nat} {ops : Array Oper} {Q : Exit → Act → World → Prop} {a : Act} {w : World} (hm : P.follows .mixedOrders = true) (last : Nat) (D : Nat → Nat) (hB : lastB ops last D = true)
    (hD : ∀ i j, D i = D j → i = j) (hin : ∀ i, i ≤ last → D i < a.tmps.size) (vals : Nat → Value) (C : World → Prop) (hC : C { w with drawn := w.drawn + 1 })
    (hop : ∀ i o, i < last → ops[i]? = some o → ∀ a' w', C w' → (∀ s, (∀ j, j ≤ last → D j ≠ s) → a'.tmps.getD s undef = a.tmps.getD s undef) → (∀ e ∈ o.after, Region.binds .any e = true → a'.tmps.getD (D e.on) undef = vals e.on) → ∀ K : Act → World → Prop, (∀ w'', C w'' → K (a'.put o.dst (vals i)) w'') → o.wpIn F n P a' w' K Q)
    (hlast : ∀ o, ops[last]? = some o → ∀ a' w', C w' → (∀ s, (∀ j, j ≤ last → D j ≠ s) → a'.tmps.getD s undef = a.tmps.getD s undef) → (∀ j, j < last → a'.tmps.getD (D j) undef = vals j) → ∀ K : Act → World → Prop, (∀ a'' w'', Q .normal a'' w'' → K a'' w'') → o.wpIn F n P a' w' K Q) :
    (Code.region id ops true).wpIn F n P Q a w := by
  unfold lastB at hB
  rw [Bool.and_eq_true, Bool.and_eq_true, Bool.and_eq_true, beq_iff_eq, Array.all_eq_true_iff_forall_mem, List.all_eq_true, List.all_eq_true] at hB
  obtain ⟨⟨⟨hsz, hg⟩, hcov⟩, hsh⟩ := hB
  have hgn : ∀ {i : Nat} {o : Oper}, ops[i]? = some o → o.guard = none := fun {i o} ho => by
    have := hg o (Array.mem_of_getElem? ho)
    cases hx : o.guard with
    | none => rfl
    | some g => rw [hx] at this; cases this
  have hshape : ∀ {i : Nat} {o : Oper}, ops[i]? = some o → o.dst = some (D i) ∧ ∀ e ∈ o.after, Region.binds .any e = true → e.on < i := fun {i o} ho => by
    have hlt := (Array.getElem?_eq_some_iff.1 ho).1
    have := hsh i (List.mem_range.2 hlt)
    rw [ho, Option.map_some, Option.getD_some, Bool.and_eq_true, beq_iff_eq, Array.all_eq_true_iff_forall_mem] at this
    refine ⟨this.1, fun e he hb => ?_⟩
    have h := this.2 e he
    rw [hb] at h
    simpa using h
  refine wpIn_region_any hm ?_
  have key : ∀ (fuel : Nat) (listed : Array Bool) (a' : Act) (w' : World), listed.size = ops.size → listed.getD last true = false → ((List.range ops.size).filter (fun j => !listed.getD j true)).length = fuel →
      (∀ i o, ops[i]? = some o → listed.getD i false = true → ∀ e ∈ o.after, Region.binds .any e = true → listed.getD e.on false = true) → C w' → (∀ s, (∀ j, j ≤ last → D j ≠ s) → a'.tmps.getD s undef = a.tmps.getD s undef) → a'.tmps.size = a.tmps.size →
      (∀ j, j ≤ last → listed.getD j false = true → a'.tmps.getD (D j) undef = vals j) → wpAnyIn F n P .any ops Q fuel listed a' w' := by
    have flip : ∀ {listed : Array Bool} {j : Nat}, listed.size = ops.size → j < ops.size → listed.getD j true = listed.getD j false := fun {listed j} hs hj => by
      have : j < listed.size := by omega
      simp [Array.getD_eq_getD_getElem?, Array.getElem?_eq_getElem this]
    intro fuel
    induction fuel with
    | zero =>
      intro listed a' w' hs hl hf
      have : last ∈ (List.range ops.size).filter (fun j => !listed.getD j true) := List.mem_filter.2 ⟨List.mem_range.2 (by omega), by rw [hl]; rfl⟩
      rw [List.length_eq_zero_iff.1 hf] at this
      cases this
    | succ fuel ih =>
      intro listed a' w' hs hl hf hc hw hfr hsize hv
      refine ⟨fun h0 => ?_, fun i hi => ?_⟩
      · exfalso
        have least : ∀ i, i < ops.size → listed.getD i true = false → False := by
          intro i
          induction i using Nat.strongRecOn with
          | _ i ihi =>
            intro hlt hu
            have ho : ops[i]? = some ops[i] := Array.getElem?_eq_getElem hlt
            by_cases hall : ∀ e ∈ ops[i].after, Region.binds .any e = true → listed.getD e.on false = true
            · have : i ∈ Region.ready .any ops listed := mem_ready.2 ⟨hu, _, ho, hall⟩
              rw [h0] at this; cases this
            · refine hall fun e he hb => ?_
              have hei := (hshape ho).2 e he hb
              cases hle : listed.getD e.on false with
              | true => rfl
              | false => exact (ihi e.on hei (by omega) (by rw [flip hs (by omega)]; exact hle)).elim
        exact least last (by omega) hl
      · obtain ⟨hu, o, ho, hall⟩ := mem_ready.1 hi
        have hlt := (Array.getElem?_eq_some_iff.1 ho).1
        refine wpOpIn_step ho fun K' hK' => ?_
        rw [if_pos (by unfold Region.wanted; rw [hgn ho])]
        by_cases hil : i = last
        · subst hil
          have hdone : ∀ d j, i - j = d → j < i → listed.getD j false = true := by
            intro d
            induction d using Nat.strongRecOn with
            | _ d ihd =>
              intro j hd hj
              have := hcov j (List.mem_range.2 hj)
              rw [List.any_eq_true] at this
              obtain ⟨k, hk, hk2⟩ := this
              have hkl := List.mem_range.1 hk
              rw [Bool.and_eq_true, decide_eq_true_eq] at hk2
              have hok : ops[k]? = some ops[k] := Array.getElem?_eq_getElem hkl
              rw [hok, Option.map_some, Option.getD_some, ← Array.any_toList, List.any_eq_true] at hk2
              obtain ⟨hjk, e, he, hbe⟩ := hk2
              replace he := Array.mem_toList_iff.1 he
              rw [Bool.and_eq_true, beq_iff_eq] at hbe
              by_cases hki : k = i
              · subst hki
                rw [hok] at ho
                injection ho with ho
                rw [← hbe.2]
                exact hall e (ho ▸ he) hbe.1
              · have := ihd (i - k) (by omega) k rfl (by omega)
                rw [← hbe.2]
                exact hc k _ hok this e he hbe.1
          refine hlast o ho a' w' hw hfr (fun j hj => hv j (by omega) (hdone _ j rfl hj)) K' fun a'' w'' hq => hK' a'' w'' (wpAnyIn_done ?_ hq fuel)
          rw [List.eq_nil_iff_forall_not_mem]
          intro j hj
          obtain ⟨h1, o2, ho2, _⟩ := mem_ready.1 hj
          have hjl := (Array.getElem?_eq_some_iff.1 ho2).1
          by_cases hji : j = i
          · subst hji
            have : j < listed.size := by omega
            simp [Array.getD_eq_getD_getElem?, this] at h1
          · rw [getD_set_ne true (Ne.symm hji), flip hs hjl, hdone _ j rfl (by omega)] at h1
            cases h1
        · have hlt2 : i < last := by omega
          refine hop i o hlt2 ho a' w' hw hfr (fun e he hb => hv e.on (by have := (hshape ho).2 e he hb; omega) (hall e he hb)) K' fun w'' hw'' => hK' _ _ ?_
          rw [(hshape ho).1]
          refine ih _ _ _ (by rw [Array.size_setIfInBounds]; exact hs) (by rw [getD_set_ne true hil]; exact hl) ?_ ?_ hw'' ?_ (by rw [put_size]; exact hsize) ?_
          · have := filter_less (p := fun j => !listed.getD j true) (q := fun j => !(listed.setIfInBounds i true).getD j true) (i := i) (by simp only [hu]; rfl)
              (by
                have : i < listed.size := by omega
                simp [Array.getD_eq_getD_getElem?, this]) (List.nodup_range (n := ops.size)) (List.mem_range.2 hlt) (fun j hj => by simp only [getD_set_ne true (Ne.symm hj)])
            omega
          · intro k ok hok hk e he hb
            by_cases hki : k = i
            · subst hki
              rw [hok] at ho
              injection ho with ho
              exact getD_set_true (hall e (ho ▸ he) hb)
            · rw [getD_set_ne false (Ne.symm hki)] at hk
              exact getD_set_true (hc k ok hok hk e he hb)
          · intro s h
            rw [put_other (h i (by omega))]
            exact hfr s h
          · intro j hj hjl
            by_cases hji : j = i
            · subst hji
              exact put_same (by rw [hsize]; exact hin j hj)
            · rw [put_other (fun e => hji (hD _ _ e).symm)]
              rw [getD_set_ne false (Ne.symm hji)] at hjl
              exact hv j hj hjl
  refine key _ _ a _ (by simp) ?_ ?_ ?_ hC (fun _ _ => rfl) rfl ?_
  · have : last < ops.size := by omega
    simp [Array.getD_eq_getD_getElem?, this]
  · rw [List.filter_eq_self.2 (fun j hj => by have := List.mem_range.1 hj; simp [Array.getD_eq_getD_getElem?, this]), List.length_range]
  · intro i o ho h
    have : i < ops.size := (Array.getElem?_eq_some_iff.1 ho).1
    simp [Array.getD_eq_getD_getElem?, this] at h
  · intro j hj h
    have : j < ops.size := by omega
    simp [Array.getD_eq_getD_getElem?, this] at h
end Go.Proofs.YtohfampfnhfnlaaDoor
namespace Go.Proofs.YtohfampfnhfnlaaDoor
open Go.RowKit Go.Shelf
set_option linter.unusedVariables false
attribute [local go_sem] Oper.semAt_some

/-- What the instruction at a place writes. -/
def wrN (p : List Ins) (i : Nat) : Nat := match p[i]? with | none => 0 | some x => writesN x
/-- The sets when the first i places have been gone through. -/
def sureRow (p : List Ins) : Nat → Nat → Nat
  | 0, j => if j = 0 then 0 else 65535
  | i + 1, j => if (nextL p i).contains j then sureRow p i j &&& (sureRow p i i ||| wrN p i) else sureRow p i j
theorem bitN_lt (k : Int) : bitN k < 65536 := by
  unfold bitN
  split
  · have : (2 : Nat) ^ k.toNat ≤ 2 ^ 15 := Nat.pow_le_pow_right (by decide) (by omega)
    omega
  · omega
theorem writesN_lt (i : Ins) : writesN i < 65536 := by
  unfold writesN
  split
  · exact bitN_lt _
  · omega
theorem readsN_lt (i : Ins) : readsN i < 65536 := by
  unfold readsN
  split
  · exact bitN_lt _
  · omega
theorem wrN_lt (p : List Ins) (i : Nat) : wrN p i < 65536 := by
  unfold wrN
  split
  · omega
  · exact writesN_lt _
theorem or_lt {a b : Nat} (ha : a < 65536) (hb : b < 65536) : a ||| b < 65536 := Nat.or_lt_two_pow (n := 16) ha hb
theorem and_lt {a b : Nat} (ha : a < 65536) : a &&& b < 65536 := Nat.lt_of_le_of_lt Nat.and_le_left ha
theorem sureRow_lt (p : List Ins) : ∀ i j, sureRow p i j < 65536
  | 0, j => by show (if j = 0 then 0 else 65535) < 65536; split <;> omega
  | i + 1, j => by
    show (if (nextL p i).contains j then sureRow p i j &&& (sureRow p i i ||| wrN p i) else sureRow p i j) < 65536
    split
    · exact and_lt (sureRow_lt p i j)
    · exact sureRow_lt p i j
theorem bitN_bit {k : Int} (hk : 0 ≤ k) {c : Nat} (hc : c < 16) : (bitN k).testBit c = (k == (c : Int)) := by
  obtain ⟨m, rfl⟩ := Int.eq_ofNat_of_zero_le hk
  unfold bitN
  by_cases h : (m : Int) < 16
  · rw [if_pos h, Int.toNat_natCast, Nat.testBit_two_pow]
    rw [Bool.eq_iff_iff, decide_eq_true_eq, beq_iff_eq]
    omega
  · rw [if_neg h, Nat.zero_testBit]
    rw [eq_comm, beq_eq_false_iff_ne]
    omega
theorem wrN_bit {p : List Ins} (hp : OkL p) {i c : Nat} (hc : c < 16) : (wrN p i).testBit c = writesB p c i := by
  unfold wrN writesB
  cases h : p[i]? with
  | none => exact Nat.zero_testBit _
  | some x =>
    have hlt := (List.getElem?_eq_some_iff.1 h).1
    have hx : x.Ok := by
      have := hp.get hlt
      rw [List.getElem?_eq_getElem hlt] at h
      injection h with h
      rw [← h]; exact this
    obtain ⟨_, _, _, _, _, _, k0, _⟩ := hx
    show (writesN x).testBit c = ((x.c == 2 || x.c == 3) && x.k == (c : Int))
    unfold writesN
    by_cases h2 : x.c = 2 ∨ x.c = 3
    · rw [if_pos h2, bitN_bit k0 hc]
      rcases h2 with h2 | h2 <;> rw [h2] <;> rfl
    · rw [if_neg h2, Nat.zero_testBit]
      rw [beq_eq_false_iff_ne.2 (fun e => h2 (Or.inl e)), beq_eq_false_iff_ne.2 (fun e => h2 (Or.inr e))]; rfl
theorem sureRow_bit {p : List Ins} (hp : OkL p) {c : Nat} (hc : c < 16) : ∀ i j, (sureRow p i j).testBit c = !mark (nextL p) (fun i => !writesB p c i) i j
  | 0, j => by
    show (if j = 0 then 0 else 65535).testBit c = !(j == 0)
    by_cases h : j = 0
    · rw [if_pos h, Nat.zero_testBit, h]; rfl
    · rw [if_neg h, beq_eq_false_iff_ne.2 h, show (65535 : Nat) = 2 ^ 16 - 1 from rfl, Nat.testBit_two_pow_sub_one, decide_eq_true hc]; rfl
  | i + 1, j => by
    show (if (nextL p i).contains j then sureRow p i j &&& (sureRow p i i ||| wrN p i) else sureRow p i j).testBit c = !(mark (nextL p) (fun i => !writesB p c i) i j || (mark (nextL p) (fun i => !writesB p c i) i i && !writesB p c i && (nextL p i).contains j))
    have h1 := sureRow_bit hp hc i j
    have h2 := sureRow_bit hp hc i i
    cases hcn : (nextL p i).contains j with
    | true =>
      rw [if_pos rfl, Nat.testBit_and, Nat.testBit_or, h1, h2, wrN_bit hp hc]
      cases mark (nextL p) (fun i => !writesB p c i) i j <;> cases mark (nextL p) (fun i => !writesB p c i) i i <;> cases writesB p c i <;> rfl
    | false =>
      rw [if_neg (by simp), h1]
      simp
theorem sureRow_done {p : List Ins} (hp : OkL p) (j : Nat) : sureRow p p.length j = sureN p j := by
  apply Nat.eq_of_testBit_eq
  intro c
  unfold sureN
  rw [sureTo_bit]
  by_cases hc : c < 16
  · rw [sureRow_bit hp hc, decide_eq_true hc, Bool.true_and]; rfl
  · rw [decide_eq_false hc, Bool.false_and]
    exact Nat.testBit_lt_two_pow (Nat.lt_of_lt_of_le (sureRow_lt p _ j) (Nat.pow_le_pow_right (n := 2) (i := 16) (by decide) (by omega)))
theorem lead_call (R b x n cap s v : Nat) (w : World) (hb : w.cell? ⟨b, 0, none⟩ = some (.slice (some ⟨R, 0, none⟩) n cap)) (hx : x < n) (hs : s < 65536) (hv : v < 65536) (hc : w.cell? ⟨R, x, none⟩ = some (.int .u16 (s : Nat))) (hf : w.frozen? ⟨R, x, none⟩ = false) :
    Calls Tryd.prog 53 #[.int .i64 x, .int .u16 v, .pointer (some ⟨b, 0, none⟩)] w fun e w' => e = .returned (.tuple #[]) ∧ w' = w.setCell ⟨R, x, none⟩ (.int .u16 ((s &&& v : Nat) : Int)) := by
  have x1 : (x : Int) < n := by omega
  have x0 : (0 : Int) ≤ x := by omega
  have ha := u16_and_nat s v hs hv
  obtain ⟨y, hy⟩ : ∃ y : Nat, y = s &&& v := ⟨_, rfl⟩
  rw [← hy] at ha ⊢
  clear hx hs hv hy
  go_enter Tryd.func53, Tryd.ntmps53
  go_wp2
  go_end0
  exact ⟨rfl, rfl⟩
theorem sure_long (a0 : Option Addr) (n cap : Nat) (w : World) (hn : (4096 : Int) < n) : Calls Tryd.prog 32 #[.slice a0 n cap] w fun e w' => e = .returned (.slice none 0 0) ∧ w = w' := by
  have HT := Lib.hid (fun W => tooLong_call a0 n cap W)
  rw [decide_eq_true hn] at HT
  clear hn
  go_enter Tryd.func32, Tryd.ntmps32
  go_wp2_with (go_at_call 52; ((with_reducible refine (HT.out _).mono ?_); rintro e w1 ⟨rfl, rfl⟩))
  go_ret
  exact ⟨rfl, rfl⟩
theorem boxed_turned {B' b : Nat} {t : TypeId} {v : Value} {V V' : World} {row : Option Nat} (hb : Boxed V b t v) (hg : V.grownBy V' row) (hr : ∀ r, row = some r → B' ≤ r ∧ ∃ o : Obj, V.heap[r]? = some o ∧ o.isCells = false) : Boxed V' b t v :=
  hb.kept hg fun e => by
    obtain ⟨_, o, ho2, hc⟩ := hr _ e.symm
    rw [show V.heap[b]? = _ from hb] at ho2; cases ho2; cases hc
theorem row_turned {B' B s n : Nat} {e : TypeId} {v : Value} {xs : List Value} {V V' : World} {row : Option Nat} (h : V.ownsRow B e s v n xs) (hg : V.grownBy V' row) (hr : ∀ r, row = some r → B' ≤ r ∧ ∃ o : Obj, V.heap[r]? = some o ∧ o.isCells = false) : V'.ownsRow B e s v n xs := by
  refine h.kept hg ?_
  rcases h.2 with ⟨rfl, _⟩ | ⟨g, cap, cur, rfl, _, hgb, _⟩
  · exact .inl rfl
  · refine .inr fun e => ?_
    obtain ⟨_, o, ho2, hc⟩ := hr g e.symm
    rw [hgb] at ho2; cases ho2; cases hc
/-- Between two rounds: the row, its box, the closure's box. -/
def SureI (w : World) (B B2 n : Nat) (f : Nat → Nat) (V : World) : Prop :=
  V.ownsRow w.heap.size 32 1 (.slice (some ⟨w.heap.size, 0, none⟩) n n) n (rowS n f) ∧ Boxed V B 83 (.slice (some ⟨w.heap.size, 0, none⟩) n n) ∧
  Boxed V B2 98 (.func (.func 53) #[] #[.pointer (some ⟨B, 0, none⟩)]) ∧ Below w.heap.size w V
theorem SureI.on {w V V' : World} {B B2 n : Nat} {f : Nat → Nat} (h : SureI w B B2 n f V) (b : Below V.heap.size V V') : SureI w B B2 n f V' :=
  ⟨own_on h.1 b, (b.block _ (Array.getElem?_eq_some_iff.1 h.2.1).1).trans h.2.1, (b.block _ (Array.getElem?_eq_some_iff.1 h.2.2.1).1).trans h.2.2.1, thn h.2.2.2 b⟩
theorem SureI.set_ {w V : World} {B B2 n x v : Nat} {f g : Nat → Nat} (h : SureI w B B2 n f V) (hB : w.heap.size < B) (hB2 : w.heap.size < B2) (hg : ∀ j, g j = if j = x then v else f j) : SureI w B B2 n g (V.setCell ⟨w.heap.size, x, none⟩ (.int .u16 (v : Nat))) := by
  refine ⟨?_, ?_, ?_, h.2.2.2.setCell (p := ⟨w.heap.size, x, none⟩) (Nat.le_refl _) _⟩
  · have o := (h.1.stored x (.int .u16 (v : Nat))).1
    rw [rowS_set] at o
    rw [rowS_congr (g := fun j => if j = x then v else f j) (fun j _ => hg j)]
    exact o
  · exact (heap_setCell_other V _ B _ (show B ≠ w.heap.size by omega)).trans h.2.1
  · exact (heap_setCell_other V _ B2 _ (show B2 ≠ w.heap.size by omega)).trans h.2.2.1
theorem sureI_own (w : World) (B B2 n B' : Nat) (f : Nat → Nat) (hB : w.heap.size ≤ B') : OwnFrom B' (fun (_ : Unit) V => SureI w B B2 n f V) := by
  rintro s V V' row ⟨h1, h2, h3, h4⟩ hg hr
  exact ⟨row_turned h1 hg hr, boxed_turned h2 hg hr, boxed_turned h3 hg hr, h4.grown hg h4.size fun k e => by have := (hr k e).1; omega⟩
theorem leadI_call {w V : World} {B B2 n x v : Nat} {f g : Nat → Nat} (hB : w.heap.size < B) (hB2 : w.heap.size < B2) (hx : x < n) (hf : f x < 65536) (hv : v < 65536) (h : SureI w B B2 n f V) (hg : ∀ j, g j = if j = x then f x &&& v else f j) :
    Calls Tryd.prog 53 #[.int .i64 x, .int .u16 v, .pointer (some ⟨B, 0, none⟩)] V fun e V' => e = .returned (.tuple #[]) ∧ SureI w B B2 n g V' ∧ V.grownBy V' (some w.heap.size) :=
  (lead_call w.heap.size B x n n (f x) v V h.2.1.cell hx hf hv ((h.1.cellAt x (by omega)).trans (rowS_get _ hx)) (h.1.frozenAt x)).mono fun e V' ⟨h1, h2⟩ => by
    subst h2
    exact ⟨h1, h.set_ hB hB2 hg, of_set V w.heap.size x _⟩
end Go.Proofs.YtohfampfnhfnlaaDoor
