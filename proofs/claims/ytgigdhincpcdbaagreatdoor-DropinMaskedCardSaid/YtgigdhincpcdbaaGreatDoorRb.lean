/- What a map of the drop-ins that count holds, key by key; what a loop over it has met. Plain lists and readings, no program. -/
import Derived.Test.YtgigdhincpcdbaaGreatDoorPi
import Derived.Maps.Ext
import Derived.Lib.Bytealg
import Derived.Shelf.SlSortCmp.Insertion
import Derived.Sort.Statements
namespace Go.Proofs.YtgigdhincpcdbaaGreatDoor
open Go.Maps
set_option linter.unusedVariables false

def keyF (f : Fle) : Lit := .string f.name.data.toList
def aggF (f : Fle) : Value := .agg #[.string f.name, .int .i64 f.dir, .slice f.ptr f.len f.cap]
/-- How an element of the map reads: as itself. -/
def RV (v : Value) : Option (DataW Value × List MemPlace) := some (.held v, [])
theorem key_name {a b : Fle} : keyF a = keyF b ↔ a.name.toList = b.name.toList := by
  unfold keyF
  rw [ByteArray.toList_eq, ByteArray.toList_eq]
  exact ⟨fun h => Lit.string.inj h, fun h => by rw [h]⟩
theorem mask_false {D : List Fle} {i n : Nat} : maskB D i n = false ↔ ∀ k, k < n → keyF (D.getD k f0) = keyF (D.getD i f0) → ¬ (D.getD k f0).dir < (D.getD i f0).dir ∧ ¬ ((D.getD k f0).dir = (D.getD i f0).dir ∧ k < i) := by
  constructor
  · intro h k hk hn
    have : ¬ overB (D.getD k f0) (D.getD i f0) k i = true := fun ho => by
      have := mask_iff.2 ⟨k, hk, ho⟩
      rw [h] at this; cases this
    rw [over_iff] at this
    refine ⟨fun h1 => this ⟨key_name.1 hn, .inl h1⟩, fun h1 => this ⟨key_name.1 hn, .inr h1⟩⟩
  · intro h
    cases e : maskB D i n with
    | false => rfl
    | true =>
      obtain ⟨k, hk, ho⟩ := mask_iff.1 e
      rw [over_iff] at ho
      obtain ⟨h1, h2⟩ := h k hk (key_name.2 ho.1)
      rcases ho.2 with h3 | h3
      · exact absurd h3 h1
      · exact absurd h3 h2
/-- What the map holds when so many have been looked at. -/
structure MapK (M : DataW Value) (D : List Fle) (k : Nat) : Prop where
  isMap : IsMap M
  at_ : ∀ i, i < k → maskB D i k = false → ∀ z, M.atKey (keyF (D.getD i f0)) z = .held (aggF (D.getD i f0))
  key : ∀ kl, has M kl = true → ∃ i, i < k ∧ maskB D i k = false ∧ kl = keyF (D.getD i f0)
  all : ∀ i, i < k → has M (keyF (D.getD i f0)) = true
theorem MapK.start (D : List Fle) : MapK (.map []) D 0 := ⟨isMap_empty, fun i hi => absurd hi (Nat.not_lt_zero _), fun kl h => (by cases h), fun i hi => absurd hi (Nat.not_lt_zero _)⟩
theorem MapK.put_all {M : DataW Value} {D : List Fle} {k : Nat} (h : MapK M D k) (hl : WideAt.IsKeyLit (keyF (D.getD k f0))) : ∀ i, i < k + 1 → has (M.put (keyF (D.getD k f0)) (.held (aggF (D.getD k f0)))) (keyF (D.getD i f0)) = true := fun i hi => by
  by_cases e : keyF (D.getD i f0) = keyF (D.getD k f0)
  · rw [e]; exact has_put_same h.isMap hl _
  · rw [has_put_other e]
    refine h.all i ?_
    by_cases e2 : i = k
    · exact absurd (by rw [e2]) e
    · omega
/-- A new one is put: whoever bears its name is greater. -/
theorem MapK.put {M : DataW Value} {D : List Fle} {k : Nat} (h : MapK M D k) (hl : WideAt.IsKeyLit (keyF (D.getD k f0))) (hgt : ∀ j, j < k → keyF (D.getD j f0) = keyF (D.getD k f0) → (D.getD k f0).dir < (D.getD j f0).dir) : MapK (M.put (keyF (D.getD k f0)) (.held (aggF (D.getD k f0)))) D (k + 1) := by
  refine ⟨h.isMap.put _ _, fun i hi hm z => ?_, fun kl hk => ?_, h.put_all hl⟩
  · by_cases e : i = k
    · subst e; exact atKey_put_same h.isMap hl _ _
    · have hne : keyF (D.getD i f0) ≠ keyF (D.getD k f0) := fun e2 => (mask_false.1 hm k (Nat.lt_succ_self _) e2.symm).1 (hgt i (by omega) e2)
      rw [atKey_put_other hne]
      exact h.at_ i (by omega) (mask_false.2 fun j hj => mask_false.1 hm j (by omega)) z
  · by_cases e : kl = keyF (D.getD k f0)
    · refine ⟨k, Nat.lt_succ_self _, mask_false.2 fun j hj hn => ?_, e⟩
      by_cases e2 : j = k
      · subst e2; exact ⟨by omega, by omega⟩
      · have := hgt j (by omega) hn
        exact ⟨by omega, by omega⟩
    · rw [has_put_other e] at hk
      obtain ⟨i, hi, hm, e3⟩ := h.key kl hk
      refine ⟨i, by omega, mask_false.2 fun j hj hn => ?_, e3⟩
      by_cases e2 : j = k
      · subst e2; exact absurd (e3.trans hn.symm) e
      · exact mask_false.1 hm j (by omega) hn
theorem MapK.put_new {M : DataW Value} {D : List Fle} {k : Nat} (h : MapK M D k) (hl : WideAt.IsKeyLit (keyF (D.getD k f0))) (hn : has M (keyF (D.getD k f0)) = false) : MapK (M.put (keyF (D.getD k f0)) (.held (aggF (D.getD k f0)))) D (k + 1) :=
  h.put hl fun j hj e => by have := h.all j hj; rw [e, hn] at this; cases this
/-- Whoever stands at the name. -/
theorem MapK.found {M : DataW Value} {D : List Fle} {k : Nat} (h : MapK M D k) (hn : has M (keyF (D.getD k f0)) = true) : ∃ i, i < k ∧ maskB D i k = false ∧ keyF (D.getD k f0) = keyF (D.getD i f0) ∧ ∀ z, M.atKey (keyF (D.getD k f0)) z = .held (aggF (D.getD i f0)) := by
  obtain ⟨i, hi, hm, e⟩ := h.key _ hn
  exact ⟨i, hi, hm, e, fun z => by rw [e]; exact h.at_ i hi hm z⟩
theorem MapK.put_less {M : DataW Value} {D : List Fle} {k i : Nat} (h : MapK M D k) (hl : WideAt.IsKeyLit (keyF (D.getD k f0))) (hi : i < k) (hm : maskB D i k = false) (e : keyF (D.getD k f0) = keyF (D.getD i f0)) (hd : (D.getD k f0).dir < (D.getD i f0).dir) : MapK (M.put (keyF (D.getD k f0)) (.held (aggF (D.getD k f0)))) D (k + 1) :=
  h.put hl fun j hj e2 => by have := (mask_false.1 hm j hj (e2.trans e)).1; omega
theorem MapK.stay {M : DataW Value} {D : List Fle} {k i : Nat} (h : MapK M D k) (hi : i < k) (hm : maskB D i k = false) (e : keyF (D.getD k f0) = keyF (D.getD i f0)) (hd : ¬ (D.getD k f0).dir < (D.getD i f0).dir) : MapK M D (k + 1) := by
  refine ⟨h.isMap, fun j hj hm2 z => ?_, fun kl hk => ?_, fun j hj => ?_⟩
  · by_cases e2 : j = k
    · subst e2
      have := mask_false.1 hm2 i (by omega) e.symm
      exact absurd hi (fun hi2 => by
        rcases Int.lt_trichotomy (D.getD i f0).dir (D.getD j f0).dir with h1 | h1 | h1
        · exact this.1 h1
        · exact this.2 ⟨h1, hi2⟩
        · exact hd h1)
    · exact h.at_ j (by omega) (mask_false.2 fun x hx => mask_false.1 hm2 x (by omega)) z
  · obtain ⟨j, hj, hm2, e3⟩ := h.key kl hk
    refine ⟨j, by omega, mask_false.2 fun x hx hn => ?_, e3⟩
    by_cases e2 : x = k
    · subst e2
      have := (mask_false.1 hm2 i hi (e.symm.trans hn)).1
      exact ⟨by omega, by omega⟩
    · exact mask_false.1 hm2 x (by omega) hn
  · by_cases e2 : j = k
    · subst e2; rw [e]; exact h.all i hi
    · exact h.all j (by omega)
theorem mem_eff {D : List Fle} : ∀ {n i : Nat}, i < n → maskB D i D.length = false → D.getD i f0 ∈ effL D n
  | n + 1, i, hi, hm => by
    unfold effL
    by_cases e : i = n
    · subst e
      rw [hm, if_neg Bool.false_ne_true]
      exact List.mem_append_right _ List.mem_cons_self
    · have := mem_eff (n := n) (show i < n by omega) hm
      split
      · exact this
      · exact List.mem_append_left _ this
theorem name_inj : ∀ {l : List Fle}, Apart14 l → ∀ {x y : Fle}, x ∈ l → y ∈ l → keyF x = keyF y → x = y
  | [], _, x, _, hx, _, _ => absurd hx List.not_mem_nil
  | a :: t, h, x, y, hx, hy, e => by
    obtain ⟨h1, h2⟩ := List.pairwise_cons.1 h
    rcases List.mem_cons.1 hx with g1 | g1
    · rcases List.mem_cons.1 hy with g2 | g2
      · rw [g1, g2]
      · rw [g1] at e; exact absurd (key_name.1 e) (h1 y g2)
    · rcases List.mem_cons.1 hy with g2 | g2
      · rw [g2] at e; exact absurd (key_name.1 e.symm) (h1 x g1)
      · exact name_inj h2 g1 g2 e
/-- Those that a loop over the map has met. -/
structure GotF (E : List Fle) (left : Lit → Bool) (F : List Fle) : Prop where
  mem : ∀ f, f ∈ F ↔ f ∈ E ∧ left (keyF f) = false
  ap : Apart14 F
theorem GotF.start {E : List Fle} {left : Lit → Bool} (h : ∀ f ∈ E, left (keyF f) = true) : GotF E left [] :=
  ⟨fun f => ⟨fun h => absurd h List.not_mem_nil, fun ⟨h1, h2⟩ => by rw [h f h1] at h2; cases h2⟩, List.Pairwise.nil⟩
theorem GotF.step {E F : List Fle} {left : Lit → Bool} {f : Fle} (h : GotF E left F) (hE : Apart14 E) (hf : f ∈ E) (hl : left (keyF f) = true) (hk : WideAt.IsKeyLit (keyF f)) : GotF E (fun x => left x && !x.sameKey (keyF f)) (F ++ [f]) := by
  refine ⟨fun g => ?_, List.pairwise_append.2 ⟨h.ap, List.pairwise_singleton _ _, fun a ha b hb e => ?_⟩⟩
  · rw [List.mem_append, List.mem_singleton]
    constructor
    · rintro (h1 | h1)
      · obtain ⟨h2, h3⟩ := (h.mem g).1 h1
        exact ⟨h2, by rw [h3]; rfl⟩
      · rw [h1]
        exact ⟨hf, by rw [WideAt.sameKey_self hk, Bool.not_true, Bool.and_false]⟩
    · rintro ⟨h1, h2⟩
      cases h3 : left (keyF g) with
      | false => exact .inl ((h.mem g).2 ⟨h1, h3⟩)
      | true =>
        rw [h3, Bool.true_and, Bool.not_eq_false'] at h2
        exact .inr (name_inj hE h1 hf (WideAt.sameKey_eq h2))
  · rw [List.mem_singleton.1 hb] at e
    have := ((h.mem a).1 ha).2
    rw [key_name.2 e, hl] at this
    cases this
theorem apart_nodup {l : List Fle} (h : Apart14 l) : l.Nodup := h.imp fun {a b} hab e => hab (by rw [e])
theorem GotF.perm {E F : List Fle} {left : Lit → Bool} (h : GotF E left F) (hE : Apart14 E) (hl : ∀ kl, left kl = false) : F.Perm E :=
  (List.perm_ext_iff_of_nodup (apart_nodup h.ap) (apart_nodup hE)).2 fun f => (h.mem f).trans ⟨fun h => h.1, fun h => ⟨h, hl _⟩⟩
theorem asc_unique {α : Type} {r : α → α → Prop} (has : ∀ x y, r x y → r y x → False) : ∀ {a b : List α}, a.Pairwise r → b.Pairwise r → a.Perm b → a = b
  | [], b, _, _, h => (List.Perm.nil_eq h)
  | x :: a, [], _, _, h => by have := h.length_eq; simp at this
  | x :: a, y :: b, ha, hb, h => by
    obtain ⟨a1, a2⟩ := List.pairwise_cons.1 ha
    obtain ⟨b1, b2⟩ := List.pairwise_cons.1 hb
    have hxy : x = y := by
      have hx := h.mem_iff.1 (List.mem_cons_self (a := x) (l := a))
      have hy := h.symm.mem_iff.1 (List.mem_cons_self (a := y) (l := b))
      rcases List.mem_cons.1 hx with e | e
      · exact e
      · rcases List.mem_cons.1 hy with e2 | e2
        · exact e2.symm
        · exact (has _ _ (b1 x e) (a1 y e2)).elim
    subst hxy
    rw [asc_unique has a2 b2 ((List.perm_cons x).1 h)]
/-- Sorted by name, each name once: what counts of them is what the chapter's order has. -/
theorem sorted_eff {E S : List Fle} (hE : Apart14 E) (hp : (S.map Fle.fil).Perm (E.map Fle.fil)) (hs : S.Pairwise fun a b => ltN a.name b.name = true) : S.map Fle.fil = (srtV E).reverse.map Fle.fil := by
  refine asc_unique (r := fun a b : ByteArray × Int × List UInt8 => ltN a.1 b.1 = true) (fun x y h1 h2 => ltN_asymm h1 h2) ?_ ?_ (hp.trans ?_)
  · rw [List.pairwise_map]; exact hs
  · rw [List.pairwise_map, List.pairwise_reverse]; exact srtV_desc hE
  · exact (((srtV E).reverse_perm).trans (srtV_perm E)).symm.map _
/-! ### the library's comparison of two names -/
theorem cmp_lt : ∀ (a b : List UInt8), Lib.compareBytes a b < 0 ↔ a < b
  | [], [] => ⟨fun h => absurd h (by decide), fun h => absurd h (List.lt_irrefl _)⟩
  | [], y :: b => ⟨fun _ => List.Lex.nil, fun _ => by show (-1 : Int) < 0; decide⟩
  | x :: a, [] => ⟨fun h => absurd (show (1 : Int) < 0 from h) (by decide), fun h => by cases h⟩
  | x :: a, y :: b => by
    have ih := cmp_lt a b
    rw [List.cons_lt_cons_iff]
    unfold Lib.compareBytes
    by_cases h1 : x < y
    · rw [if_pos h1]; exact ⟨fun _ => .inl h1, fun _ => by decide⟩
    · rw [if_neg h1]
      by_cases h2 : y < x
      · rw [if_pos h2]
        refine ⟨fun h => absurd h (by decide), ?_⟩
        rintro (h3 | ⟨h3, _⟩)
        · exact absurd h3 h1
        · subst h3; exact absurd h2 h1
      · rw [if_neg h2]
        have e : x = y := by
          rw [UInt8.lt_iff_toNat_lt] at h1 h2
          exact UInt8.toNat_inj.1 (by omega)
        rw [ih]
        exact ⟨fun h => .inr ⟨e, h⟩, fun h => h.elim (fun h3 => absurd h3 h1) (fun h3 => h3.2)⟩
def cfF (x y : Fle) : Int := Lib.compareBytes x.name.data.toList y.name.data.toList
theorem lt_cf (x y : Fle) : ltOf cfF x y = ltN x.name y.name := by
  rw [ltN_is]
  unfold ltOf cfF
  rw [ByteArray.toList_eq, ByteArray.toList_eq]
  exact decide_eq_decide.2 (cmp_lt _ _)
theorem swoF : Sort.SWO (ltOf cfF) where
  irrefl x := by rw [lt_cf]; exact ltN_irrefl _
  trans x y z h1 h2 := by rw [lt_cf] at *; exact ltN_trans h1 h2
  ntrans x y z h1 h2 := by
    rw [lt_cf, ltN_is] at *
    rw [decide_eq_false_iff_not] at *
    intro h3
    exact List.le_trans (show z.name.toList ≤ y.name.toList from h2) (show y.name.toList ≤ x.name.toList from h1) h3
end Go.Proofs.YtgigdhincpcdbaaGreatDoor
