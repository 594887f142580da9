/- Bytes as cells; bytes that came in; append of bytes, nil or not; the string of bytes. No condition. What holds of logical lines: numbers rise, are lines' numbers; texts are not empty, are trimmed, hold no byte 10. Plain lists, no program. -/
import Derived.Test.YtgigdhincpcdbaaGreatDoorRows
import Derived.Test.YtgigdhincpcdbaaGreatDoorCards
import Derived.Test.YtgigdhincpcdbaaGreatDoorTie
import Derived.SevenTiedAt
import Derived.Test.YtgigdhincpcdbaaGreatDoorWd
import Derived.Test.YtgigdhincpcdbaaGreatDoorZm
import Derived.Test.YtgigdhincpcdbaaGreatDoorLj
import Derived.Laws.BytesArg
import Derived.Laws.OwnMore
import Derived.Test.YtgigdhincpcdbaaGreatDoorLa
namespace Go.Proofs.YtgigdhincpcdbaaGreatDoor
open Go.RowKit
/-- Bytes as cells. -/
def bL (l : List UInt8) : List Value := l.map fun c => .int .u8 (c.toNat : Int)
theorem bL_length (l : List UInt8) : (bL l).length = l.length := List.length_map _
theorem bL_app (a b : List UInt8) : bL (a ++ b) = bL a ++ bL b := List.map_append
theorem bL_one (l : List UInt8) : ∀ u ∈ bL l, u.oneCell' = true := fun u hu => by
  obtain ⟨s, _, rfl⟩ := List.mem_map.1 hu; rfl
theorem bL_get {l : List UInt8} {k : Nat} (h : k < l.length) : (bL l)[k]? = some (.int .u8 (l[k].toNat : Int)) := by
  unfold bL; rw [List.getElem?_map, List.getElem?_eq_getElem h]; rfl
theorem u8_info12 : (Tryz.prog.info? 5).map (fun i => (i.zero, i.size, i.bytes)) = some (some (.int .u8 0), 1, 1) := by kernel_rfl
theorem byt_list {z : List Int} (h : Byt z) : ∃ l : List UInt8, z = l.map (fun c => (c.toNat : Int)) := by
  refine ⟨z.map fun x => UInt8.ofNat x.toNat, ?_⟩
  rw [List.map_map]
  conv => lhs; rw [← List.map_id z]
  exact List.map_congr_left fun x hx => by
    obtain ⟨h0, h1⟩ := h x hx
    have : ((UInt8.ofNat x.toNat).toNat : Int) = x := by rw [UInt8.toNat_ofNat']; omega
    exact this.symm
theorem rdb_of {w : World} {a : Option Addr} {len cap : Nat} {l : List UInt8} (h : IsBytes w a len cap (l.map (fun c => (c.toNat : Int)))) : l.length = len ∧ RdB w w.heap.size a l := by
  have hs := h.size
  rw [List.length_map] at hs
  refine ⟨hs, fun h0 => ?_⟩
  obtain ⟨b, o, e, hb, hc⟩ := h.rd (by rw [List.length_map]; exact h0)
  refine ⟨b, o, e, hb, fun i hi => ?_⟩
  rw [hc i (by rw [List.length_map]; exact hi), List.getD_eq_getElem?_getD, List.getElem?_map, List.getElem?_eq_getElem hi]; rfl
theorem rdb_own {w : World} {B n c : Nat} {q : Option Addr} {l : List UInt8} (h : w.ownsRow B 5 1 (.slice q n c) n (bL l)) : l.length = n ∧ RdB w w.heap.size q l ∧ n ≤ c ∧ c ≤ maxLen ∧ (q = none → c = 0) := by
  have hl : l.length = n := by have := h.1; rw [bL_length] at this; omega
  rcases h.2 with ⟨hv, h0⟩ | ⟨g, cap, cur, hv, hg, hh, hc, hm, r⟩
  · injection hv with e1 e2 e3
    subst e1 e3
    refine ⟨hl, fun h => absurd h (by omega), by omega, Nat.zero_le _, fun _ => rfl⟩
  · injection hv with e1 e2 e3
    subst e1 e3
    refine ⟨hl, fun h0 => ⟨g, 0, rfl, (h.lt g rfl).2, fun i hi => ?_⟩, hc, hm, fun h => by cases h⟩
    rw [Nat.zero_add, h.cellAt i (by omega)]
    exact bL_get hi
theorem own_form12b {w : World} {B n s : Nat} {t : TypeId} {v : Value} {xs : List Value} (h : w.ownsRow B t s v n xs) : (v = .slice none 0 0 ∧ n = 0) ∨ ∃ g c, v = .slice (some ⟨g, 0, none⟩) n c := by
  rcases h.2 with ⟨rfl, e⟩ | ⟨g, cap, cur, rfl, _⟩
  · exact .inl ⟨rfl, e⟩
  · exact .inr ⟨g, cap, rfl⟩
theorem news_b {w : World} {p : Option Addr} {a : Addr} {l : List UInt8} (hp : p = some a) (h : RdB w w.heap.size p l) : ∀ j u, (bL l)[j]? = some u → w.cell? (a.add j) = some u := fun j u hu => by
  have hj : j < l.length := by have := (List.getElem?_eq_some_iff.1 hu).1; rwa [bL_length] at this
  obtain ⟨b, o, e, hb, hc⟩ := h (by omega)
  rw [hp] at e
  injection e with e
  subst e
  rw [Addr.add_lit, hc j hj, ← bL_get hj]; exact hu
/-- append(s, b...) of bytes, nil or not. -/
theorem wpList_app_b {w : World} {ops : Array Oper} {rest : List Oper} {op : Oper} {a : Act} {Q : Exit → Act → World → Prop} (hgd : op.guard = none) (s x : Operand)
    (ho : op.op = .call { callee := .builtin .append, args := #[s, x], argTypes := #[22, 22] }) (base : Nat) (v : Value) (n : Nat) (xs : List UInt8) (hs : a.eval s = v) (hown : w.ownsRow base 5 1 v n (bL xs))
    (p : Option Addr) (m c : Nat) (l : List UInt8) (hx : a.eval x = .slice p m c) (hl : l.length = m) (hr : RdB w w.heap.size p l) (hnil : p = none → c = 0) (hmc : m ≤ c) (hb : n + m ≤ 140737488355328) (hbase : base ≤ w.heap.size)
    (h : ∀ v' w', w'.ownsRow base 5 1 v' (n + m) (bL (xs ++ l)) → w.grownBy w' v.ownBlock → wpList Tryz.prog ops Q rest (a.put op.dst v') w') : wpList Tryz.prog ops Q (op :: rest) a w := by
  obtain ⟨i0, hi0, hz0, hz1, hz2⟩ := info_parts u8_info12
  cases p with
  | none =>
    have hc := hnil rfl
    subst hc
    obtain rfl : m = 0 := by omega
    have hl0 : l = [] := List.eq_nil_of_length_eq_zero hl
    subst hl0
    refine wpList_plain hgd fun _ hK => ?_
    have hr := run_append_owned_none (P := Tryz.prog) w base 22 op.type 5 i0 1 Tryz.underlying22 hi0 v n (bL xs) hown
    unfold Oper.wp execOp
    simp only [ho, resolve, invoke, builtin, Sem.run_bind, Sem.run_pure, Result.andThen_ok, List.map_toArray, List.map_cons, List.map_nil, hs, hx, hr]
    exact hK _ _ (h v w (by rw [List.append_nil]; exact hown) ⟨rfl, rfl, rfl, Nat.le_refl _, fun _ _ _ => rfl⟩)
  | some ad =>
    refine wpList_append_own w hgd s x 22 ho base 5 i0 _ 1 1 Tryz.underlying22 hi0 hz0 hz1 hz2 rfl (by omega) v n (bL xs) hs hown ad m c (bL l) hx (by rw [bL_length]; omega) (fun j u hu => ?_) (bL_one _) (by unfold maxLen; omega) (by omega) hbase fun v' w' h2 h3 _ => h v' w' (by rw [bL_app]; exact h2) h3
    exact news_b rfl hr j u hu
/-- string(b), where another operation wants it, or nobody. -/
theorem wpList_str12g {ops : Array Oper} {rest : List Oper} {op : Oper} {A : Operand} {a : Act} {w : World} {Q : Exit → Act → World → Prop} {l : List UInt8} {p : Option Addr} {n cap : Nat} (hw : Region.wanted op (yielded ops a.tmps) = true) (ho : op.op = .convert 22 9 A)
    (hA : a.eval A = .slice p n cap) (hn : l.length = n) (hr : RdB w w.heap.size p l)
    (h : wpList Tryz.prog ops Q rest (a.put op.dst (.string (bs l))) w) : wpList Tryz.prog ops Q (op :: rest) a w := by
  have hr : (execOp a.eval op).run Tryz.prog w = .ok (.value (.string (bs l))) w := by
    subst hn
    unfold execOp
    rw [ho]
    cases p with
    | none =>
      have hl0 : l = [] := by
        cases l with
        | nil => rfl
        | cons c r => obtain ⟨b, o, e, _⟩ := hr (by simp); cases e
      subst hl0
      have := run_convert_bytes_nil (P := Tryz.prog) w 22 5 Tryz.underlying22 Tryz.underlying5 0 cap 9 Tryz.underlying9
      simp [hA, this]
      rfl
    | some ad =>
      have := run_convert_bytes_back (P := Tryz.prog) w 22 9 5 ad cap l Tryz.underlying22 Tryz.underlying5 Tryz.underlying9 (fun j hj => by
        rw [news_b rfl hr j _ (bL_get hj)])
      simp [hA, this]
      rfl
  unfold wpList
  rw [if_pos hw]
  left
  unfold Oper.wp; rw [hr]; exact h
end Go.Proofs.YtgigdhincpcdbaaGreatDoor
namespace Go.Proofs.YtgigdhincpcdbaaGreatDoor
set_option linter.unusedVariables false

theorem join_mem : ∀ {R : List (List UInt8)} {c : UInt8}, c ∈ (joinL R).1 → c = 32 ∨ ∃ s ∈ R, c ∈ s
  | [], c, h => by cases h
  | s :: r, c, h => by
    unfold joinL at h
    split at h
    · rcases join_mem h with h | ⟨t, ht, hc⟩
      · exact .inl h
      · exact .inr ⟨t, List.mem_cons_of_mem _ ht, hc⟩
    · split at h
      · rcases List.mem_append.1 h with h | h
        · rcases List.mem_append.1 h with h | h
          · exact .inr ⟨s, List.mem_cons_self .., List.dropLast_subset _ h⟩
          · exact .inl (List.mem_singleton.1 h)
        · rcases join_mem h with h | ⟨t, ht, hc⟩
          · exact .inl h
          · exact .inr ⟨t, List.mem_cons_of_mem _ ht, hc⟩
      · exact .inr ⟨s, List.mem_cons_self .., h⟩
theorem join_sub : ∀ {R : List (List UInt8)} {s : List UInt8}, s ∈ (joinL R).2 → s ∈ R
  | [], s, h => by cases h
  | t :: r, s, h => by
    unfold joinL at h
    split at h
    · exact List.mem_cons_of_mem _ (join_sub h)
    · split at h
      · exact List.mem_cons_of_mem _ (join_sub h)
      · exact List.mem_cons_of_mem _ h
theorem join_len (m : Nat) : ∀ (R : List (List UInt8)), (∀ s ∈ R, s.length ≤ m) → (joinL R).1.length ≤ (m + 1) * R.length
  | [], _ => by simp [joinL]
  | s :: r, h => by
    have h1 := join_len m r (fun t ht => h t (List.mem_cons_of_mem _ ht))
    have h2 := h s (List.mem_cons_self ..)
    rw [List.length_cons, Nat.mul_add, Nat.mul_one]
    unfold joinL
    split
    · exact Nat.le_trans h1 (by omega)
    · split
      · simp only [List.length_append, List.length_dropLast, List.length_singleton]; omega
      · show s.length ≤ _; omega
theorem trim_len (l : List UInt8) : (trimL l).length ≤ l.length := by
  obtain ⟨A, B, e, _⟩ := trim_parts l
  have := congrArg List.length e
  rw [List.length_append, List.length_append] at this
  omega
/-- What holds of each logical line. -/
structure LogOk (N m lo : Nat) (p : Nat × List UInt8) : Prop where
  lo : lo < p.1
  hi : p.1 ≤ N
  some : p.2 ≠ []
  trim : trimL p.2 = p.2
  ten : ∀ c ∈ p.2, c ≠ 10
  len : p.2.length ≤ m
theorem log_ok (N m : Nat) : ∀ (f : Nat) (R : List (List UInt8)), R.length ≤ N → (∀ s ∈ R, s.length ≤ m ∧ ∀ c ∈ s, c ≠ 10) → (∀ p ∈ logL N f R, LogOk N ((m + 1) * N) (N - R.length) p) ∧ (logL N f R).Pairwise (fun p q => p.1 < q.1)
  | 0, R, _, _ => ⟨(fun p hp => by cases hp), List.Pairwise.nil⟩
  | f + 1, [], _, _ => ⟨(fun p hp => by cases hp), List.Pairwise.nil⟩
  | f + 1, s :: r, hN, hR => by
    rw [List.length_cons] at hN
    unfold logL
    cases hc : comL s with
    | true =>
      simp only [if_true]
      obtain ⟨h1, h2⟩ := log_ok N m f r (by omega) (fun t ht => hR t (List.mem_cons_of_mem _ ht))
      exact ⟨fun p hp => by have := h1 p hp; exact ⟨by have := this.lo; rw [List.length_cons]; omega, this.hi, this.some, this.trim, this.ten, this.len⟩, h2⟩
    | false =>
      have hj := join_lt (r := r) hc
      obtain ⟨h1, h2⟩ := log_ok N m f (joinL (s :: r)).2 (by omega) (fun t ht => hR t (join_sub ht))
      simp only [Bool.false_eq_true, if_false]
      split
      · exact ⟨fun p hp => by have := h1 p hp; exact ⟨by have := this.lo; rw [List.length_cons]; omega, this.hi, this.some, this.trim, this.ten, this.len⟩, h2⟩
      · rename_i hne
        refine ⟨fun p hp => ?_, List.pairwise_cons.2 ⟨fun p hp => ?_, h2⟩⟩
        · rcases List.mem_cons.1 hp with rfl | hp
          · refine ⟨by rw [List.length_cons]; show N - (r.length + 1) < N - r.length; omega, Nat.sub_le _ _, hne, trim_twice _, fun c hcm => ?_, ?_⟩
            · rcases join_mem (trim_mem hcm) with h | ⟨t, ht, hct⟩
              · rw [h]; decide
              · exact (hR t ht).2 c hct
            · have a1 := trim_len (joinL (s :: r)).1
              have a2 := join_len m (s :: r) (fun t ht => (hR t ht).1)
              have a3 : (m + 1) * (s :: r).length ≤ (m + 1) * N := Nat.mul_le_mul_left _ hN
              exact Nat.le_trans a1 (Nat.le_trans a2 a3)
          · have := h1 p hp; exact ⟨by have := this.lo; rw [List.length_cons]; omega, this.hi, this.some, this.trim, this.ten, this.len⟩
        · have := (h1 p hp).lo
          show N - r.length < p.1
          omega
theorem spl_ok {l : List UInt8} {p : Nat × List UInt8} (h : p ∈ splL l) : LogOk (linL l).length 65537000 0 p := by
  unfold splL at h
  split at h
  · cases h
  · split at h
    · cases h
    · rename_i h1 h2
      have h3 := (log_ok (linL l).length 65536 (linL l).length (linL l) (Nat.le_refl _) (fun s hs => ⟨by have := (linL_mem hs).2; omega, (linL_mem hs).1⟩)).1 p h
      exact ⟨by have := h3.lo; omega, h3.hi, h3.some, h3.trim, h3.ten, by have := h3.len; have : 65537 * (linL l).length ≤ 65537 * 1000 := Nat.mul_le_mul_left _ (by omega); omega⟩
theorem spl_rise (l : List UInt8) : (splL l).Pairwise (fun p q => p.1 < q.1) := by
  unfold splL
  split
  · exact List.Pairwise.nil
  · split
    · exact List.Pairwise.nil
    · exact (log_ok (linL l).length l.length (linL l).length (linL l) (Nat.le_refl _) (fun s hs => ⟨(linL_mem hs).2, (linL_mem hs).1⟩)).2
/-- The number of the logical line ahead; 0 if there is none. -/
def lastN (O : List (Nat × List UInt8)) : Nat → Nat
  | 0 => 0
  | k + 1 => (O.getD k (0, [])).1
theorem last_lt {l : List UInt8} {k : Nat} {p : Nat × List UInt8} (h : (splL l)[k]? = some p) : lastN (splL l) k < p.1 := by
  cases k with
  | zero => exact (spl_ok (List.mem_of_getElem? h)).lo
  | succ k =>
    obtain ⟨hk, e⟩ := List.getElem?_eq_some_iff.1 h
    have hp := List.pairwise_iff_getElem.1 (spl_rise l) k (k + 1) (by omega) hk (by omega)
    show ((splL l).getD k (0, [])).1 < p.1
    rw [List.getD_eq_getElem?_getD, List.getElem?_eq_getElem (by omega), ← e]
    exact hp
theorem last_succ {O : List (Nat × List UInt8)} {k : Nat} {p : Nat × List UInt8} (h : O[k]? = some p) : lastN O (k + 1) = p.1 := by
  show (O.getD k (0, [])).1 = p.1
  rw [List.getD_eq_getElem?_getD, h]; rfl
end Go.Proofs.YtgigdhincpcdbaaGreatDoor
