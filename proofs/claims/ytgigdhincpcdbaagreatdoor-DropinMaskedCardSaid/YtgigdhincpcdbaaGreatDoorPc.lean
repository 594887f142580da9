/- Whether files are the same; files copied into memory of their own. Condition: files that lie in memory. append of a row that was returned, nil or not; of bytes, at a step of a region that draws its order; files copied into memory of their own. Condition: files that lie in memory, at most 2^40 bytes each. -/
import Derived.Test.YtgigdhincpcdbaaGreatDoorPa
import Derived.Deep.RegionHeld3
import Derived.Deep.AppendLies
import Derived.Deep.RegionLaw
import Derived.Maps.AppendAt
import Derived.Laws.OwnMore
namespace Go.Proofs.YtgigdhincpcdbaaGreatDoor
open Go.RowKit
set_option linter.unusedVariables false
set_option linter.unusedSimpArgs false
attribute [local go_sem ↓] Go.wp_at_zero Go.wp_at_succ

/-- The string of bytes that lie in memory. -/
theorem run_bytes14 {l : List UInt8} {p : Option Addr} {n cap B : Nat} {w : World} (hn : l.length = n) (hr : RdB w B p l) : (convert 22 9 (.slice p n cap)).run Tryz.prog w = .ok (.string (bs l)) w := by
  subst hn
  cases p with
  | none =>
    have hl0 : l = [] := by
      cases l with
      | nil => rfl
      | cons c r => obtain ⟨b, o, e, _⟩ := hr (by simp); cases e
    subst hl0
    exact run_convert_bytes_nil (P := Tryz.prog) w 22 5 Tryz.underlying22 Tryz.underlying5 0 cap 9 Tryz.underlying9
  | some ad =>
    refine run_convert_bytes_back (P := Tryz.prog) w 22 9 5 ad cap l Tryz.underlying22 Tryz.underlying5 Tryz.underlying9 (fun j hj => ?_)
    obtain ⟨b, o, e, hb, hc⟩ := hr (by omega)
    injection e with e
    subst e
    rw [Addr.add_lit]
    exact hc j hj
theorem RdB.drewN {l : List UInt8} {p : Option Addr} {B : Nat} {w : World} (h : RdB w B p l) (q : Nat) : RdB (w.drewN q) B p l := fun h0 => by
  obtain ⟨b, o, e, hb, hc⟩ := h h0
  exact ⟨b, o, e, hb, fun i hi => ((Go.below_drewN (Below.refl w.heap.size w) q).cell (World.block_lt_of_cell? w _ (hc i hi))).trans (hc i hi)⟩
/-- Files as rows, with their bytes. -/
structure FrAt (w : World) (v : Value) (D : List Fle) : Prop where
  rows : RowsAt 3 encF w v D
  each : ∀ f ∈ D, f.bytes.length = f.len ∧ RdB w w.heap.size f.ptr f.bytes
theorem FrAt.on {w w' : World} {v : Value} {D : List Fle} (h : FrAt w v D) (b : Below w.heap.size w w') : FrAt w' v D := ⟨h.rows.on b, fun f hf => ⟨(h.each f hf).1, (h.each f hf).2.on b⟩⟩
theorem FsAt.fr {w : World} {a : Option Addr} {n cap : Nat} {D : List Fle} (h : FsAt w a n cap D) : FrAt w (.slice a n cap) D := ⟨h.rows, fun f hf => ⟨(h.each f hf).len, (h.each f hf).rd⟩⟩
set_option maxRecDepth 100000 in
set_option maxHeartbeats 16000000 in
theorem sameF (u v : Value) (O O2 : List Fle) (w : World) (hu : FrAt w u O) (hv : FrAt w v O2) (hO : O.length ≤ 1000000) (he : O.map Fle.fil = O2.map Fle.fil) : Calls Tryz.prog 12 #[u, v] w fun e w' => e = .returned (.bool true) ∧ Below w.heap.size w w' := by
  have hlen : O2.length = O.length := by have := congrArg List.length he; rw [List.length_map, List.length_map] at this; exact this.symm
  obtain ⟨q1, c1, e1, hr1⟩ := hu.rows
  obtain ⟨q2, c2, e2, hr2⟩ := hv.rows
  subst e1 e2
  rw [hlen]
  have H1 := Lib.hid hr1
  have H2 := Lib.hid hr2
  have HU := Lib.hid hu
  have HV := Lib.hid hv
  have HE := Lib.hid (fun (k : Nat) (p p2 : Fle) (h1 : O[k]? = some p) (h2 : O2[k]? = some p2) => show p.fil = p2.fil from by
    have h := congrArg (fun l => l[k]?) he
    simp only [List.getElem?_map, h1, h2, Option.map_some] at h
    exact Option.some.inj h)
  obtain ⟨n, hn⟩ : ∃ n, n = O.length := ⟨_, rfl⟩
  have HN := Lib.hid hn
  have HN2 := Lib.hid (show O2.length = n by rw [hlen, hn])
  rw [← hn] at hO ⊢
  clear hr1 hr2 hn hu hv he hlen
  have t1 : ((n : Int) != (n : Int)) = false := by simp
  go_enter Tryz.func12, Tryz.ntmps12
  go_wp2_with fail
  go_loopw [5] (fun v5 wr => ∃ k : Nat, k ≤ n ∧ v5 = .int .i64 k ∧ Hid (Below w.heap.size w wr)) (fun v5 _ => n - (intOf v5).toNat)
  case atStart => exact ⟨0, by omega, rfl, Lib.hid (Below.refl _ _)⟩
  case round =>
    obtain ⟨k, hk, rfl, PB⟩ := hrel
    obtain ⟨V, rfl⟩ : ∃ wo : World, wo = wr := ⟨_, rfl⟩
    by_cases hlt : k < n
    · have hx : O[k]? = some (O[k]'(by rw [← HN.out]; exact hlt)) := List.getElem?_eq_getElem _
      have hx2 : O2[k]? = some (O2[k]'(by rw [HN2.out]; exact hlt)) := List.getElem?_eq_getElem _
      obtain ⟨p, hp⟩ : ∃ p, p = O[k]'(by rw [← HN.out]; exact hlt) := ⟨_, rfl⟩
      obtain ⟨p2, hp2⟩ : ∃ p, p = O2[k]'(by rw [HN2.out]; exact hlt) := ⟨_, rfl⟩
      rw [← hp] at hx
      rw [← hp2] at hx2
      obtain ⟨g1, o1, rfl, d1⟩ := H1.out k p hx
      obtain ⟨g2, o2, rfl, d2⟩ := H2.out k p2 hx2
      have hf := HE.out k p p2 hx hx2
      obtain ⟨l1, r1⟩ := HU.out.each p (List.mem_of_getElem? hx)
      obtain ⟨l2, r2⟩ := HV.out.each p2 (List.mem_of_getElem? hx2)
      have x0 := (PB.out.cell (World.block_lt_of_cell? w _ (d1 0 _ rfl))).trans (d1 0 _ rfl)
      have x1 := (PB.out.cell (World.block_lt_of_cell? w _ (d1 1 _ rfl))).trans (d1 1 _ rfl)
      have x2 := (PB.out.cell (World.block_lt_of_cell? w _ (d1 2 _ rfl))).trans (d1 2 _ rfl)
      have y0 := (PB.out.cell (World.block_lt_of_cell? w _ (d2 0 _ rfl))).trans (d2 0 _ rfl)
      have y1 := (PB.out.cell (World.block_lt_of_cell? w _ (d2 1 _ rfl))).trans (d2 1 _ rfl)
      have y2 := (PB.out.cell (World.block_lt_of_cell? w _ (d2 2 _ rfl))).trans (d2 2 _ rfl)
      rw [Nat.add_zero] at x0 y0
      have k1 : (k : Int) < n := by omega
      have k0 : (0 : Int) ≤ k := by omega
      have hw1 : IntKind.i64.wrap ((k : Int) + 1) = k + 1 := by rw [IntKind.wrap_i64]; omega
      have r1' := r1.on PB.out
      have r2' := r2.on PB.out
      obtain ⟨pn, pd, pp, pl, pc, pb⟩ := p
      obtain ⟨rn, rd, rp, rl, rc, rb⟩ := p2
      obtain ⟨f1, f2, f3⟩ : pn = rn ∧ pd = rd ∧ pb = rb := by
        unfold Fle.fil at hf
        simp only [Prod.mk.injEq] at hf
        exact hf
      subst f1 f2 f3
      simp only at l1 l2 r1' r2' x0 x1 x2 y0 y1 y2
      have v1 := fun q => run_bytes14 (cap := pc) l1 (r1'.drewN q)
      have v2 := fun q => run_bytes14 (cap := rc) l2 (r2'.drewN q)
      have v3 := run_bytes14 (cap := pc) l1 r1'
      have v4 := run_bytes14 (cap := rc) l2 r2'
      have e0 : (pn.toList == pn.toList) = true := by simp
      have e1 : (pn.toList != pn.toList) = false := by simp
      have e2 : (pd == pd) = true := by simp
      have e3 : (pd != pd) = false := by simp
      obtain ⟨S, hS⟩ : ∃ S, S = bs pb := ⟨_, rfl⟩
      rw [← hS] at v1 v2 v3 v4
      have e4 : (S.toList == S.toList) = true := by simp
      have e5 : (S.toList != S.toList) = false := by simp
      clear hx hp hx2 hp2 d1 d2 hf l1 l2 r1 r2 r1' r2' hS
      go_wp2_with fail
      go_quiet (fail)
      go_wp2_with fail
      go_roundw
      case rel => exact ⟨k + 1, by omega, by go_num, Lib.hid (Go.below_drewN PB.out _)⟩
      case measure => simp [intOf]; omega
    · obtain rfl : k = n := by omega
      have k1 : ¬ (k : Int) < k := by omega
      go_wp2_with fail
      go_ret
      exact ⟨rfl, PB.out⟩
end Go.Proofs.YtgigdhincpcdbaaGreatDoor
namespace Go.Proofs.YtgigdhincpcdbaaGreatDoor
open Go.RowKit
set_option linter.unusedVariables false
set_option linter.unusedSimpArgs false
attribute [local go_sem ↓] Go.wp_at_zero Go.wp_at_succ

section
variable {P : Program} {w : World}
theorem run_append_none14 (base : Nat) (t ty e : TypeId) (i : TypeInfo) (size c : Nat) (ht : P.underlying t = some (.slice e)) (hi : P.info? e = some i)
    (v : Value) (n : Nat) (xs : List Value) (hown : w.ownsRow base e size v n xs) :
    (Builtin.append_ #[t, t] ty #[v, .slice none 0 c]).run P w = .ok v w := by
  rcases hown.2 with ⟨rfl, rfl⟩ | ⟨g, cap, cur, rfl, _, _, hnc, _⟩
  · simp [Builtin.append_, run_underlying ht, sizeOf, typeInfo, hi, Builtin.lenOf, Builtin.firstCells]
  · simp [Builtin.append_, run_underlying ht, sizeOf, typeInfo, hi, Builtin.lenOf, Builtin.firstCells, hnc, storeCells]
/-- append(s, x...), x a row that lies somewhere, nil or not. -/
theorem wp_app_r {o : Oper} {a : Act} {K : Act → World → Prop} {Q : Exit → Act → World → Prop} (s x : Operand) (t : TypeId)
    (ho : o.op = .call { callee := .builtin .append, args := #[s, x], argTypes := #[t, t] })
    (base : Nat) (e : TypeId) (i : TypeInfo) (z : Value) (size bytes : Nat) (ht : P.underlying t = some (.slice e)) (hi : P.info? e = some i) (hz : i.zero = some z)
    (hsize : i.size = size) (hby : i.bytes = bytes) (hzs : z.cells.size = size) (hsz : 0 < size)
    (v : Value) (n : Nat) (xs : List Value) (hs : a.eval s = v) (hown : w.ownsRow base e size v n xs)
    (p : Option Addr) (m c : Nat) (news : List Value) (hx : a.eval x = .slice p m c) (hl : news.length = m * size) (hnews : 0 < m → ∃ ad, p = some ad ∧ ∀ j u, news[j]? = some u → w.cell? (ad.add j) = some u) (h1 : ∀ u ∈ news, u.oneCell' = true)
    (h63 : n + m ≤ maxLen) (hbytes : (n + m) * bytes ≤ 140737488355328) (hbase : base ≤ w.heap.size)
    (h : ∀ v' w', w'.ownsRow base e size v' (n + m) (xs ++ news) → w.grownBy w' v.ownBlock → K (a.put o.dst v') w') : o.wp P a w K Q := by
  cases p with
  | none =>
    have hm : m = 0 := by
      rcases Nat.eq_zero_or_pos m with h0 | h0
      · exact h0
      · obtain ⟨ad, e, _⟩ := hnews h0; cases e
    subst hm
    have hn0 : news = [] := List.eq_nil_of_length_eq_zero (by rw [hl]; omega)
    subst hn0
    have hr := run_append_none14 (P := P) base t o.type e i size c ht hi v n xs hown
    unfold Oper.wp execOp
    simp only [ho, resolve, invoke, builtin, Sem.run_bind, Sem.run_pure, Result.andThen_ok, List.map_toArray, List.map_cons, List.map_nil, hs, hx, hr]
    exact h v w (by rw [List.append_nil]; exact hown) ⟨rfl, rfl, rfl, Nat.le_refl _, fun _ _ _ => rfl⟩
  | some ad =>
    have hnews2 : ∀ j u, news[j]? = some u → w.cell? (ad.add j) = some u := fun j u hu => by
      have : 0 < m := by
        rcases Nat.eq_zero_or_pos m with h0 | h0
        · subst h0
          have : news = [] := List.eq_nil_of_length_eq_zero (by rw [hl]; omega)
          rw [this] at hu; simp at hu
        · exact h0
      obtain ⟨ad', e, hc⟩ := hnews this
      injection e with e
      subst e
      exact hc j u hu
    obtain ⟨v', w', hr, h2, h3, _, _⟩ := run_append_own_at (P := P) w base t o.type e i z size bytes ht hi hz hsize hby hzs hsz v n xs hown ad m c news hl hnews2 h1 h63 hbytes hbase
    unfold Oper.wp execOp
    simp only [ho, resolve, invoke, builtin, Sem.run_bind, Sem.run_pure, Result.andThen_ok, List.map_toArray, List.map_cons, List.map_nil, hs, hx, hr]
    exact h v' w' h2 h3
theorem wpList_app_r {ops : Array Oper} {rest : List Oper} {o : Oper} {a : Act} {Q : Exit → Act → World → Prop} (hgd : o.guard = none) (s x : Operand) (t : TypeId)
    (ho : o.op = .call { callee := .builtin .append, args := #[s, x], argTypes := #[t, t] })
    (base : Nat) (e : TypeId) (i : TypeInfo) (z : Value) (size bytes : Nat) (ht : P.underlying t = some (.slice e)) (hi : P.info? e = some i) (hz : i.zero = some z)
    (hsize : i.size = size) (hby : i.bytes = bytes) (hzs : z.cells.size = size) (hsz : 0 < size)
    (v : Value) (n : Nat) (xs : List Value) (hs : a.eval s = v) (hown : w.ownsRow base e size v n xs)
    (p : Option Addr) (m c : Nat) (news : List Value) (hx : a.eval x = .slice p m c) (hl : news.length = m * size) (hnews : 0 < m → ∃ ad, p = some ad ∧ ∀ j u, news[j]? = some u → w.cell? (ad.add j) = some u) (h1 : ∀ u ∈ news, u.oneCell' = true)
    (h63 : n + m ≤ maxLen) (hbytes : (n + m) * bytes ≤ 140737488355328) (hbase : base ≤ w.heap.size)
    (h : ∀ v' w', w'.ownsRow base e size v' (n + m) (xs ++ news) → w.grownBy w' v.ownBlock → wpList P ops Q rest (a.put o.dst v') w') : wpList P ops Q (o :: rest) a w :=
  wpList_plain hgd fun _ hK => wp_app_r s x t ho base e i z size bytes ht hi hz hsize hby hzs hsz v n xs hs hown p m c news hx hl hnews h1 h63 hbytes hbase fun v' w' h2 h3 => hK _ _ (h v' w' h2 h3)
theorem step_app_r {ops : Array Oper} {o : Oper} {a : Act} {K : Act → World → Prop} {Q : Exit → Act → World → Prop} {E : Prop} (hgd : o.guard = none) (s x : Operand) (t : TypeId)
    (ho : o.op = .call { callee := .builtin .append, args := #[s, x], argTypes := #[t, t] })
    (base : Nat) (e : TypeId) (i : TypeInfo) (z : Value) (size bytes : Nat) (ht : P.underlying t = some (.slice e)) (hi : P.info? e = some i) (hz : i.zero = some z)
    (hsize : i.size = size) (hby : i.bytes = bytes) (hzs : z.cells.size = size) (hsz : 0 < size)
    (v : Value) (n : Nat) (xs : List Value) (hs : a.eval s = v) (hown : w.ownsRow base e size v n xs)
    (p : Option Addr) (m c : Nat) (news : List Value) (hx : a.eval x = .slice p m c) (hl : news.length = m * size) (hnews : 0 < m → ∃ ad, p = some ad ∧ ∀ j u, news[j]? = some u → w.cell? (ad.add j) = some u) (h1 : ∀ u ∈ news, u.oneCell' = true)
    (h63 : n + m ≤ maxLen) (hbytes : (n + m) * bytes ≤ 140737488355328) (hbase : base ≤ w.heap.size)
    (h : ∀ v' w', w'.ownsRow base e size v' (n + m) (xs ++ news) → w.grownBy w' v.ownBlock → K (a.put o.dst v') w') :
    if Region.wanted o (yielded ops a.tmps) = true then Oper.wp P o a w K Q else E := by
  rw [if_pos (by unfold Region.wanted; rw [hgd])]
  exact wp_app_r s x t ho base e i z size bytes ht hi hz hsize hby hzs hsz v n xs hs hown p m c news hx hl hnews h1 h63 hbytes hbase h
end
/-- A row of another element's type stays, whatever is appended to this one. -/
theorem own_other {W W' : World} {B B2 n n2 s s2 : Nat} {e e2 : TypeId} {v v2 : Value} {xs xs2 : List Value} (h : W.ownsRow B e s v n xs) (h2 : W.ownsRow B2 e2 s2 v2 n2 xs2) (hne : e ≠ e2) (hg : W.grownBy W' v2.ownBlock) : W'.ownsRow B e s v n xs := by
  refine h.kept hg ?_
  rcases h.2 with ⟨rfl, _⟩ | ⟨g, cap, cur, rfl, _, hh, _⟩
  · exact .inl rfl
  · refine .inr fun eq => ?_
    rcases h2.2 with ⟨rfl, _⟩ | ⟨g2, cap2, cur2, rfl, _, hh2, _⟩
    · cases eq
    · have e1 : g = g2 := Option.some.inj eq
      subst e1
      rw [hh] at hh2
      injection hh2 with hh2
      injection hh2 with _ hh2 _
      exact hne hh2
theorem rows_news {α : Type} {sz : Nat} {enc : α → List Value} (hz : ∀ x, (enc x).length = sz) (h0 : 0 < sz) {w : World} {p : Option Addr} {m c : Nat} {O : List α} (h : RowsAt sz enc w (.slice p m c) O) : (rowC enc O).length = m * sz ∧ (0 < m → ∃ ad, p = some ad ∧ ∀ j u, (rowC enc O)[j]? = some u → w.cell? (ad.add j) = some u) := by
  obtain ⟨q, c', e, hr⟩ := h
  injection e with e1 e2 e3
  refine ⟨by rw [rowC_length hz, e2], fun hm => ?_⟩
  obtain ⟨g, o, hq, _⟩ := hr 0 _ (List.getElem?_eq_getElem (by omega))
  refine ⟨⟨g, o, none⟩, by rw [e1, hq], fun j u hu => ?_⟩
  have hj := (List.getElem?_eq_some_iff.1 hu).1
  rw [rowC_length hz] at hj
  have hk : j / sz < O.length := by rw [Nat.div_lt_iff_lt_mul h0]; exact hj
  obtain ⟨g', o', hq', hc⟩ := hr (j / sz) _ (List.getElem?_eq_getElem hk)
  rw [hq] at hq'
  injection hq' with hq'
  injection hq' with e4 e5 _
  have hjj : j / sz * sz + j % sz = j := by rw [Nat.mul_comm]; exact Nat.div_add_mod j sz
  have hlt : j % sz < (enc O[j / sz]).length := by rw [hz]; exact Nat.mod_lt _ h0
  have hg := rowC_get hz (List.getElem?_eq_getElem hk) (j % sz) _ (List.getElem?_eq_getElem hlt)
  rw [hjj, hu] at hg
  have := hc (j % sz) _ (List.getElem?_eq_getElem hlt)
  rw [← e4, ← e5, Nat.add_assoc, hjj] at this
  rw [Addr.add_lit, this]
  exact hg.symm
theorem rdb_news {w : World} {B m : Nat} {p : Option Addr} {l : List UInt8} (hl : l.length = m) (h : RdB w B p l) : 0 < m → ∃ ad, p = some ad ∧ ∀ j u, (bL l)[j]? = some u → w.cell? (ad.add j) = some u := fun h0 => by
  obtain ⟨b, o, e, _, hc⟩ := h (by omega)
  refine ⟨_, e, fun j u hu => ?_⟩
  have hj : j < l.length := by have := (List.getElem?_eq_some_iff.1 hu).1; rwa [bL_length] at this
  rw [Addr.add_lit, hc j hj, ← bL_get hj]; exact hu
theorem own_far14 {w : World} {B n s : Nat} {e : TypeId} {v : Value} {xs : List Value} (h : w.ownsRow B e s v n xs) : v.ownBlock = none ∨ v.ownBlock ≠ some w.heap.size := by
  cases hb : v.ownBlock with
  | none => exact .inl rfl
  | some b => exact .inr fun e => by have := (h.lt b hb).2; have e2 : b = w.heap.size := Option.some.inj e; omega
theorem own_base14 {w : World} {B B' n s : Nat} {e : TypeId} {v : Value} {xs : List Value} (h : w.ownsRow B e s v n xs) (hB : B' ≤ B) : w.ownsRow B' e s v n xs :=
  ⟨h.1, h.2.imp id fun ⟨g, cap, cur, hv, hg, r⟩ => ⟨g, cap, cur, hv, Nat.le_trans hB hg, r⟩⟩
/-- A file whose bytes are a row of its own. -/
def OwnB (B : Nat) (w : World) (f : Fle) : Prop := f.name.size ≤ maxLen ∧ w.ownsRow B 5 1 (.slice f.ptr f.len f.cap) f.len (bL f.bytes)
theorem OwnB.at {B : Nat} {w : World} {f : Fle} (h : OwnB B w f) : FleAt w.heap.size w f := by
  obtain ⟨h1, h2, h3, h4, h5⟩ := rdb_own h.2
  exact ⟨h.1, h1, h3, h4, h5, h2⟩
theorem OwnB.on {B : Nat} {w w' : World} {f : Fle} (h : OwnB B w f) (b : Below w.heap.size w w') : OwnB B w' f := ⟨h.1, own_on13 h.2 b⟩
/-- New files, in new memory. -/
structure NewF (B : Nat) (w : World) (v : Value) (L : List Fle) : Prop where
  own : w.ownsRow B 24 3 v L.length (rowC encF L)
  each : ∀ f ∈ L, OwnB B w f
theorem NewF.on {B : Nat} {w w' : World} {v : Value} {L : List Fle} (h : NewF B w v L) (b : Below w.heap.size w w') : NewF B w' v L := ⟨own_on13 h.own b, fun f hf => (h.each f hf).on b⟩
theorem NewF.fs {B : Nat} {w : World} {v : Value} {L : List Fle} (h : NewF B w v L) : ∃ q c, v = .slice q L.length c ∧ FsAt w q L.length c L := by
  rcases h.own.2 with ⟨rfl, e⟩ | ⟨g, cap, cur, rfl, hg, hh, hc, hm, hs, ht⟩
  · refine ⟨none, 0, by rw [e], rfl, by omega, Nat.zero_le _, fun _ => rfl, ?_, fun f hf => (h.each f hf).at⟩
    have := rows_own encF_len h.own
    rwa [e] at *
  · exact ⟨_, _, rfl, rfl, hc, hm, fun h => (by cases h), rows_own encF_len h.own, fun f hf => (h.each f hf).at⟩
set_option maxRecDepth 100000 in
set_option maxHeartbeats 32000000 in
theorem copied_c (D : List Fle) (a : Option Addr) (n cap : Nat) (w : World) (h : FsAt w a n cap D) (hn : n ≤ 1000) (hb : ∀ f ∈ D, f.len ≤ 1099511627776) : Calls Tryz.prog 9 #[.slice a n cap] w fun e w' =>
    ∃ v L, e = .returned v ∧ NewF w.heap.size w' v L ∧ L.map Fle.fil = D.map Fle.fil ∧ Below w.heap.size w w' := by
  obtain ⟨g, o, hbase, hcells⟩ := h.base
  have HA := Lib.hid hbase
  have HCL := Lib.hid (fun (W : World) (b : Below w.heap.size w W) k (hk : k < n) => (show W.cell? ⟨g, o + k * 3, none⟩ = some (.string (D.getD k f0).name) ∧ W.cell? ⟨g, o + k * 3 + 1, none⟩ = some (.int .i64 (D.getD k f0).dir) ∧ W.cell? ⟨g, o + k * 3 + 2, none⟩ = some (.slice (D.getD k f0).ptr (D.getD k f0).len (D.getD k f0).cap) from
    ⟨(b.cell (World.block_lt_of_cell? w _ (hcells k hk).1)).trans (hcells k hk).1, (b.cell (World.block_lt_of_cell? w _ (hcells k hk).2.1)).trans (hcells k hk).2.1, (b.cell (World.block_lt_of_cell? w _ (hcells k hk).2.2)).trans (hcells k hk).2.2⟩))
  have HFL := Lib.hid (fun k (hk : k < n) => (show FleAt w.heap.size w (D.getD k f0) ∧ (D.getD k f0).len ≤ 1099511627776 ∧ D[k]? = some (D.getD k f0) from by
    have hk2 : k < D.length := by rw [h.len]; exact hk
    have hx : D[k]? = some (D.getD k f0) := by rw [List.getD_eq_getElem?_getD, List.getElem?_eq_getElem hk2]; rfl
    exact ⟨h.each _ (List.mem_of_getElem? hx), hb _ (List.mem_of_getElem? hx), hx⟩))
  have HDN := Lib.hid h.len
  obtain ⟨i0, hi0, hz0, hz1, hz2⟩ := info_parts fle_info
  have HI := Lib.hid hi0
  have HZ0 := Lib.hid hz0
  have HZ1 := Lib.hid hz1
  have HZ2 := Lib.hid hz2
  obtain ⟨j0, hj0, hy0, hy1, hy2⟩ := info_parts u8_info12
  have JI := Lib.hid hj0
  have JZ0 := Lib.hid hy0
  have JZ1 := Lib.hid hy1
  have JZ2 := Lib.hid hy2
  have HNN := Lib.hid hn
  clear h hb hbase hcells hi0 hz0 hz1 hz2 hj0 hy0 hy1 hy2
  go_enter Tryz.func9, Tryz.ntmps9
  go_wp2_with fail
  go_loopw [3, 4] (fun v3 v4 wr => ∃ (k : Nat) (L : List Fle), k ≤ n ∧ v4 = .int .i64 k ∧ Hid (L.length = k) ∧ Hid (NewF w.heap.size wr v3 L) ∧ Hid (L.map Fle.fil = (D.take k).map Fle.fil) ∧ Hid (Below w.heap.size w wr)) (fun _ v4 _ => n - (intOf v4).toNat)
  case atStart => exact ⟨0, [], Nat.zero_le _, rfl, Lib.hid rfl, Lib.hid ⟨World.ownsRow_nil _ _ _ _, fun f hf => (by cases hf)⟩, Lib.hid rfl, Lib.hid (Below.refl _ _)⟩
  case round =>
    obtain ⟨k, L, hk, rfl, HLK, HNF, HMP, PB⟩ := hrel
    obtain ⟨V, rfl⟩ : ∃ wo : World, wo = wr := ⟨_, rfl⟩
    by_cases hlt : k < n
    · obtain rfl := HA.out (by omega)
      obtain ⟨c0, c1, c2⟩ := HCL.out V PB.out k hlt
      obtain ⟨hfl, hlb, hx⟩ := HFL.out k hlt
      have k1 : (k : Int) < n := by omega
      have k0 : (0 : Int) ≤ k := by omega
      have hw1 : IntKind.i64.wrap ((k : Int) + 1) = k + 1 := by rw [IntKind.wrap_i64]; omega
      obtain ⟨d, hd⟩ : ∃ d, d = D.getD k f0 := ⟨_, rfl⟩
      rw [← hd] at c0 c1 c2 hfl hlb hx
      have HX := Lib.hid hx
      have HFA := Lib.hid hfl
      have HLB := Lib.hid hlb
      have HRD := Lib.hid (hfl.rd.on PB.out)
      obtain ⟨dn, dd, dp, dl, dc, db⟩ := d
      simp only at c0 c1 c2
      have HCK := Lib.hid (fun (W : World) (b : Below w.heap.size w W) => show W.cell? ⟨g, o + k * 3, none⟩ = some (.string dn) ∧ W.cell? ⟨g, o + k * 3 + 1, none⟩ = some (.int .i64 dd) ∧ W.cell? ⟨g, o + k * 3 + 2, none⟩ = some (.slice dp dl dc) from by
        have := HCL.out W b k hlt
        rw [← hd] at this
        exact this)
      have HLE := Lib.hid (show db.length = dl ∧ dn.size ≤ maxLen ∧ dl ≤ 1099511627776 from ⟨hfl.len, hfl.nm, hlb⟩)
      have OL := Lib.hid (World.ownsRow_lit (base := V.heap.size) (e := 5) (size := 1) V #[] 0 (Nat.le_refl _) (Nat.zero_le _) rfl)
      have HLEN := Lib.hid (show L.length ≤ 1000 from by have := HLK.out; have := HNN.out; omega)
      have HPS := Lib.hid PB.out.size
      have HTK := Lib.hid (show (D.take (k + 1)).map Fle.fil = (D.take k).map Fle.fil ++ [(dn, dd, db)] from by rw [List.take_add_one, HX.out, List.map_append]; rfl)
      clear hx hfl hlb hd HFA HLB HX
      go_wp2_with fail
      go_region_held3 (fun w' => w'.cell? ⟨g, o + k * 3, none⟩ = some (.string dn) ∧ w'.cell? ⟨g, o + k * 3 + 1, none⟩ = some (.int .i64 dd) ∧ w'.cell? ⟨g, o + k * 3 + 2, none⟩ = some (.slice dp dl dc))
        (first | (with_reducible exact HCK.out _ PB.out.drew) | (with_reducible exact HCK.out _ (PB.out.alloc PB.out.size _).drew) | (with_reducible exact HCK.out _ B1.out) | (with_reducible exact HCK.out _ (B1.out.alloc B1.out.size _)) | (with_reducible exact HCK.out _ B2.out) | exact HCK.out _ (PB.out.alloc PB.out.size _).drew | exact HCK.out _ (B1.out.alloc B1.out.size _))
        (first
          | ((refine step_app_r (by rfl) (.tmp 22) (.tmp 27) 22 (by rfl) V.heap.size 5 j0 _ 1 1 Tryz.underlying22 JI.out JZ0.out JZ1.out JZ2.out rfl (by omega) (.slice (some ⟨V.heap.size, 0, none⟩) 0 0) 0 [] (by rfl) OL.out.drew dp dl dc (bL db) (by rfl) (by rw [bL_length, HLE.out.1, Nat.mul_one]) (rdb_news HLE.out.1 (HRD.out.on (((Below.refl _ _).alloc (Nat.le_refl _) _).drew))) (bL_one _) (by have := HLE.out.2.2; unfold maxLen; omega) (by have := HLE.out.2.2; omega) (by show V.heap.size ≤ (V.alloc _).heap.size; rw [World.size_alloc]; exact Nat.le_succ _) ?_); intro v1 w1 o1 h1; rw [Nat.zero_add, List.nil_append] at o1; obtain ⟨q1, p1, rfl⟩ := own_form12 o1; have PO1 := Lib.hid (own_other ((HNF.out.own.alloc (.cells #[] 5)).drew) OL.out.drew (by decide) h1); have E1 := Lib.hid (fun f hf => show OwnB w.heap.size w1 f from ⟨(HNF.out.each f hf).1, ((HNF.out.each f hf).2.alloc (.cells #[] 5)).drew.kept h1 (own_far14 (HNF.out.each f hf).2)⟩); have B1 := Lib.hid (((PB.out.alloc PB.out.size (.cells #[] 5)).drew).grown h1 (by show w.heap.size ≤ (V.alloc _).heap.size; rw [World.size_alloc]; exact Nat.le_succ_of_le HPS.out) (fun x e => by have e2 : V.heap.size = x := Option.some.inj e; have := HPS.out; omega)); have O1 := Lib.hid (show OwnB w.heap.size w1 ⟨dn, dd, q1, dl, p1, db⟩ from ⟨HLE.out.2.1, own_base14 o1 HPS.out⟩); clear o1 h1)
          | ((refine step_app_r (by rfl) (.tmp 11) (.tmp 30) 25 (by rfl) w.heap.size 24 i0 _ 3 48 Tryz.underlying25 HI.out HZ0.out HZ1.out HZ2.out rfl (by omega) u3 L.length (rowC encF L) (by rfl) (PO1.out.alloc _) (some ⟨w1.heap.size, 0, none⟩) 1 1 (encF ⟨dn, dd, q1, dl, p1, db⟩) (by rfl) rfl (fun _ => ⟨_, rfl, news_row w1 _ _⟩) (encF_one _) (by have := HLEN.out; unfold maxLen; omega) (by have := HLEN.out; omega) (by rw [World.size_alloc]; exact Nat.le_succ_of_le B1.out.size) ?_); intro v2 w2 o2 h2; have NF := Lib.hid (show NewF w.heap.size w2 v2 (L ++ [⟨dn, dd, q1, dl, p1, db⟩]) from ⟨by rw [List.length_append, List.length_singleton, rowC_app, rowC_one1]; exact o2, fun f hf => by
              have hf2 : OwnB w.heap.size w1 f := by
                rcases List.mem_append.1 hf with h | h
                · exact E1.out f h
                · rw [List.mem_singleton.1 h]; exact O1.out
              exact ⟨hf2.1, own_other (hf2.2.alloc _) (PO1.out.alloc _) (by decide) h2⟩⟩); have B2 := Lib.hid ((B1.out.alloc B1.out.size _).grown h2 (by rw [World.size_alloc]; exact Nat.le_succ_of_le B1.out.size) (fun x e => (PO1.out.lt x e).1)); clear o2 h2))
      all_goals
        go_wp2_with fail
        go_roundw
        case rel => exact ⟨k + 1, L ++ [⟨dn, dd, q1, dl, p1, db⟩], by omega, by go_num, Lib.hid (by rw [List.length_append, HLK.out]; rfl), NF, Lib.hid (by rw [HTK.out, List.map_append, HMP.out]; rfl), B2⟩
        case measure => simp [intOf]; omega
    · obtain rfl : k = n := by omega
      have k1 : ¬ (k : Int) < k := by omega
      have HMM := Lib.hid (show L.map Fle.fil = D.map Fle.fil from by rw [HMP.out, List.take_of_length_le (by rw [HDN.out]; exact Nat.le_refl _)])
      go_wp2_with fail
      go_ret
      first | exact ⟨u3, L, rfl, HNF.out, HMM.out, PB.out⟩ | exact ⟨u3, rfl, L, HNF.out, HMM.out, PB.out⟩
end Go.Proofs.YtgigdhincpcdbaaGreatDoor
