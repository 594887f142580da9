/- What the document's own Step returns, of any list; what its Fold returns. Conditions: a list of at most a million calls that can be read; values of at most 1,000 bytes, at most 100. A list of calls that came in. No condition. -/
import Derived.Test.YtbjhleajhkofeaaDoorTn
import Derived.Maps.AppendAt
import Derived.Test.YtbjhleajhkofeaaDoorTj
import Derived.Deep.Slices
import Derived.Deep.Fields
import Derived.ChangeSame
import Derived.Lib.SmallJoins
namespace Go.Proofs.YtbjhleajhkofeaaDoor
open Go.RowKit
set_option linter.unusedVariables false
set_option linter.unusedSimpArgs false
attribute [local go_sem ↓] Go.wp_at_zero Go.wp_at_succ

section
variable {P : Program} {w : World}
theorem run_append_none16 (base : Nat) (t ty e : TypeId) (i : TypeInfo) (size c : Nat) (ht : P.underlying t = some (.slice e)) (hi : P.info? e = some i)
    (v : Value) (n : Nat) (xs : List Value) (hown : w.ownsRow base e size v n xs) :
    (Builtin.append_ #[t, t] ty #[v, .slice none 0 c]).run P w = .ok v w := by
  rcases hown.2 with ⟨rfl, rfl⟩ | ⟨g, cap, cur, rfl, _, _, hnc, _⟩
  · simp [Builtin.append_, run_underlying ht, sizeOf, typeInfo, hi, Builtin.lenOf, Builtin.firstCells]
  · simp [Builtin.append_, run_underlying ht, sizeOf, typeInfo, hi, Builtin.lenOf, Builtin.firstCells, hnc, storeCells]
/-- append(s, x...), x a row that lies somewhere, nil or not. -/
theorem wp_app16 {o : Oper} {a : Act} {K : Act → World → Prop} {Q : Exit → Act → World → Prop} (s x : Operand) (t : TypeId)
    (ho : o.op = .call { callee := .builtin .append, args := #[s, x], argTypes := #[t, t] })
    (base : Nat) (e : TypeId) (i : TypeInfo) (z : Value) (size bytes : Nat) (ht : P.underlying t = some (.slice e)) (hi : P.info? e = some i) (hz : i.zero = some z)
    (hsize : i.size = size) (hby : i.bytes = bytes) (hzs : z.cells.size = size) (hsz : 0 < size)
    (v : Value) (n : Nat) (xs : List Value) (hs : a.eval s = v) (hown : w.ownsRow base e size v n xs)
    (p : Option Addr) (m c : Nat) (news : List Value) (hx : a.eval x = .slice p m c) (hl : news.length = m * size) (hnews : 0 < m → ∃ ad, p = some ad ∧ ∀ j u, news[j]? = some u → w.cell? (ad.add j) = some u) (h1 : ∀ u ∈ news, u.oneCell' = true)
    (h63 : n + m ≤ maxLen) (hbytes : (n + m) * bytes ≤ 140737488355328) (hbase : base ≤ w.heap.size)
    (h : ∀ v' w', w'.ownsRow base e size v' (n + m) (xs ++ news) → w.grownBy w' v.ownBlock → K (a.put o.dst v') w') : o.wp P a w K Q := by
  cases p with
  | none =>
    have hm : m = 0 := by
      rcases Nat.eq_zero_or_pos m with h0 | h0
      · exact h0
      · obtain ⟨ad, e, _⟩ := hnews h0; cases e
    subst hm
    have hn0 : news = [] := List.eq_nil_of_length_eq_zero (by rw [hl]; omega)
    subst hn0
    have hr := run_append_none16 (P := P) base t o.type e i size c ht hi v n xs hown
    unfold Oper.wp execOp
    simp only [ho, resolve, invoke, builtin, Sem.run_bind, Sem.run_pure, Result.andThen_ok, List.map_toArray, List.map_cons, List.map_nil, hs, hx, hr]
    exact h v w (by rw [List.append_nil]; exact hown) ⟨rfl, rfl, rfl, Nat.le_refl _, fun _ _ _ => rfl⟩
  | some ad =>
    have hnews2 : ∀ j u, news[j]? = some u → w.cell? (ad.add j) = some u := fun j u hu => by
      have : 0 < m := by
        rcases Nat.eq_zero_or_pos m with h0 | h0
        · subst h0
          have : news = [] := List.eq_nil_of_length_eq_zero (by rw [hl]; omega)
          rw [this] at hu; simp at hu
        · exact h0
      obtain ⟨ad', e, hc⟩ := hnews this
      injection e with e
      subst e
      exact hc j u hu
    obtain ⟨v', w', hr, h2, h3, _, _⟩ := run_append_own_at (P := P) w base t o.type e i z size bytes ht hi hz hsize hby hzs hsz v n xs hown ad m c news hl hnews2 h1 h63 hbytes hbase
    unfold Oper.wp execOp
    simp only [ho, resolve, invoke, builtin, Sem.run_bind, Sem.run_pure, Result.andThen_ok, List.map_toArray, List.map_cons, List.map_nil, hs, hx, hr]
    exact h v' w' h2 h3
theorem wpList_app16 {ops : Array Oper} {rest : List Oper} {o : Oper} {a : Act} {Q : Exit → Act → World → Prop} (hgd : o.guard = none) (s x : Operand) (t : TypeId)
    (ho : o.op = .call { callee := .builtin .append, args := #[s, x], argTypes := #[t, t] })
    (base : Nat) (e : TypeId) (i : TypeInfo) (z : Value) (size bytes : Nat) (ht : P.underlying t = some (.slice e)) (hi : P.info? e = some i) (hz : i.zero = some z)
    (hsize : i.size = size) (hby : i.bytes = bytes) (hzs : z.cells.size = size) (hsz : 0 < size)
    (v : Value) (n : Nat) (xs : List Value) (hs : a.eval s = v) (hown : w.ownsRow base e size v n xs)
    (p : Option Addr) (m c : Nat) (news : List Value) (hx : a.eval x = .slice p m c) (hl : news.length = m * size) (hnews : 0 < m → ∃ ad, p = some ad ∧ ∀ j u, news[j]? = some u → w.cell? (ad.add j) = some u) (h1 : ∀ u ∈ news, u.oneCell' = true)
    (h63 : n + m ≤ maxLen) (hbytes : (n + m) * bytes ≤ 140737488355328) (hbase : base ≤ w.heap.size)
    (h : ∀ v' w', w'.ownsRow base e size v' (n + m) (xs ++ news) → w.grownBy w' v.ownBlock → wpList P ops Q rest (a.put o.dst v') w') : wpList P ops Q (o :: rest) a w :=
  wpList_plain hgd fun _ hK => wp_app16 s x t ho base e i z size bytes ht hi hz hsize hby hzs hsz v n xs hs hown p m c news hx hl hnews h1 h63 hbytes hbase fun v' w' h2 h3 => hK _ _ (h v' w' h2 h3)
theorem step_app16 {ops : Array Oper} {o : Oper} {a : Act} {K : Act → World → Prop} {Q : Exit → Act → World → Prop} {E : Prop} (hgd : o.guard = none) (s x : Operand) (t : TypeId)
    (ho : o.op = .call { callee := .builtin .append, args := #[s, x], argTypes := #[t, t] })
    (base : Nat) (e : TypeId) (i : TypeInfo) (z : Value) (size bytes : Nat) (ht : P.underlying t = some (.slice e)) (hi : P.info? e = some i) (hz : i.zero = some z)
    (hsize : i.size = size) (hby : i.bytes = bytes) (hzs : z.cells.size = size) (hsz : 0 < size)
    (v : Value) (n : Nat) (xs : List Value) (hs : a.eval s = v) (hown : w.ownsRow base e size v n xs)
    (p : Option Addr) (m c : Nat) (news : List Value) (hx : a.eval x = .slice p m c) (hl : news.length = m * size) (hnews : 0 < m → ∃ ad, p = some ad ∧ ∀ j u, news[j]? = some u → w.cell? (ad.add j) = some u) (h1 : ∀ u ∈ news, u.oneCell' = true)
    (h63 : n + m ≤ maxLen) (hbytes : (n + m) * bytes ≤ 140737488355328) (hbase : base ≤ w.heap.size)
    (h : ∀ v' w', w'.ownsRow base e size v' (n + m) (xs ++ news) → w.grownBy w' v.ownBlock → K (a.put o.dst v') w') :
    if Region.wanted o (yielded ops a.tmps) = true then Oper.wp P o a w K Q else E := by
  rw [if_pos (by unfold Region.wanted; rw [hgd])]
  exact wp_app16 s x t ho base e i z size bytes ht hi hz hsize hby hzs hsz v n xs hs hown p m c news hx hl hnews h1 h63 hbytes hbase h
end
/-- Strings that can be read. -/
abbrev FoldL (w w' : World) (e : Ending) (r : (Nat × List Cl) × List (Int × ByteArray)) : Prop := ∃ q n c vN, e = .returned (.tuple #[lsV r.1.1 q n c, vN]) ∧ n = r.1.2.length ∧ (r.1.2 = [] ∨ w'.ownsRow w.heap.size 82 2 (.slice q n c) n (rowC encC r.1.2)) ∧ w'.ownsRow w.heap.size 43 4 vN r.2.length (rowC encN (r.2.map nteS)) ∧ Below w.heap.size w w'
theorem FoldL.ls {w w' : World} {q : Option Addr} {n c : Nat} {L : List Cl} (h : L = [] ∨ w'.ownsRow w.heap.size 82 2 (.slice q n c) n (rowC encC L)) (hl : n = L.length) : LsAt w' q L := by
  rcases h with h | h
  · rw [h]; intro k c hk; simp at hk
  · exact LsAt.of_own h hl
/-- The state of Fold in memory: the result's cells, the list's box, the notes' row. -/
structure FW (w : World) (m : Nat) (L : List Cl) (q : Option Addr) (n c : Nat) (N : List Nte) (vN : Value) (W : World) : Prop where
  bel : Below w.heap.size w W
  res : W.heap[w.heap.size]? = some (.cells #[.int .u8 0, .slice none 0 0] 27 (0, 0))
  box : W.heap[w.heap.size + 1]? = some (.cells #[.int .u8 (m : Nat), .slice q n c] 27 (0, 0))
  len : n = L.length
  cur : L = [] ∨ W.ownsRow w.heap.size 82 2 (.slice q n c) n (rowC encC L)
  nts : W.ownsRow w.heap.size 43 4 vN N.length (rowC encN N)
section
variable {w : World} {m : Nat} {L : List Cl} {q : Option Addr} {n c : Nat} {N : List Nte} {vN : Value} {W : World}
theorem FW.ls (h : FW w m L q n c N vN W) : LsAt W q L := by
  rcases h.cur with h1 | h1
  · rw [h1]; intro k c hk; simp at hk
  · exact LsAt.of_own h1 h.len
theorem FW.lt (h : FW w m L q n c N vN W) : w.heap.size + 1 < W.heap.size := (Array.getElem?_eq_some_iff.1 h.box).1
theorem FW.x0 (h : FW w m L q n c N vN W) : W.cell? ⟨w.heap.size + 1, 0, none⟩ = some (.int .u8 (m : Nat)) := (cell_of_row W (w.heap.size + 1) 0 _ _ (0, 0) h.box).trans rfl
theorem FW.x1 (h : FW w m L q n c N vN W) : W.cell? ⟨w.heap.size + 1, 1, none⟩ = some (.slice q n c) := (cell_of_row W (w.heap.size + 1) 1 _ _ (0, 0) h.box).trans rfl
theorem FW.on {W' : World} (h : FW w m L q n c N vN W) (b : Below W.heap.size W W') : FW w m L q n c N vN W' :=
  have hl := h.lt
  ⟨thn16 h.bel b, (b.block _ (by omega)).trans h.res, (b.block _ (by omega)).trans h.box, h.len, h.cur.imp id (fun h1 => owns_on16 h1 b), owns_on16 h.nts b⟩
theorem ne_type16 {W : World} {k k' : Nat} {cs cs' : Array Value} {t t' : TypeId} {fz fz' : Nat × Nat} (h : W.heap[k]? = some (.cells cs t fz)) (h' : W.heap[k']? = some (.cells cs' t' fz')) (ht : t ≠ t') : k ≠ k' := fun e => by
  subst e
  rw [h] at h'
  injection h' with h'
  injection h' with _ e _
  exact ht e
/-- A list, stored into a box of its type, leaves rows of other types. -/
theorem own_box16 {b : Nat} {cs : Array Value} {fz : Nat × Nat} (hb : W.heap[b]? = some (.cells cs 27 fz)) {B s k : Nat} {t : TypeId} (ht : t ≠ 27) {u : Value} {xs : List Value} (ho : W.ownsRow B t s u k xs) (l : List Value) : (W.setCells b 0 l).ownsRow B t s u k xs := owns_same16 ho fun g cs fz _ hk => (heap_setCells16 W _ _ (ne_type16 hk hb ht) _ _).trans hk
/-- The list's box takes another list; the notes grow. -/
theorem FW.next (h : FW w m L q n c N vN W) {m' : Nat} {L' : List Cl} {q' : Option Addr} {n' c' : Nat} (hl : n' = L'.length) (hc : L' = [] ∨ W.ownsRow w.heap.size 82 2 (.slice q' n' c') n' (rowC encC L')) :
    FW w m' L' q' n' c' N vN (W.setCells (w.heap.size + 1) 0 [.int .u8 (m' : Nat), .slice q' n' c']) :=
  ⟨below_setCells16 (by omega) _ _ _ h.bel, (heap_setCells16 W _ _ (by omega) _ _).trans h.res, by
    have hb := h.box
    simp [World.setCells, World.setCell, Array.getElem?_modify, hb], hl, hc.imp id (fun h1 => own_box16 h.box (by decide) h1 _), own_box16 h.box (by decide) h.nts _⟩
theorem FW.note (h : FW w m L q n c N vN W) {wA : World} {v' : Value} {N' : List Nte} (hg : W.grownBy wA vN.ownBlock) (hO : wA.ownsRow w.heap.size 43 4 v' N'.length (rowC encN N')) : FW w m L q n c N' v' wA := by
  have hl := h.lt
  have keep : ∀ {k : Nat} {cs : Array Value} {t : TypeId} {fz : Nat × Nat}, W.heap[k]? = some (.cells cs t fz) → t ≠ 43 → wA.heap[k]? = some (.cells cs t fz) := fun {k} {cs} {t} {fz} hk ht => by
    refine (hg.block k (Array.getElem?_eq_some_iff.1 hk).1 (fun e => ?_)).trans hk
    rcases h.nts.2 with ⟨hv, _⟩ | ⟨g, cap, cur, hv, hB, hg2, _⟩
    · rw [hv] at e; cases e
    · rw [hv] at e
      have e2 : k = g := Option.some.inj e
      exact ne_type16 hk hg2 ht e2
  exact ⟨h.bel.grown hg (by omega) (fun k e => (h.nts.lt k e).1), keep h.res (by decide), keep h.box (by decide), h.len, h.cur.imp id (fun h1 => owns_same16 h1 fun g cs fz _ hk => keep hk (by decide)), hO⟩
end
end Go.Proofs.YtbjhleajhkofeaaDoor
namespace Go.Proofs.YtbjhleajhkofeaaDoor
open Go.ChangeShapes Go.WideShapes Go.ChangeAt Go.RowKit
set_option linter.unusedVariables false
set_option linter.unusedSimpArgs false

section
variable {H : Type} {enc : TypeId × Value → H} {P : Program} {w : World} {base : Nat} {spare : Nat → Bool} {held : Bool}
open Go.Deep in
/-- A slice of structs of one-cell fields, opened field by field. -/
theorem open_fields16 {t e : TypeId} {fs : Array Field} {fuel : Nat} {cs : List Value} {x : DataW H × List MemPlace} (ht : P.underlying t = some (.slice e)) (he : P.underlying e = some (.struct fs))
    (hone : oneCellFields P fs = true) (hC : P.cellsOf e = fs.size) (h : DataW.trod enc P w base spare held fuel t cs = some x) :
    (cs = [.slice none 0 0] ∧ x = (.nil, [])) ∨
    ∃ (a : Addr) (len cap m : Nat), cs = [.slice (some a) len cap] ∧ len ≤ cap ∧ cap ≤ maxLen ∧ m = (if spare a.block then cap else len) ∧
      ∀ i, i < m → ∀ (j : Nat) (f : Field), fs[j]? = some f → ∃ (v : Value) (y : DataW H × List MemPlace) (n : Nat), w.cell? (a.add (i * fs.size + j)) = some v ∧ DataW.trod enc P w base spare held n f.type [v] = some y := by
  rcases open_slice ht h with h0 | ⟨a, len, cap, m, n, D, Pl, hcs, hb, hl, hm, hmm, hx, hi⟩
  · exact .inl h0
  · refine .inr ⟨a, len, cap, m, hcs, hl, hm, hmm, fun i him j f hj => ?_⟩
    obtain ⟨cs', hc, ht'⟩ := hi i him
    rw [hC] at hc
    obtain ⟨ys, n', hn', hy, hlen, hyl, hf⟩ := DataW.trod_struct he ht'
    obtain ⟨_, hcl, hat⟩ := World.cells?_some hc
    obtain ⟨ho, hk⟩ := hone_of hone j f hj
    have hjl : j < fs.size := (Array.getElem?_eq_some_iff.1 hj).1
    have hcell := hat j hjl
    have hv : cs'[j]? = some (cs'[j]'(by omega)) := List.getElem?_eq_getElem (by omega)
    have h1 := hf j f hj
    rw [ho, hk] at h1
    have hone' : (cs'.drop j).take 1 = [cs'[j]'(by omega)] := by
      rw [List.drop_eq_getElem_cons (by omega)]
      rfl
    rw [hone'] at h1
    have hys : ys[j]? = some (ys[j]'(by omega)) := List.getElem?_eq_getElem (by omega)
    refine ⟨_, _, n', ?_, h1.trans hys⟩
    rw [← Go.Deep.add_add, hcell, hv]
end
/-- What is known of a slice of calls that came in. -/
structure IsCalls (w : World) (a : Option Addr) (len cap : Nat) (z : List Cl) : Prop where
  size : z.length = len
  rng : ∀ y ∈ z, y.1.size ≤ maxLen ∧ y.2 < 4294967296
  fits : len ≤ cap
  most : cap ≤ maxLen
  rd : LsAt w a z
theorem calls_open {H : Type} {enc : TypeId × Value → H} {W : World} {a : Option Addr} {len cap : Nat} {d : DataW H} {p : List MemPlace}
    (h : DataW.Trod enc Tryd.prog W 0 (fun _ => true) true 25 (.slice a len cap) d p) (lt : ∀ x ∈ p, x.block < W.heap.size) : ∃ z, IsCalls W a len cap z := by
  obtain ⟨fuel, hf⟩ := h
  rcases open_fields16 Tryd.underlying25 Tryd.underlying82 (by kernel_rfl) (by kernel_rfl) hf with ⟨hcs, _⟩ | ⟨x, l, c, m, hcs, hl, hm, hmm, hx⟩
  · simp [Value.cells] at hcs
    obtain ⟨rfl, rfl, rfl⟩ := hcs
    exact ⟨[], rfl, (fun y hy => by cases hy), Nat.le_refl _, by unfold maxLen; omega, (fun k c hk => by simp at hk)⟩
  · simp [Value.cells] at hcs
    obtain ⟨rfl, rfl, rfl⟩ := hcs
    simp only [if_true] at hmm
    subst hmm
    have each : ∀ i, i < len → ∃ z : Cl, (z.1.size ≤ maxLen ∧ z.2 < 4294967296) ∧ W.cell? (x.add (i * 2)) = some (.string z.1) ∧ W.cell? (x.add (i * 2 + 1)) = some (.int .u32 (z.2 : Nat)) := by
      intro i hi
      obtain ⟨v0, y0, n0, c0, t0⟩ := hx i (by omega) 0 _ rfl
      obtain ⟨v1, y1, n1, c1, t1⟩ := hx i (by omega) 1 _ rfl
      obtain ⟨z0, e0, _, w0⟩ := DataW.trod_string Tryd.underlying9 t0
      obtain ⟨z1, e1, _, w1⟩ := DataW.trod_int Tryd.underlying28 t1
      simp at e0 e1
      subst e0 e1
      have hb : 0 ≤ z1 ∧ z1 ≤ 4294967295 := bounds_u32 w1
      refine ⟨(z0, z1.toNat), ⟨w0, by show z1.toNat < 4294967296; omega⟩, c0, ?_⟩
      show _ = some (Value.int .u32 ((z1.toNat : Nat) : Int))
      rw [Int.toNat_of_nonneg hb.1]
      exact c1
    obtain ⟨Z, hZ⟩ := Go.Deep.choose_lt each
    refine ⟨(List.range len).map Z, by simp, fun z hz => ?_, hl, hm, fun k c hk => ?_⟩
    · obtain ⟨i, hi, rfl⟩ := List.mem_map.1 hz
      exact (hZ i (List.mem_range.1 hi)).1
    · have hkl : k < len := by have := (List.getElem?_eq_some_iff.1 hk).1; simpa using this
      rw [List.getElem?_map, List.getElem?_range hkl] at hk
      obtain rfl : Z k = c := Option.some.inj hk
      obtain ⟨b, o, s⟩ := x
      have hc := (hZ 0 (by omega)).2.1
      have hs : s = none := by simpa [Addr.add] using World.cell?_spot hc
      subst hs
      obtain ⟨_, c0, c1⟩ := hZ k hkl
      rw [Addr.add_lit] at c0 c1
      rw [← Nat.add_assoc] at c1
      exact ⟨b, o, rfl, c0, c1⟩
end Go.Proofs.YtbjhleajhkofeaaDoor
