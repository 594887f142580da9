/- What the document's own Step returns, of any list; what its Fold returns. Conditions: a list of at most a million calls that can be read; values of at most 1,000 bytes, at most 100. A list of calls that came in. No condition. -/
import Derived.Test.YtanifiobfbfehaaGreatDoorTp
import Derived.Maps.AppendAt
import Derived.Test.YtanifiobfbfehaaGreatDoorTj
import Derived.Deep.Slices
import Derived.Deep.Fields
import Derived.ChangeSame
import Derived.Lib.SmallJoins
namespace Go.Proofs.YtanifiobfbfehaaGreatDoor
open Go.RowKit
set_option linter.unusedVariables false
set_option linter.unusedSimpArgs false
attribute [local go_sem ↓] Go.wp_at_zero Go.wp_at_succ

def foldK (sfx : Bool) (V : List ByteArray) (k : Nat) : (Nat × List Cl) × List (Int × ByteArray) := (V.take k).foldl (fun r x => ((stepC knownR grpX sfx x r.1).1, r.2 ++ (stepC knownR grpX sfx x r.1).2)) ((0, []), [])
theorem foldK_step {sfx : Bool} {V : List ByteArray} {k : Nat} {x : ByteArray} (h : V[k]? = some x) : foldK sfx V (k + 1) = ((stepC knownR grpX sfx x (foldK sfx V k).1).1, (foldK sfx V k).2 ++ (stepC knownR grpX sfx x (foldK sfx V k).1).2) := by
  unfold foldK
  rw [List.take_add_one, h, List.foldl_append]; rfl
theorem foldK_ok (sfx : Bool) (V : List ByteArray) : ∀ k, Okl knownR (foldK sfx V k).1.1 (foldK sfx V k).1.2
  | 0 => ⟨Nat.zero_le _, fun _ => rfl, List.Pairwise.nil, fun c hc => by cases hc⟩
  | k + 1 => by
    have ih := foldK_ok sfx V k
    cases hx : V[k]? with
    | none =>
      have : foldK sfx V (k + 1) = foldK sfx V k := by
        unfold foldK
        rw [List.take_add_one, hx]; simp
      rw [this]; exact ih
    | some x =>
      rw [foldK_step hx]
      exact step_ok grpX_known sfx x ih
theorem stepC_nts_le (sfx : Bool) (v : ByteArray) (s : Nat × List Cl) (hv : v.size ≤ 1000) : (stepC knownR grpX sfx v s).2.length ≤ 1000 := by
  unfold stepC
  split
  · exact Nat.zero_le _
  · refine Nat.le_trans (nts_le sfx _ _) (Nat.le_trans (wdL_len _) ?_)
    have : (turnR v).1.data.toList.length = (turnR v).1.size := by simp
    rw [this]
    unfold turnR
    split
    · show (bs (v.data.toList.drop 1)).size ≤ 1000
      rw [bs_size, List.length_drop]
      have : v.data.toList.length = v.size := by simp
      omega
    · exact hv
theorem foldK_nts (sfx : Bool) (V : List ByteArray) (hV : ∀ x ∈ V, x.size ≤ 1000) : ∀ k, (foldK sfx V k).2.length ≤ k * 1000
  | 0 => Nat.le_refl _
  | k + 1 => by
    have ih := foldK_nts sfx V hV k
    cases hx : V[k]? with
    | none =>
      have : foldK sfx V (k + 1) = foldK sfx V k := by
        unfold foldK
        rw [List.take_add_one, hx]; simp
      rw [this]; exact Nat.le_trans ih (Nat.mul_le_mul_right _ (Nat.le_succ k))
    | some x =>
      rw [foldK_step hx]
      have := stepC_nts_le sfx x (foldK sfx V k).1 (hV x (List.mem_of_getElem? hx))
      simp only [List.length_append]
      rw [Nat.succ_mul]
      exact Nat.add_le_add ih this
theorem stepA_ok {sfx : Bool} {v : ByteArray} {s : Nat × List Cl} (h : Okl knownR s.1 s.2) : stepA sfx v s = stepC knownR grpX sfx v s := by
  unfold stepA
  rw [if_pos (may_iff.2 h)]
section
variable {P : Program} {w : World}
theorem run_append_none16 (base : Nat) (t ty e : TypeId) (i : TypeInfo) (size c : Nat) (ht : P.underlying t = some (.slice e)) (hi : P.info? e = some i)
    (v : Value) (n : Nat) (xs : List Value) (hown : w.ownsRow base e size v n xs) :
    (Builtin.append_ #[t, t] ty #[v, .slice none 0 c]).run P w = .ok v w := by
  rcases hown.2 with ⟨rfl, rfl⟩ | ⟨g, cap, cur, rfl, _, _, hnc, _⟩
  · simp [Builtin.append_, run_underlying ht, sizeOf, typeInfo, hi, Builtin.lenOf, Builtin.firstCells]
  · simp [Builtin.append_, run_underlying ht, sizeOf, typeInfo, hi, Builtin.lenOf, Builtin.firstCells, hnc, storeCells]
/-- append(s, x...), x a row that lies somewhere, nil or not. -/
theorem wp_app16 {o : Oper} {a : Act} {K : Act → World → Prop} {Q : Exit → Act → World → Prop} (s x : Operand) (t : TypeId)
    (ho : o.op = .call { callee := .builtin .append, args := #[s, x], argTypes := #[t, t] })
    (base : Nat) (e : TypeId) (i : TypeInfo) (z : Value) (size bytes : Nat) (ht : P.underlying t = some (.slice e)) (hi : P.info? e = some i) (hz : i.zero = some z)
    (hsize : i.size = size) (hby : i.bytes = bytes) (hzs : z.cells.size = size) (hsz : 0 < size)
    (v : Value) (n : Nat) (xs : List Value) (hs : a.eval s = v) (hown : w.ownsRow base e size v n xs)
    (p : Option Addr) (m c : Nat) (news : List Value) (hx : a.eval x = .slice p m c) (hl : news.length = m * size) (hnews : 0 < m → ∃ ad, p = some ad ∧ ∀ j u, news[j]? = some u → w.cell? (ad.add j) = some u) (h1 : ∀ u ∈ news, u.oneCell' = true)
    (h63 : n + m ≤ maxLen) (hbytes : (n + m) * bytes ≤ 140737488355328) (hbase : base ≤ w.heap.size)
    (h : ∀ v' w', w'.ownsRow base e size v' (n + m) (xs ++ news) → w.grownBy w' v.ownBlock → K (a.put o.dst v') w') : o.wp P a w K Q := by
  cases p with
  | none =>
    have hm : m = 0 := by
      rcases Nat.eq_zero_or_pos m with h0 | h0
      · exact h0
      · obtain ⟨ad, e, _⟩ := hnews h0; cases e
    subst hm
    have hn0 : news = [] := List.eq_nil_of_length_eq_zero (by rw [hl]; omega)
    subst hn0
    have hr := run_append_none16 (P := P) base t o.type e i size c ht hi v n xs hown
    unfold Oper.wp execOp
    simp only [ho, resolve, invoke, builtin, Sem.run_bind, Sem.run_pure, Result.andThen_ok, List.map_toArray, List.map_cons, List.map_nil, hs, hx, hr]
    exact h v w (by rw [List.append_nil]; exact hown) ⟨rfl, rfl, rfl, Nat.le_refl _, fun _ _ _ => rfl⟩
  | some ad =>
    have hnews2 : ∀ j u, news[j]? = some u → w.cell? (ad.add j) = some u := fun j u hu => by
      have : 0 < m := by
        rcases Nat.eq_zero_or_pos m with h0 | h0
        · subst h0
          have : news = [] := List.eq_nil_of_length_eq_zero (by rw [hl]; omega)
          rw [this] at hu; simp at hu
        · exact h0
      obtain ⟨ad', e, hc⟩ := hnews this
      injection e with e
      subst e
      exact hc j u hu
    obtain ⟨v', w', hr, h2, h3, _, _⟩ := run_append_own_at (P := P) w base t o.type e i z size bytes ht hi hz hsize hby hzs hsz v n xs hown ad m c news hl hnews2 h1 h63 hbytes hbase
    unfold Oper.wp execOp
    simp only [ho, resolve, invoke, builtin, Sem.run_bind, Sem.run_pure, Result.andThen_ok, List.map_toArray, List.map_cons, List.map_nil, hs, hx, hr]
    exact h v' w' h2 h3
theorem wpList_app16 {ops : Array Oper} {rest : List Oper} {o : Oper} {a : Act} {Q : Exit → Act → World → Prop} (hgd : o.guard = none) (s x : Operand) (t : TypeId)
    (ho : o.op = .call { callee := .builtin .append, args := #[s, x], argTypes := #[t, t] })
    (base : Nat) (e : TypeId) (i : TypeInfo) (z : Value) (size bytes : Nat) (ht : P.underlying t = some (.slice e)) (hi : P.info? e = some i) (hz : i.zero = some z)
    (hsize : i.size = size) (hby : i.bytes = bytes) (hzs : z.cells.size = size) (hsz : 0 < size)
    (v : Value) (n : Nat) (xs : List Value) (hs : a.eval s = v) (hown : w.ownsRow base e size v n xs)
    (p : Option Addr) (m c : Nat) (news : List Value) (hx : a.eval x = .slice p m c) (hl : news.length = m * size) (hnews : 0 < m → ∃ ad, p = some ad ∧ ∀ j u, news[j]? = some u → w.cell? (ad.add j) = some u) (h1 : ∀ u ∈ news, u.oneCell' = true)
    (h63 : n + m ≤ maxLen) (hbytes : (n + m) * bytes ≤ 140737488355328) (hbase : base ≤ w.heap.size)
    (h : ∀ v' w', w'.ownsRow base e size v' (n + m) (xs ++ news) → w.grownBy w' v.ownBlock → wpList P ops Q rest (a.put o.dst v') w') : wpList P ops Q (o :: rest) a w :=
  wpList_plain hgd fun _ hK => wp_app16 s x t ho base e i z size bytes ht hi hz hsize hby hzs hsz v n xs hs hown p m c news hx hl hnews h1 h63 hbytes hbase fun v' w' h2 h3 => hK _ _ (h v' w' h2 h3)
theorem step_app16 {ops : Array Oper} {o : Oper} {a : Act} {K : Act → World → Prop} {Q : Exit → Act → World → Prop} {E : Prop} (hgd : o.guard = none) (s x : Operand) (t : TypeId)
    (ho : o.op = .call { callee := .builtin .append, args := #[s, x], argTypes := #[t, t] })
    (base : Nat) (e : TypeId) (i : TypeInfo) (z : Value) (size bytes : Nat) (ht : P.underlying t = some (.slice e)) (hi : P.info? e = some i) (hz : i.zero = some z)
    (hsize : i.size = size) (hby : i.bytes = bytes) (hzs : z.cells.size = size) (hsz : 0 < size)
    (v : Value) (n : Nat) (xs : List Value) (hs : a.eval s = v) (hown : w.ownsRow base e size v n xs)
    (p : Option Addr) (m c : Nat) (news : List Value) (hx : a.eval x = .slice p m c) (hl : news.length = m * size) (hnews : 0 < m → ∃ ad, p = some ad ∧ ∀ j u, news[j]? = some u → w.cell? (ad.add j) = some u) (h1 : ∀ u ∈ news, u.oneCell' = true)
    (h63 : n + m ≤ maxLen) (hbytes : (n + m) * bytes ≤ 140737488355328) (hbase : base ≤ w.heap.size)
    (h : ∀ v' w', w'.ownsRow base e size v' (n + m) (xs ++ news) → w.grownBy w' v.ownBlock → K (a.put o.dst v') w') :
    if Region.wanted o (yielded ops a.tmps) = true then Oper.wp P o a w K Q else E := by
  rw [if_pos (by unfold Region.wanted; rw [hgd])]
  exact wp_app16 s x t ho base e i z size bytes ht hi hz hsize hby hzs hsz v n xs hs hown p m c news hx hl hnews h1 h63 hbytes hbase h
end
/-- Strings that can be read. -/
abbrev FoldL (w w' : World) (e : Ending) (r : (Nat × List Cl) × List (Int × ByteArray)) : Prop := ∃ q n c vN, e = .returned (.tuple #[lsV r.1.1 q n c, vN]) ∧ n = r.1.2.length ∧ (r.1.2 = [] ∨ w'.ownsRow w.heap.size 71 2 (.slice q n c) n (rowC encC r.1.2)) ∧ w'.ownsRow w.heap.size 51 4 vN r.2.length (rowC encN (r.2.map nteS)) ∧ Below w.heap.size w w'
theorem FoldL.ls {w w' : World} {q : Option Addr} {n c : Nat} {L : List Cl} (h : L = [] ∨ w'.ownsRow w.heap.size 71 2 (.slice q n c) n (rowC encC L)) (hl : n = L.length) : LsAt w' q L := by
  rcases h with h | h
  · rw [h]; intro k c hk; simp at hk
  · exact LsAt.of_own h hl
/-- The state of Fold in memory: the result's cells, the list's box, the notes' row. -/
structure FW (w : World) (m : Nat) (L : List Cl) (q : Option Addr) (n c : Nat) (N : List Nte) (vN : Value) (W : World) : Prop where
  bel : Below w.heap.size w W
  res : W.heap[w.heap.size]? = some (.cells #[.int .u8 0, .slice none 0 0] 25 (0, 0))
  box : W.heap[w.heap.size + 1]? = some (.cells #[.int .u8 (m : Nat), .slice q n c] 25 (0, 0))
  len : n = L.length
  cur : L = [] ∨ W.ownsRow w.heap.size 71 2 (.slice q n c) n (rowC encC L)
  nts : W.ownsRow w.heap.size 51 4 vN N.length (rowC encN N)
section
variable {w : World} {m : Nat} {L : List Cl} {q : Option Addr} {n c : Nat} {N : List Nte} {vN : Value} {W : World}
theorem FW.ls (h : FW w m L q n c N vN W) : LsAt W q L := by
  rcases h.cur with h1 | h1
  · rw [h1]; intro k c hk; simp at hk
  · exact LsAt.of_own h1 h.len
theorem FW.lt (h : FW w m L q n c N vN W) : w.heap.size + 1 < W.heap.size := (Array.getElem?_eq_some_iff.1 h.box).1
theorem FW.x0 (h : FW w m L q n c N vN W) : W.cell? ⟨w.heap.size + 1, 0, none⟩ = some (.int .u8 (m : Nat)) := (cell_of_row W (w.heap.size + 1) 0 _ _ (0, 0) h.box).trans rfl
theorem FW.x1 (h : FW w m L q n c N vN W) : W.cell? ⟨w.heap.size + 1, 1, none⟩ = some (.slice q n c) := (cell_of_row W (w.heap.size + 1) 1 _ _ (0, 0) h.box).trans rfl
theorem FW.on {W' : World} (h : FW w m L q n c N vN W) (b : Below W.heap.size W W') : FW w m L q n c N vN W' :=
  have hl := h.lt
  ⟨thn16 h.bel b, (b.block _ (by omega)).trans h.res, (b.block _ (by omega)).trans h.box, h.len, h.cur.imp id (fun h1 => owns_on16 h1 b), owns_on16 h.nts b⟩
theorem ne_type16 {W : World} {k k' : Nat} {cs cs' : Array Value} {t t' : TypeId} {fz fz' : Nat × Nat} (h : W.heap[k]? = some (.cells cs t fz)) (h' : W.heap[k']? = some (.cells cs' t' fz')) (ht : t ≠ t') : k ≠ k' := fun e => by
  subst e
  rw [h] at h'
  injection h' with h'
  injection h' with _ e _
  exact ht e
/-- A list, stored into a box of its type, leaves rows of other types. -/
theorem own_box16 {b : Nat} {cs : Array Value} {fz : Nat × Nat} (hb : W.heap[b]? = some (.cells cs 25 fz)) {B s k : Nat} {t : TypeId} (ht : t ≠ 25) {u : Value} {xs : List Value} (ho : W.ownsRow B t s u k xs) (l : List Value) : (W.setCells b 0 l).ownsRow B t s u k xs := owns_same16 ho fun g cs fz _ hk => (heap_setCells16 W _ _ (ne_type16 hk hb ht) _ _).trans hk
/-- The list's box takes another list; the notes grow. -/
theorem FW.next (h : FW w m L q n c N vN W) {m' : Nat} {L' : List Cl} {q' : Option Addr} {n' c' : Nat} (hl : n' = L'.length) (hc : L' = [] ∨ W.ownsRow w.heap.size 71 2 (.slice q' n' c') n' (rowC encC L')) :
    FW w m' L' q' n' c' N vN (W.setCells (w.heap.size + 1) 0 [.int .u8 (m' : Nat), .slice q' n' c']) :=
  ⟨below_setCells16 (by omega) _ _ _ h.bel, (heap_setCells16 W _ _ (by omega) _ _).trans h.res, by
    have hb := h.box
    simp [World.setCells, World.setCell, Array.getElem?_modify, hb], hl, hc.imp id (fun h1 => own_box16 h.box (by decide) h1 _), own_box16 h.box (by decide) h.nts _⟩
theorem FW.note (h : FW w m L q n c N vN W) {wA : World} {v' : Value} {N' : List Nte} (hg : W.grownBy wA vN.ownBlock) (hO : wA.ownsRow w.heap.size 51 4 v' N'.length (rowC encN N')) : FW w m L q n c N' v' wA := by
  have hl := h.lt
  have keep : ∀ {k : Nat} {cs : Array Value} {t : TypeId} {fz : Nat × Nat}, W.heap[k]? = some (.cells cs t fz) → t ≠ 51 → wA.heap[k]? = some (.cells cs t fz) := fun {k} {cs} {t} {fz} hk ht => by
    refine (hg.block k (Array.getElem?_eq_some_iff.1 hk).1 (fun e => ?_)).trans hk
    rcases h.nts.2 with ⟨hv, _⟩ | ⟨g, cap, cur, hv, hB, hg2, _⟩
    · rw [hv] at e; cases e
    · rw [hv] at e
      have e2 : k = g := Option.some.inj e
      exact ne_type16 hk hg2 ht e2
  exact ⟨h.bel.grown hg (by omega) (fun k e => (h.nts.lt k e).1), keep h.res (by decide), keep h.box (by decide), h.len, h.cur.imp id (fun h1 => owns_same16 h1 fun g cs fz _ hk => keep hk (by decide)), hO⟩
end
end Go.Proofs.YtanifiobfbfehaaGreatDoor
namespace Go.Proofs.YtanifiobfbfehaaGreatDoor
open Go.ChangeShapes Go.WideShapes Go.ChangeAt Go.RowKit
set_option linter.unusedVariables false
set_option linter.unusedSimpArgs false

section
variable {H : Type} {enc : TypeId × Value → H} {P : Program} {w : World} {base : Nat} {spare : Nat → Bool} {held : Bool}
end
end Go.Proofs.YtanifiobfbfehaaGreatDoor
