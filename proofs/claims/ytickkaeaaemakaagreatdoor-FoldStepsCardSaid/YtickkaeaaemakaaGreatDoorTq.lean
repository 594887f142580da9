/- What the document's own Step returns, of any list; what its Fold returns. Conditions: a list of at most a million calls that can be read; values of at most 1,000 bytes, at most 100. -/
import Derived.Test.YtickkaeaaemakaaGreatDoorTp
import Derived.Maps.AppendAt
namespace Go.Proofs.YtickkaeaaemakaaGreatDoor
open Go.RowKit
set_option linter.unusedVariables false
set_option linter.unusedSimpArgs false
attribute [local go_sem ↓] Go.wp_at_zero Go.wp_at_succ

theorem refStep16 (m : Nat) (q : Option Addr) (n cap : Nat) (L : List Cl) (v : ByteArray) (sfx : Bool) (w : World) (hv : v.size ≤ 1000) (hl : L.length = n) (hn : n ≤ 1000000) (ha : ∀ c ∈ L, c.2 < 4294967296) (h : LsAt w q L) : Calls Tryz.prog 12 #[lsV m q n cap, .string v, .bool sfx] w fun e w' => StepL q n cap L w w' e (stepA sfx v (m, L)) := by
  unfold stepA
  cases hm : mayR knownR m L with
  | false => rw [if_neg Bool.noConfusion]; exact refStep_no m q n cap L v sfx w hl hn ha h hm
  | true =>
    rw [if_pos rfl]
    by_cases h0 : wdL v.data.toList = []
    · rw [show stepC knownR grpX sfx v (m, L) = ((0, []), []) by unfold stepC; rw [if_pos h0]]
      exact refStep_nil m q n cap L v sfx w hv hl hn ha h hm h0
    · exact refStep_go m q n cap L v sfx w hv hl hn ha h hm h0
/-- What values come to, from a list on. -/
def foldA (sfx : Bool) : List ByteArray → (Nat × List Cl) × List (Int × ByteArray)
  | [] => ((0, []), [])
  | v => (v.foldl (fun r x => ((stepC knownR grpX sfx x r.1).1, r.2 ++ (stepC knownR grpX sfx x r.1).2)) ((0, []), []))
def foldK (sfx : Bool) (V : List ByteArray) (k : Nat) : (Nat × List Cl) × List (Int × ByteArray) := (V.take k).foldl (fun r x => ((stepC knownR grpX sfx x r.1).1, r.2 ++ (stepC knownR grpX sfx x r.1).2)) ((0, []), [])
theorem foldK_step {sfx : Bool} {V : List ByteArray} {k : Nat} {x : ByteArray} (h : V[k]? = some x) : foldK sfx V (k + 1) = ((stepC knownR grpX sfx x (foldK sfx V k).1).1, (foldK sfx V k).2 ++ (stepC knownR grpX sfx x (foldK sfx V k).1).2) := by
  unfold foldK
  rw [List.take_add_one, h, List.foldl_append]; rfl
theorem foldK_ok (sfx : Bool) (V : List ByteArray) : ∀ k, Okl knownR (foldK sfx V k).1.1 (foldK sfx V k).1.2
  | 0 => ⟨Nat.zero_le _, fun _ => rfl, List.Pairwise.nil, fun c hc => by cases hc⟩
  | k + 1 => by
    have ih := foldK_ok sfx V k
    cases hx : V[k]? with
    | none =>
      have : foldK sfx V (k + 1) = foldK sfx V k := by
        unfold foldK
        rw [List.take_add_one, hx]; simp
      rw [this]; exact ih
    | some x =>
      rw [foldK_step hx]
      exact step_ok grpX_known sfx x ih
theorem stepC_nts_le (sfx : Bool) (v : ByteArray) (s : Nat × List Cl) (hv : v.size ≤ 1000) : (stepC knownR grpX sfx v s).2.length ≤ 1000 := by
  unfold stepC
  split
  · exact Nat.zero_le _
  · refine Nat.le_trans (nts_le sfx _ _) (Nat.le_trans (wdL_len _) ?_)
    have : (turnR v).1.data.toList.length = (turnR v).1.size := by simp
    rw [this]
    unfold turnR
    split
    · show (bs (v.data.toList.drop 1)).size ≤ 1000
      rw [bs_size, List.length_drop]
      have : v.data.toList.length = v.size := by simp
      omega
    · exact hv
theorem foldK_nts (sfx : Bool) (V : List ByteArray) (hV : ∀ x ∈ V, x.size ≤ 1000) : ∀ k, (foldK sfx V k).2.length ≤ k * 1000
  | 0 => Nat.le_refl _
  | k + 1 => by
    have ih := foldK_nts sfx V hV k
    cases hx : V[k]? with
    | none =>
      have : foldK sfx V (k + 1) = foldK sfx V k := by
        unfold foldK
        rw [List.take_add_one, hx]; simp
      rw [this]; exact Nat.le_trans ih (Nat.mul_le_mul_right _ (Nat.le_succ k))
    | some x =>
      rw [foldK_step hx]
      have := stepC_nts_le sfx x (foldK sfx V k).1 (hV x (List.mem_of_getElem? hx))
      simp only [List.length_append]
      rw [Nat.succ_mul]
      exact Nat.add_le_add ih this
theorem stepA_ok {sfx : Bool} {v : ByteArray} {s : Nat × List Cl} (h : Okl knownR s.1 s.2) : stepA sfx v s = stepC knownR grpX sfx v s := by
  unfold stepA
  rw [if_pos (may_iff.2 h)]
section
variable {P : Program} {w : World}
theorem run_append_none16 (base : Nat) (t ty e : TypeId) (i : TypeInfo) (size c : Nat) (ht : P.underlying t = some (.slice e)) (hi : P.info? e = some i)
    (v : Value) (n : Nat) (xs : List Value) (hown : w.ownsRow base e size v n xs) :
    (Builtin.append_ #[t, t] ty #[v, .slice none 0 c]).run P w = .ok v w := by
  rcases hown.2 with ⟨rfl, rfl⟩ | ⟨g, cap, cur, rfl, _, _, hnc, _⟩
  · simp [Builtin.append_, run_underlying ht, sizeOf, typeInfo, hi, Builtin.lenOf, Builtin.firstCells]
  · simp [Builtin.append_, run_underlying ht, sizeOf, typeInfo, hi, Builtin.lenOf, Builtin.firstCells, hnc, storeCells]
/-- append(s, x...), x a row that lies somewhere, nil or not. -/
theorem wp_app16 {o : Oper} {a : Act} {K : Act → World → Prop} {Q : Exit → Act → World → Prop} (s x : Operand) (t : TypeId)
    (ho : o.op = .call { callee := .builtin .append, args := #[s, x], argTypes := #[t, t] })
    (base : Nat) (e : TypeId) (i : TypeInfo) (z : Value) (size bytes : Nat) (ht : P.underlying t = some (.slice e)) (hi : P.info? e = some i) (hz : i.zero = some z)
    (hsize : i.size = size) (hby : i.bytes = bytes) (hzs : z.cells.size = size) (hsz : 0 < size)
    (v : Value) (n : Nat) (xs : List Value) (hs : a.eval s = v) (hown : w.ownsRow base e size v n xs)
    (p : Option Addr) (m c : Nat) (news : List Value) (hx : a.eval x = .slice p m c) (hl : news.length = m * size) (hnews : 0 < m → ∃ ad, p = some ad ∧ ∀ j u, news[j]? = some u → w.cell? (ad.add j) = some u) (h1 : ∀ u ∈ news, u.oneCell' = true)
    (h63 : n + m ≤ maxLen) (hbytes : (n + m) * bytes ≤ 140737488355328) (hbase : base ≤ w.heap.size)
    (h : ∀ v' w', w'.ownsRow base e size v' (n + m) (xs ++ news) → w.grownBy w' v.ownBlock → K (a.put o.dst v') w') : o.wp P a w K Q := by
  cases p with
  | none =>
    have hm : m = 0 := by
      rcases Nat.eq_zero_or_pos m with h0 | h0
      · exact h0
      · obtain ⟨ad, e, _⟩ := hnews h0; cases e
    subst hm
    have hn0 : news = [] := List.eq_nil_of_length_eq_zero (by rw [hl]; omega)
    subst hn0
    have hr := run_append_none16 (P := P) base t o.type e i size c ht hi v n xs hown
    unfold Oper.wp execOp
    simp only [ho, resolve, invoke, builtin, Sem.run_bind, Sem.run_pure, Result.andThen_ok, List.map_toArray, List.map_cons, List.map_nil, hs, hx, hr]
    exact h v w (by rw [List.append_nil]; exact hown) ⟨rfl, rfl, rfl, Nat.le_refl _, fun _ _ _ => rfl⟩
  | some ad =>
    have hnews2 : ∀ j u, news[j]? = some u → w.cell? (ad.add j) = some u := fun j u hu => by
      have : 0 < m := by
        rcases Nat.eq_zero_or_pos m with h0 | h0
        · subst h0
          have : news = [] := List.eq_nil_of_length_eq_zero (by rw [hl]; omega)
          rw [this] at hu; simp at hu
        · exact h0
      obtain ⟨ad', e, hc⟩ := hnews this
      injection e with e
      subst e
      exact hc j u hu
    obtain ⟨v', w', hr, h2, h3, _, _⟩ := run_append_own_at (P := P) w base t o.type e i z size bytes ht hi hz hsize hby hzs hsz v n xs hown ad m c news hl hnews2 h1 h63 hbytes hbase
    unfold Oper.wp execOp
    simp only [ho, resolve, invoke, builtin, Sem.run_bind, Sem.run_pure, Result.andThen_ok, List.map_toArray, List.map_cons, List.map_nil, hs, hx, hr]
    exact h v' w' h2 h3
theorem wpList_app16 {ops : Array Oper} {rest : List Oper} {o : Oper} {a : Act} {Q : Exit → Act → World → Prop} (hgd : o.guard = none) (s x : Operand) (t : TypeId)
    (ho : o.op = .call { callee := .builtin .append, args := #[s, x], argTypes := #[t, t] })
    (base : Nat) (e : TypeId) (i : TypeInfo) (z : Value) (size bytes : Nat) (ht : P.underlying t = some (.slice e)) (hi : P.info? e = some i) (hz : i.zero = some z)
    (hsize : i.size = size) (hby : i.bytes = bytes) (hzs : z.cells.size = size) (hsz : 0 < size)
    (v : Value) (n : Nat) (xs : List Value) (hs : a.eval s = v) (hown : w.ownsRow base e size v n xs)
    (p : Option Addr) (m c : Nat) (news : List Value) (hx : a.eval x = .slice p m c) (hl : news.length = m * size) (hnews : 0 < m → ∃ ad, p = some ad ∧ ∀ j u, news[j]? = some u → w.cell? (ad.add j) = some u) (h1 : ∀ u ∈ news, u.oneCell' = true)
    (h63 : n + m ≤ maxLen) (hbytes : (n + m) * bytes ≤ 140737488355328) (hbase : base ≤ w.heap.size)
    (h : ∀ v' w', w'.ownsRow base e size v' (n + m) (xs ++ news) → w.grownBy w' v.ownBlock → wpList P ops Q rest (a.put o.dst v') w') : wpList P ops Q (o :: rest) a w :=
  wpList_plain hgd fun _ hK => wp_app16 s x t ho base e i z size bytes ht hi hz hsize hby hzs hsz v n xs hs hown p m c news hx hl hnews h1 h63 hbytes hbase fun v' w' h2 h3 => hK _ _ (h v' w' h2 h3)
theorem step_app16 {ops : Array Oper} {o : Oper} {a : Act} {K : Act → World → Prop} {Q : Exit → Act → World → Prop} {E : Prop} (hgd : o.guard = none) (s x : Operand) (t : TypeId)
    (ho : o.op = .call { callee := .builtin .append, args := #[s, x], argTypes := #[t, t] })
    (base : Nat) (e : TypeId) (i : TypeInfo) (z : Value) (size bytes : Nat) (ht : P.underlying t = some (.slice e)) (hi : P.info? e = some i) (hz : i.zero = some z)
    (hsize : i.size = size) (hby : i.bytes = bytes) (hzs : z.cells.size = size) (hsz : 0 < size)
    (v : Value) (n : Nat) (xs : List Value) (hs : a.eval s = v) (hown : w.ownsRow base e size v n xs)
    (p : Option Addr) (m c : Nat) (news : List Value) (hx : a.eval x = .slice p m c) (hl : news.length = m * size) (hnews : 0 < m → ∃ ad, p = some ad ∧ ∀ j u, news[j]? = some u → w.cell? (ad.add j) = some u) (h1 : ∀ u ∈ news, u.oneCell' = true)
    (h63 : n + m ≤ maxLen) (hbytes : (n + m) * bytes ≤ 140737488355328) (hbase : base ≤ w.heap.size)
    (h : ∀ v' w', w'.ownsRow base e size v' (n + m) (xs ++ news) → w.grownBy w' v.ownBlock → K (a.put o.dst v') w') :
    if Region.wanted o (yielded ops a.tmps) = true then Oper.wp P o a w K Q else E := by
  rw [if_pos (by unfold Region.wanted; rw [hgd])]
  exact wp_app16 s x t ho base e i z size bytes ht hi hz hsize hby hzs hsz v n xs hs hown p m c news hx hl hnews h1 h63 hbytes hbase h
end
/-- Strings that can be read. -/
abbrev FoldL (w w' : World) (e : Ending) (r : (Nat × List Cl) × List (Int × ByteArray)) : Prop := ∃ q n c vN, e = .returned (.tuple #[lsV r.1.1 q n c, vN]) ∧ n = r.1.2.length ∧ (r.1.2 = [] ∨ w'.ownsRow w.heap.size 51 2 (.slice q n c) n (rowC encC r.1.2)) ∧ w'.ownsRow w.heap.size 61 4 vN r.2.length (rowC encN (r.2.map nteS)) ∧ Below w.heap.size w w'
theorem FoldL.ls {w w' : World} {q : Option Addr} {n c : Nat} {L : List Cl} (h : L = [] ∨ w'.ownsRow w.heap.size 51 2 (.slice q n c) n (rowC encC L)) (hl : n = L.length) : LsAt w' q L := by
  rcases h with h | h
  · rw [h]; intro k c hk; simp at hk
  · exact LsAt.of_own h hl
/-- The state of Fold in memory: the result's cells, the list's box, the notes' row. -/
structure FW (w : World) (m : Nat) (L : List Cl) (q : Option Addr) (n c : Nat) (N : List Nte) (vN : Value) (W : World) : Prop where
  bel : Below w.heap.size w W
  res : W.heap[w.heap.size]? = some (.cells #[.int .u8 0, .slice none 0 0] 24 (0, 0))
  box : W.heap[w.heap.size + 1]? = some (.cells #[.int .u8 (m : Nat), .slice q n c] 24 (0, 0))
  len : n = L.length
  cur : L = [] ∨ W.ownsRow w.heap.size 51 2 (.slice q n c) n (rowC encC L)
  nts : W.ownsRow w.heap.size 61 4 vN N.length (rowC encN N)
section
variable {w : World} {m : Nat} {L : List Cl} {q : Option Addr} {n c : Nat} {N : List Nte} {vN : Value} {W : World}
theorem FW.ls (h : FW w m L q n c N vN W) : LsAt W q L := by
  rcases h.cur with h1 | h1
  · rw [h1]; intro k c hk; simp at hk
  · exact LsAt.of_own h1 h.len
theorem FW.lt (h : FW w m L q n c N vN W) : w.heap.size + 1 < W.heap.size := (Array.getElem?_eq_some_iff.1 h.box).1
theorem FW.x0 (h : FW w m L q n c N vN W) : W.cell? ⟨w.heap.size + 1, 0, none⟩ = some (.int .u8 (m : Nat)) := (cell_of_row W (w.heap.size + 1) 0 _ _ (0, 0) h.box).trans rfl
theorem FW.x1 (h : FW w m L q n c N vN W) : W.cell? ⟨w.heap.size + 1, 1, none⟩ = some (.slice q n c) := (cell_of_row W (w.heap.size + 1) 1 _ _ (0, 0) h.box).trans rfl
theorem FW.on {W' : World} (h : FW w m L q n c N vN W) (b : Below W.heap.size W W') : FW w m L q n c N vN W' :=
  have hl := h.lt
  ⟨thn16 h.bel b, (b.block _ (by omega)).trans h.res, (b.block _ (by omega)).trans h.box, h.len, h.cur.imp id (fun h1 => owns_on16 h1 b), owns_on16 h.nts b⟩
theorem size_setCells16 (V : World) (g : Nat) : ∀ (l : List Value) (o : Nat), (V.setCells g o l).heap.size = V.heap.size
  | [], o => rfl
  | x :: l, o => by
    show ((V.setCell ⟨g, o, none⟩ x).setCells g (o + 1) l).heap.size = _
    rw [size_setCells16 _ g l (o + 1)]
    simp [World.setCell]
theorem ne_type16 {W : World} {k k' : Nat} {cs cs' : Array Value} {t t' : TypeId} {fz fz' : Nat × Nat} (h : W.heap[k]? = some (.cells cs t fz)) (h' : W.heap[k']? = some (.cells cs' t' fz')) (ht : t ≠ t') : k ≠ k' := fun e => by
  subst e
  rw [h] at h'
  injection h' with h'
  injection h' with _ e _
  exact ht e
/-- A list, stored into a box of its type, leaves rows of other types. -/
theorem own_box16 {b : Nat} {cs : Array Value} {fz : Nat × Nat} (hb : W.heap[b]? = some (.cells cs 24 fz)) {B s k : Nat} {t : TypeId} (ht : t ≠ 24) {u : Value} {xs : List Value} (ho : W.ownsRow B t s u k xs) (l : List Value) : (W.setCells b 0 l).ownsRow B t s u k xs := owns_same16 ho fun g cs fz _ hk => (heap_setCells16 W _ _ (ne_type16 hk hb ht) _ _).trans hk
/-- The list's box takes another list; the notes grow. -/
theorem FW.next (h : FW w m L q n c N vN W) {m' : Nat} {L' : List Cl} {q' : Option Addr} {n' c' : Nat} (hl : n' = L'.length) (hc : L' = [] ∨ W.ownsRow w.heap.size 51 2 (.slice q' n' c') n' (rowC encC L')) :
    FW w m' L' q' n' c' N vN (W.setCells (w.heap.size + 1) 0 [.int .u8 (m' : Nat), .slice q' n' c']) :=
  ⟨below_setCells16 (by omega) _ _ _ h.bel, (heap_setCells16 W _ _ (by omega) _ _).trans h.res, by
    have hb := h.box
    simp [World.setCells, World.setCell, Array.getElem?_modify, hb], hl, hc.imp id (fun h1 => own_box16 h.box (by decide) h1 _), own_box16 h.box (by decide) h.nts _⟩
theorem FW.note (h : FW w m L q n c N vN W) {wA : World} {v' : Value} {N' : List Nte} (hg : W.grownBy wA vN.ownBlock) (hO : wA.ownsRow w.heap.size 61 4 v' N'.length (rowC encN N')) : FW w m L q n c N' v' wA := by
  have hl := h.lt
  have keep : ∀ {k : Nat} {cs : Array Value} {t : TypeId} {fz : Nat × Nat}, W.heap[k]? = some (.cells cs t fz) → t ≠ 61 → wA.heap[k]? = some (.cells cs t fz) := fun {k} {cs} {t} {fz} hk ht => by
    refine (hg.block k (Array.getElem?_eq_some_iff.1 hk).1 (fun e => ?_)).trans hk
    rcases h.nts.2 with ⟨hv, _⟩ | ⟨g, cap, cur, hv, hB, hg2, _⟩
    · rw [hv] at e; cases e
    · rw [hv] at e
      have e2 : k = g := Option.some.inj e
      exact ne_type16 hk hg2 ht e2
  exact ⟨h.bel.grown hg (by omega) (fun k e => (h.nts.lt k e).1), keep h.res (by decide), keep h.box (by decide), h.len, h.cur.imp id (fun h1 => owns_same16 h1 fun g cs fz _ hk => keep hk (by decide)), hO⟩
end
set_option maxRecDepth 100000 in
set_option maxHeartbeats 32000000 in
theorem refFold16 (u : Value) (V : List ByteArray) (sfx : Bool) (w : World) (hV : StrsAt w u V) (hn : V.length ≤ 100) (hs : ∀ x ∈ V, x.size ≤ 1000) : Calls Tryz.prog 18 #[u, .bool sfx] w fun e w' => FoldL w w' e (foldK sfx V V.length) := by
  obtain ⟨j0, hj0, hy0, hy1, hy2⟩ := info_parts nte_info
  have JI := Lib.hid hj0
  have JZ0 := Lib.hid hy0
  have JZ1 := Lib.hid hy1
  have JZ2 := Lib.hid hy2
  clear hj0 hy0 hy1 hy2
  have HIN := Lib.hid (show (Tryz.prog.info? 24).map (·.size) = some 2 by kernel_rfl)
  obtain ⟨qu, cu, rfl, hr⟩ := hV
  have HR := Lib.hid hr
  obtain ⟨nV, hnV⟩ : ∃ k, k = V.length := ⟨_, rfl⟩
  have HNV := Lib.hid hnV
  rw [← hnV] at hn ⊢
  have HS := Lib.hid hs
  obtain ⟨F, hF⟩ : ∃ F, F = foldK sfx V := ⟨_, rfl⟩
  have HF := Lib.hid hF
  rw [← hF]
  unfold FoldL lsV
  obtain ⟨W, hW⟩ : ∃ W, W = (w.alloc (.cells #[.int .u8 0, .slice none 0 0] 24)).alloc (.cells #[.int .u8 0, .slice none 0 0] 24) := ⟨_, rfl⟩
  have S0 := Lib.hid (show FW w (F 0).1.1 (F 0).1.2 none 0 0 ((F 0).2.map nteS) (.slice none 0 0) W from by
    rw [hF]
    exact ⟨hW ▸ ((Below.refl _ _).alloc (Nat.le_refl _) _).alloc (by rw [World.size_alloc]; omega) _, by rw [hW, heap_old16], by rw [hW, heap_new16]; rfl, rfl, Or.inl rfl, World.ownsRow_nil _ _ _ _⟩)
  obtain ⟨fm, hfm⟩ : ∃ x : Int, x = ((F nV).1.1 : Nat) := ⟨_, rfl⟩
  have HFM := Lib.hid hfm
  rw [← hfm]
  clear hr hnV hs hF hfm
  go_enter Tryz.func18, Tryz.ntmps18
  go_wp2
  rw [← hW]
  clear hW
  go_loopw [7, 8] (fun v7 v8 wr => ∃ (k : Nat) (q : Option Addr) (n c : Nat), k ≤ nV ∧ v8 = .int .i64 k ∧ Hid (FW w (F k).1.1 (F k).1.2 q n c ((F k).2.map nteS) v7 wr)) (fun _ v8 _ => nV - (intOf v8).toNat)
  case atStart => exact ⟨0, none, 0, 0, by omega, rfl, S0⟩
  case round =>
    clear S0
    obtain ⟨k, q, n, c, hk, rfl, SF⟩ := hrel
    obtain ⟨V0, rfl⟩ : ∃ wo : World, wo = wr := ⟨_, rfl⟩
    by_cases hlt : k < nV
    · have hx : V[k]? = some (V[k]'(by rw [← HNV.out]; exact hlt)) := List.getElem?_eq_getElem _
      obtain ⟨x, hxe⟩ : ∃ e, e = V[k]'(by rw [← HNV.out]; exact hlt) := ⟨_, rfl⟩
      rw [← hxe] at hx
      have hxs := HS.out x (List.mem_of_getElem? hx)
      obtain ⟨g, o, rfl, hc0⟩ := HR.out k x hx
      have cx := (SF.out.bel.cell (World.block_lt_of_cell? w _ hc0)).trans hc0
      have hok : Okl knownR (F k).1.1 (F k).1.2 := by rw [HF.out]; exact foldK_ok sfx V k
      have hok2 : Okl knownR (F (k + 1)).1.1 (F (k + 1)).1.2 := by rw [HF.out]; exact foldK_ok sfx V (k + 1)
      have hst : F (k + 1) = ((stepC knownR grpX sfx x (F k).1).1, (F k).2 ++ (stepC knownR grpX sfx x (F k).1).2) := by rw [HF.out]; exact foldK_step hx
      have HST := Lib.hid (fun (X : World) (b : Below V0.heap.size V0 X) => refStep16 (F k).1.1 q n c (F k).1.2 x sfx X hxs SF.out.len.symm (by have := okl_le hok; have := SF.out.len; omega) (okl_act hok) (SF.out.ls.on b))
      have hN1 : (F k).2.length ≤ 100000 := by
        rw [HF.out]
        exact Nat.le_trans (foldK_nts sfx V HS.out k) (by omega)
      have hN2 : (stepC knownR grpX sfx x (F k).1).2.length ≤ 1000 := stepC_nts_le sfx x _ hxs
      rw [show ((F k).1.1, (F k).1.2) = (F k).1 from rfl] at HST
      rw [stepA_ok hok] at HST
      obtain ⟨r, hr⟩ : ∃ r, r = stepC knownR grpX sfx x (F k).1 := ⟨_, rfl⟩
      rw [← hr] at HST hst hN2
      have HFS := Lib.hid hst
      unfold StepL lsV at HST
      obtain ⟨m1, hm1⟩ : ∃ a : Int, a = ((F k).1.1 : Nat) := ⟨_, rfl⟩
      have HM1 := Lib.hid hm1
      obtain ⟨m9, hm9⟩ : ∃ a : Int, a = (r.1.1 : Nat) := ⟨_, rfl⟩
      have HM9 := Lib.hid hm9
      rw [← hm1, ← hm9] at HST
      have x0 : V0.cell? ⟨w.heap.size + 1, 0, none⟩ = some (.int .u8 m1) := by rw [HM1.out]; exact SF.out.x0
      have x1 := SF.out.x1
      have k1 : (k : Int) < nV := by omega
      have k0 : (0 : Int) ≤ k := by omega
      obtain ⟨N1, hN1e⟩ : ∃ a, a = (F k).2.length := ⟨_, rfl⟩
      obtain ⟨N2, hN2e⟩ : ∃ a, a = r.2.length := ⟨_, rfl⟩
      have HNE1 := Lib.hid hN1e
      have HNE2 := Lib.hid hN2e
      rw [← hN1e] at hN1
      rw [← hN2e] at hN2 HST
      clear hx hxe hxs hc0 hok hst hr hm1 hm9 hN1e hN2e
      go_wp2_with fail
      refine wp_region_held_drew (S := (fun w' => Below V0.heap.size V0 w' ∧ w'.cell? ⟨w.heap.size + 1, 0, none⟩ = some (.int .u8 m1) ∧ w'.cell? ⟨w.heap.size + 1, 1, none⟩ = some (.slice q n c) ∧ w'.cell? ⟨g, o + k, none⟩ = some (.string x))) (by kernel_rfl) ?_ (fun hHeld => ?_)
      · exact ⟨(Below.refl _ _).drew, x0, x1, cx⟩
      refine take_op2 (i := 0) (v := ?_) rfl (by kernel_rfl) (by kernel_rfl) (by kernel_rfl) (fun _ _ _ h => h) (Or.inl ⟨wanted_plain rfl, ?_⟩) (by assumption) ?_
      rotate_left
      · (intro w hSw; (try dsimp only at hSw); go_simp; try with_reducible rfl)
      intro act_ hact_; simp only [Act.put, List.setIfInBounds_toArray, List.set_cons_zero, List.set_cons_succ] at hact_; subst hact_
      refine take_op2 (i := 1) (v := ?_) rfl (by kernel_rfl) (by kernel_rfl) (by kernel_rfl) (fun _ _ _ h => h) (Or.inl ⟨wanted_plain rfl, ?_⟩) (by assumption) ?_
      rotate_left
      · (intro w hSw; (try dsimp only at hSw); go_simp; try with_reducible rfl)
      intro act_ hact_; simp only [Act.put, List.setIfInBounds_toArray, List.set_cons_zero, List.set_cons_succ] at hact_; subst hact_
      refine take_op2 (i := 2) (v := ?_) rfl (by kernel_rfl) (by kernel_rfl) (by kernel_rfl) (fun _ _ _ h => h) (Or.inl ⟨wanted_plain rfl, ?_⟩) (by assumption) ?_
      rotate_left
      · (intro w hSw; (try dsimp only at hSw); go_simp; try with_reducible rfl)
      intro act_ hact_; simp only [Act.put, List.setIfInBounds_toArray, List.set_cons_zero, List.set_cons_succ] at hact_; subst hact_
      refine take_op2 (i := 3) (v := ?_) rfl (by kernel_rfl) (by kernel_rfl) (by kernel_rfl) (fun _ _ _ h => h) (Or.inl ⟨wanted_plain rfl, ?_⟩) (by assumption) ?_
      rotate_left
      · (intro w hSw; (try dsimp only at hSw); go_simp; try with_reducible rfl)
      intro act_ hact_; simp only [Act.put, List.setIfInBounds_toArray, List.set_cons_zero, List.set_cons_succ] at hact_; subst hact_
      refine take_op2 (i := 4) (v := ?_) rfl (by kernel_rfl) (by kernel_rfl) (by kernel_rfl) (fun _ _ _ h => h) (Or.inl ⟨wanted_plain rfl, ?_⟩) (by assumption) ?_
      rotate_left
      · (intro w hSw; (try dsimp only at hSw); go_simp; try with_reducible rfl)
      intro act_ hact_; simp only [Act.put, List.setIfInBounds_toArray, List.set_cons_zero, List.set_cons_succ] at hact_; subst hact_
      refine take_op2 (i := 5) (v := ?_) rfl (by kernel_rfl) (by kernel_rfl) (by kernel_rfl) (fun _ _ _ h => h) (Or.inl ⟨wanted_plain rfl, ?_⟩) (by assumption) ?_
      rotate_left
      · (intro w hSw; (try dsimp only at hSw); go_simp; try with_reducible rfl)
      intro act_ hact_; simp only [Act.put, List.setIfInBounds_toArray, List.set_cons_zero, List.set_cons_succ] at hact_; subst hact_
      refine wpAnyH_ready (rs := [6, 10]) (by kernel_rfl) (List.cons_ne_nil _ _) ?_
      refine AllReadyH.cons rfl (fun K hK => ?_) ?_
      · go_simp
        go_wp2_with (go_at_call 12; ((with_reducible refine (HST.out _ hHeld.1).mono ?_); rintro e w9 ⟨q9, n9, c9, vN, rfl, l9, cur9, nts9, b9⟩); have L9 := Lib.hid l9; have C9 := Lib.hid cur9; have T9 := Lib.hid nts9; clear l9 cur9 nts9)
        refine hK.out _ _ ?_ (fun hHeld => ?_)
        · exact ⟨hHeld.1.trans (b9.mono hHeld.1.size), (b9.cell (World.block_lt_of_cell? _ _ hHeld.2.1)).trans hHeld.2.1, (b9.cell (World.block_lt_of_cell? _ _ hHeld.2.2.1)).trans hHeld.2.2.1, (b9.cell (World.block_lt_of_cell? _ _ hHeld.2.2.2)).trans hHeld.2.2.2⟩
        clear hK K
        refine take_op2 (i := 7) (v := ?_) rfl (by kernel_rfl) (by kernel_rfl) (by kernel_rfl) (fun _ _ _ h => h) (Or.inl ⟨wanted_plain rfl, ?_⟩) (by assumption) ?_
        rotate_left
        · (intro w hSw; (try dsimp only at hSw); go_simp; try with_reducible rfl)
        intro act_ hact_; simp only [Act.put, List.setIfInBounds_toArray, List.set_cons_zero, List.set_cons_succ] at hact_; subst hact_
        refine take_op2 (i := 8) (v := ?_) rfl (by kernel_rfl) (by kernel_rfl) (by kernel_rfl) (fun _ _ _ h => h) (Or.inl ⟨wanted_plain rfl, ?_⟩) (by assumption) ?_
        rotate_left
        · (intro w hSw; (try dsimp only at hSw); go_simp; try with_reducible rfl)
        intro act_ hact_; simp only [Act.put, List.setIfInBounds_toArray, List.set_cons_zero, List.set_cons_succ] at hact_; subst hact_
        refine take_op2 (i := 9) (v := ?_) rfl (by kernel_rfl) (by kernel_rfl) (by kernel_rfl) (fun _ _ _ h => h) (Or.inl ⟨wanted_plain rfl, ?_⟩) (by assumption) ?_
        rotate_left
        · (intro w hSw; (try dsimp only at hSw); go_simp; try with_reducible rfl)
        intro act_ hact_; simp only [Act.put, List.setIfInBounds_toArray, List.set_cons_zero, List.set_cons_succ] at hact_; subst hact_
        refine wpAnyH_ready (rs := [10]) (by kernel_rfl) (List.cons_ne_nil _ _) ?_
        refine AllReadyH.cons rfl (fun K hK => ?_) AllReadyH.nil
        have HW9 := Lib.hid hHeld
        go_simp
        refine hK.out _ _ ?_ (fun hHeld => ?_)
        · exact ⟨hHeld.1.trans (((below16 w9 (.cells #[.int .u8 0, .slice none 0 0] 24))).mono hHeld.1.size), (((below16 w9 (.cells #[.int .u8 0, .slice none 0 0] 24))).cell (World.block_lt_of_cell? _ _ hHeld.2.1)).trans hHeld.2.1, (((below16 w9 (.cells #[.int .u8 0, .slice none 0 0] 24))).cell (World.block_lt_of_cell? _ _ hHeld.2.2.1)).trans hHeld.2.2.1, (((below16 w9 (.cells #[.int .u8 0, .slice none 0 0] 24))).cell (World.block_lt_of_cell? _ _ hHeld.2.2.2)).trans hHeld.2.2.2⟩
        clear hK K
        refine wpAnyH_ready (rs := [11]) (by kernel_rfl) (List.cons_ne_nil _ _) ?_
        refine AllReadyH.cons rfl (fun K hK => ?_) AllReadyH.nil
        go_simp
        refine hK.out _ _ ?_ (fun hHeld => ?_)
        · exact (fun HB => ⟨HB, (HB.cell (p := ⟨w.heap.size + 1, 0, none⟩) SF.out.lt).trans x0, (HB.cell (p := ⟨w.heap.size + 1, 1, none⟩) SF.out.lt).trans x1, (HB.cell (p := ⟨g, o + k, none⟩) (World.block_lt_of_cell? V0 _ cx)).trans cx⟩) (HW9.out.1.trans ((below16 w9 _).mono HW9.out.1.size))
        clear hK K
        refine take_op2 (i := 12) (v := ?_) rfl (by kernel_rfl) (by kernel_rfl) (by kernel_rfl) (fun _ _ _ h => h) (Or.inl ⟨wanted_plain rfl, ?_⟩) (by assumption) ?_
        rotate_left
        · (intro w hSw; (try dsimp only at hSw); go_simp; try with_reducible rfl)
        intro act_ hact_; simp only [Act.put, List.setIfInBounds_toArray, List.set_cons_zero, List.set_cons_succ] at hact_; subst hact_
        refine wpAnyH_done (by kernel_rfl) ?_ _
        have HX := Lib.hid (show Below V0.heap.size V0 (w9.alloc (.cells #[.int .u8 m9, .slice q9 n9 c9] 24)) from hHeld.1)
        have SX := Lib.hid (SF.out.on HX.out)
        have NX := Lib.hid (owns_low16 (show (w9.alloc (.cells #[.int .u8 m9, .slice q9 n9 c9] 24)).ownsRow _ 61 4 vN N2 (rowC encN (r.2.map nteS)) from owns_on16 T9.out (below16 w9 _)) (show w.heap.size ≤ _ from by have := SF.out.bel.size; simp; try omega))
        have CX := Lib.hid (show r.1.2 = [] ∨ (w9.alloc (.cells #[.int .u8 m9, .slice q9 n9 c9] 24)).ownsRow w.heap.size 51 2 (.slice q9 n9 c9) n9 (rowC encC r.1.2) from by
          rcases C9.out with h1 | h1 | h1
          · obtain ⟨⟨e1, e2, e3, e4⟩, _⟩ := h1
            rw [e1, e2, e3, e4]
            have h2 := SX.out.cur
            rw [← e1, ← e2, ← e3] at h2 ⊢
            exact h2
          · exact Or.inl h1
          · exact Or.inr (owns_low16 (show (w9.alloc (.cells #[.int .u8 m9, .slice q9 n9 c9] 24)).ownsRow _ 51 2 (.slice q9 n9 c9) n9 (rowC encC r.1.2) from owns_on16 h1 (below16 w9 _)) (show w.heap.size ≤ _ from by have := SF.out.bel.size; simp; try omega)))
        have BX := Lib.hid (show (w9.alloc (.cells #[.int .u8 m9, .slice q9 n9 c9] 24)).heap[w9.heap.size]? = some (.cells #[.int .u8 m9, .slice q9 n9 c9] 24 (0, 0)) from heap_alloc_new w9 _)
        have hNB : w9.heap.size ≠ w.heap.size + 1 := by have := SF.out.lt; have := HW9.out.1.size; omega
        generalize w9.alloc (.cells #[.int .u8 m9, .slice q9 n9 c9] 24) = X at SX NX CX BX ⊢
        obtain ⟨bN, hbN⟩ : ∃ b, b = w9.heap.size := ⟨_, rfl⟩
        rw [← hbN] at BX hNB ⊢
        clear x0 x1 cx hHeld HX hbN
        have y0 := (cell_of_row X bN 0 _ _ (0, 0) BX.out).trans (show _ = some (Value.int .u8 m9) from rfl)
        have y1 := (cell_of_row X bN 1 _ _ (0, 0) BX.out).trans (show _ = some (Value.slice q9 n9 c9) from rfl)
        have FX := Lib.hid SX.out.box
        have S9 := Lib.hid (SX.out.next (m' := r.1.1) L9.out CX.out)
        have N9 := Lib.hid (own_box16 SX.out.box (by decide) NX.out [.int .u8 ((r.1.1 : Nat) : Int), .slice q9 n9 c9])
        rw [← HM9.out] at S9 N9
        obtain ⟨qN, cN, hqN⟩ := own_form16 N9.out
        subst hqN
        have Z9 := Lib.hid (show (X.setCells (w.heap.size + 1) 0 [.int .u8 m9, .slice q9 n9 c9]).heap.size = X.heap.size from size_setCells16 _ _ _ _)
        go_wp2_with (first
          | ((with_reducible show wpList _ _ _ (⟨none, .store 24 (.tmp 6) (.tmp 28), _, _, _, _⟩ :: _) _ _)
             refine wpList_store_mid rfl 24 (.tmp 6) (.tmp 28) rfl (w.heap.size + 1) 0 #[.int .u8 m9, .slice q9 n9 c9] rfl rfl (there16 FX.out) HIN.out (one16 _ _ _ _) ?_
             show wpList _ _ _ _ _ (X.setCells (w.heap.size + 1) 0 [.int .u8 m9, .slice q9 n9 c9])
             generalize X.setCells (w.heap.size + 1) 0 [.int .u8 m9, .slice q9 n9 c9] = Y at S9 N9 Z9 ⊢)
          | (at_builtin
             refine wpList_app16 rfl (.tmp 29) (.tmp 30) 27 rfl w.heap.size 61 j0 _ 4 48 Tryz.underlying27 JI.out JZ0.out JZ1.out JZ2.out rfl (by omega) _ N1 (rowC encN ((F k).2.map nteS)) rfl (by have h1 := S9.out.nts; rw [List.length_map, ← HNE1.out] at h1; exact h1) _ N2 cN (rowC encN (r.2.map nteS)) rfl N9.out.1 (fun h0 => by
               obtain ⟨gg, cc, e1, e2, e3⟩ := N9.out.form (by omega)
               injection e1 with e11 e12 e13
               subst e11
               refine ⟨_, rfl, fun j u hu => ?_⟩
               have hj : j < N2 * 4 := by rw [← N9.out.1]; exact (List.getElem?_eq_some_iff.1 hu).1
               rw [Addr.add_lit, Nat.zero_add]
               exact (N9.out.cellAt j hj).trans hu) (rowC_oneCell encN_one _) (by unfold maxLen; omega) (by omega) (by have := S9.out.bel.size; omega) ?_
             intro v7 w7 o7 hg7
             have S7 := Lib.hid (S9.out.note (N' := (F (k + 1)).2.map nteS) hg7 (by rw [HFS.out, List.map_append, List.length_append, List.length_map, List.length_map, ← HNE1.out, ← HNE2.out, rowC_app]; exact o7))
             clear o7 hg7))
        go_roundw
        case rel => exact ⟨k + 1, q9, n9, c9, by omega, by go_num, by rw [show (F (k + 1)).1.1 = r.1.1 by rw [HFS.out], show (F (k + 1)).1.2 = r.1.2 by rw [HFS.out]]; exact S7⟩
        case measure => first | (simp [intOf]; done) | (simp [intOf]; omega)
      refine AllReadyH.cons rfl (fun K hK => ?_) ?_
      · go_simp
        refine hK.out _ _ ?_ (fun hHeld => ?_)
        · exact (fun HB => ⟨HB, (HB.cell (p := ⟨w.heap.size + 1, 0, none⟩) SF.out.lt).trans x0, (HB.cell (p := ⟨w.heap.size + 1, 1, none⟩) SF.out.lt).trans x1, (HB.cell (p := ⟨g, o + k, none⟩) (World.block_lt_of_cell? V0 _ cx)).trans cx⟩) ((below16 V0 (.cells #[.int .u8 0, .slice none 0 0] 24)).drew)
        clear hK K
        refine wpAnyH_ready (rs := [6]) (by kernel_rfl) (List.cons_ne_nil _ _) ?_
        refine AllReadyH.cons rfl (fun K hK => ?_) AllReadyH.nil
        go_simp
        go_wp2_with (go_at_call 12; ((with_reducible refine (HST.out _ hHeld.1).mono ?_); rintro e w9 ⟨q9, n9, c9, vN, rfl, l9, cur9, nts9, b9⟩); have L9 := Lib.hid l9; have C9 := Lib.hid cur9; have T9 := Lib.hid nts9; clear l9 cur9 nts9)
        have hz := (b9.block V0.heap.size (by show V0.heap.size < (V0.alloc _).heap.size; rw [World.size_alloc]; exact Nat.lt_succ_self _)).trans (show (V0.alloc (.cells #[.int .u8 0, .slice none 0 0] 24)).heap[V0.heap.size]? = _ from heap_alloc_new V0 _)
        have z0 := (cell_of_row w9 V0.heap.size 0 _ _ (0, 0) hz).trans (show _ = some (Value.int .u8 0) from rfl)
        have z1 := (cell_of_row w9 V0.heap.size 1 _ _ (0, 0) hz).trans (show _ = some (Value.slice none 0 0) from rfl)
        have zf0 := frozen_of_row w9 V0.heap.size 0 _ _ hz
        have zf1 := frozen_of_row w9 V0.heap.size 1 _ _ hz
        have HZ := Lib.hid hz
        refine hK.out _ _ ?_ (fun hHeld => ?_)
        · exact ⟨hHeld.1.trans (b9.mono hHeld.1.size), (b9.cell (World.block_lt_of_cell? _ _ hHeld.2.1)).trans hHeld.2.1, (b9.cell (World.block_lt_of_cell? _ _ hHeld.2.2.1)).trans hHeld.2.2.1, (b9.cell (World.block_lt_of_cell? _ _ hHeld.2.2.2)).trans hHeld.2.2.2⟩
        clear hK K
        refine take_op2 (i := 7) (v := ?_) rfl (by kernel_rfl) (by kernel_rfl) (by kernel_rfl) (fun _ _ _ h => h) (Or.inl ⟨wanted_plain rfl, ?_⟩) (by assumption) ?_
        rotate_left
        · (intro w hSw; (try dsimp only at hSw); go_simp; try with_reducible rfl)
        intro act_ hact_; simp only [Act.put, List.setIfInBounds_toArray, List.set_cons_zero, List.set_cons_succ] at hact_; subst hact_
        refine take_op2 (i := 8) (v := ?_) rfl (by kernel_rfl) (by kernel_rfl) (by kernel_rfl) (fun _ _ _ h => h) (Or.inl ⟨wanted_plain rfl, ?_⟩) (by assumption) ?_
        rotate_left
        · (intro w hSw; (try dsimp only at hSw); go_simp; try with_reducible rfl)
        intro act_ hact_; simp only [Act.put, List.setIfInBounds_toArray, List.set_cons_zero, List.set_cons_succ] at hact_; subst hact_
        refine take_op2 (i := 9) (v := ?_) rfl (by kernel_rfl) (by kernel_rfl) (by kernel_rfl) (fun _ _ _ h => h) (Or.inl ⟨wanted_plain rfl, ?_⟩) (by assumption) ?_
        rotate_left
        · (intro w hSw; (try dsimp only at hSw); go_simp; try with_reducible rfl)
        intro act_ hact_; simp only [Act.put, List.setIfInBounds_toArray, List.set_cons_zero, List.set_cons_succ] at hact_; subst hact_
        refine wpAnyH_ready (rs := [11]) (by kernel_rfl) (List.cons_ne_nil _ _) ?_
        refine AllReadyH.cons rfl (fun K hK => ?_) AllReadyH.nil
        go_simp
        refine hK.out _ _ ?_ (fun hHeld => ?_)
        · exact (fun HB => ⟨HB, (HB.cell (p := ⟨w.heap.size + 1, 0, none⟩) SF.out.lt).trans x0, (HB.cell (p := ⟨w.heap.size + 1, 1, none⟩) SF.out.lt).trans x1, (HB.cell (p := ⟨g, o + k, none⟩) (World.block_lt_of_cell? V0 _ cx)).trans cx⟩) ((hHeld.1.setCell (p := ⟨V0.heap.size, 0, none⟩) (Nat.le_refl _) _).setCell (p := ⟨V0.heap.size, 1, none⟩) (Nat.le_refl _) _)
        clear hK K
        refine take_op2 (i := 12) (v := ?_) rfl (by kernel_rfl) (by kernel_rfl) (by kernel_rfl) (fun _ _ _ h => h) (Or.inl ⟨wanted_plain rfl, ?_⟩) (by assumption) ?_
        rotate_left
        · (intro w hSw; (try dsimp only at hSw); go_simp; try with_reducible rfl)
        intro act_ hact_; simp only [Act.put, List.setIfInBounds_toArray, List.set_cons_zero, List.set_cons_succ] at hact_; subst hact_
        refine wpAnyH_done (by kernel_rfl) ?_ _
        have HX := Lib.hid (show Below V0.heap.size V0 ((w9.setCell ⟨V0.heap.size, 0, none⟩ (.int .u8 m9)).setCell ⟨V0.heap.size, 1, none⟩ (.slice q9 n9 c9)) from hHeld.1)
        have SX := Lib.hid (SF.out.on HX.out)
        have NX := Lib.hid (owns_low16 (show ((w9.setCell ⟨V0.heap.size, 0, none⟩ (.int .u8 m9)).setCell ⟨V0.heap.size, 1, none⟩ (.slice q9 n9 c9)).ownsRow _ 61 4 vN N2 (rowC encN (r.2.map nteS)) from own_box16 HZ.out (by decide) T9.out [.int .u8 m9, .slice q9 n9 c9]) (show w.heap.size ≤ _ from by have := SF.out.bel.size; simp; try omega))
        have CX := Lib.hid (show r.1.2 = [] ∨ ((w9.setCell ⟨V0.heap.size, 0, none⟩ (.int .u8 m9)).setCell ⟨V0.heap.size, 1, none⟩ (.slice q9 n9 c9)).ownsRow w.heap.size 51 2 (.slice q9 n9 c9) n9 (rowC encC r.1.2) from by
          rcases C9.out with h1 | h1 | h1
          · obtain ⟨⟨e1, e2, e3, e4⟩, _⟩ := h1
            rw [e1, e2, e3, e4]
            have h2 := SX.out.cur
            rw [← e1, ← e2, ← e3] at h2 ⊢
            exact h2
          · exact Or.inl h1
          · exact Or.inr (owns_low16 (show ((w9.setCell ⟨V0.heap.size, 0, none⟩ (.int .u8 m9)).setCell ⟨V0.heap.size, 1, none⟩ (.slice q9 n9 c9)).ownsRow _ 51 2 (.slice q9 n9 c9) n9 (rowC encC r.1.2) from own_box16 HZ.out (by decide) h1 [.int .u8 m9, .slice q9 n9 c9]) (show w.heap.size ≤ _ from by have := SF.out.bel.size; simp; try omega)))
        have BX := Lib.hid (show ((w9.setCell ⟨V0.heap.size, 0, none⟩ (.int .u8 m9)).setCell ⟨V0.heap.size, 1, none⟩ (.slice q9 n9 c9)).heap[V0.heap.size]? = some (.cells #[.int .u8 m9, .slice q9 n9 c9] 24 (0, 0)) from by have hz2 := HZ.out; simp [World.setCell, Array.getElem?_modify, hz2])
        have hNB : V0.heap.size ≠ w.heap.size + 1 := by have := SF.out.lt; omega
        generalize (w9.setCell ⟨V0.heap.size, 0, none⟩ (.int .u8 m9)).setCell ⟨V0.heap.size, 1, none⟩ (.slice q9 n9 c9) = X at SX NX CX BX ⊢
        obtain ⟨bN, hbN⟩ : ∃ b, b = V0.heap.size := ⟨_, rfl⟩
        rw [← hbN] at BX hNB ⊢
        clear x0 x1 cx hHeld HX hbN z0 z1 zf0 zf1 HZ hz
        have y0 := (cell_of_row X bN 0 _ _ (0, 0) BX.out).trans (show _ = some (Value.int .u8 m9) from rfl)
        have y1 := (cell_of_row X bN 1 _ _ (0, 0) BX.out).trans (show _ = some (Value.slice q9 n9 c9) from rfl)
        have FX := Lib.hid SX.out.box
        have S9 := Lib.hid (SX.out.next (m' := r.1.1) L9.out CX.out)
        have N9 := Lib.hid (own_box16 SX.out.box (by decide) NX.out [.int .u8 ((r.1.1 : Nat) : Int), .slice q9 n9 c9])
        rw [← HM9.out] at S9 N9
        obtain ⟨qN, cN, hqN⟩ := own_form16 N9.out
        subst hqN
        have Z9 := Lib.hid (show (X.setCells (w.heap.size + 1) 0 [.int .u8 m9, .slice q9 n9 c9]).heap.size = X.heap.size from size_setCells16 _ _ _ _)
        go_wp2_with (first
          | ((with_reducible show wpList _ _ _ (⟨none, .store 24 (.tmp 6) (.tmp 28), _, _, _, _⟩ :: _) _ _)
             refine wpList_store_mid rfl 24 (.tmp 6) (.tmp 28) rfl (w.heap.size + 1) 0 #[.int .u8 m9, .slice q9 n9 c9] rfl rfl (there16 FX.out) HIN.out (one16 _ _ _ _) ?_
             show wpList _ _ _ _ _ (X.setCells (w.heap.size + 1) 0 [.int .u8 m9, .slice q9 n9 c9])
             generalize X.setCells (w.heap.size + 1) 0 [.int .u8 m9, .slice q9 n9 c9] = Y at S9 N9 Z9 ⊢)
          | (at_builtin
             refine wpList_app16 rfl (.tmp 29) (.tmp 30) 27 rfl w.heap.size 61 j0 _ 4 48 Tryz.underlying27 JI.out JZ0.out JZ1.out JZ2.out rfl (by omega) _ N1 (rowC encN ((F k).2.map nteS)) rfl (by have h1 := S9.out.nts; rw [List.length_map, ← HNE1.out] at h1; exact h1) _ N2 cN (rowC encN (r.2.map nteS)) rfl N9.out.1 (fun h0 => by
               obtain ⟨gg, cc, e1, e2, e3⟩ := N9.out.form (by omega)
               injection e1 with e11 e12 e13
               subst e11
               refine ⟨_, rfl, fun j u hu => ?_⟩
               have hj : j < N2 * 4 := by rw [← N9.out.1]; exact (List.getElem?_eq_some_iff.1 hu).1
               rw [Addr.add_lit, Nat.zero_add]
               exact (N9.out.cellAt j hj).trans hu) (rowC_oneCell encN_one _) (by unfold maxLen; omega) (by omega) (by have := S9.out.bel.size; omega) ?_
             intro v7 w7 o7 hg7
             have S7 := Lib.hid (S9.out.note (N' := (F (k + 1)).2.map nteS) hg7 (by rw [HFS.out, List.map_append, List.length_append, List.length_map, List.length_map, ← HNE1.out, ← HNE2.out, rowC_app]; exact o7))
             clear o7 hg7))
        go_roundw
        case rel => exact ⟨k + 1, q9, n9, c9, by omega, by go_num, by rw [show (F (k + 1)).1.1 = r.1.1 by rw [HFS.out], show (F (k + 1)).1.2 = r.1.2 by rw [HFS.out]]; exact S7⟩
        case measure => first | (simp [intOf]; done) | (simp [intOf]; omega)
      exact AllReadyH.nil

    · obtain rfl : k = nV := by omega
      have k1 : ¬ (k : Int) < k := by omega
      have x0 : V0.cell? ⟨w.heap.size + 1, 0, none⟩ = some (.int .u8 fm) := by rw [HFM.out]; exact SF.out.x0
      have x1 := SF.out.x1
      have F0 := Lib.hid SF.out.res
      have ⟨hl, hb3⟩ := retL16 F0.out SF.out.bel (Nat.le_refl _) fm q n c
      have HB3 := Lib.hid hb3
      have HLN := Lib.hid SF.out.len
      have HLS := Lib.hid (show (F k).1.2 = [] ∨ (V0.setCells w.heap.size 0 [.int .u8 fm, .slice q n c]).ownsRow w.heap.size 51 2 (.slice q n c) n (rowC encC (F k).1.2) from
        SF.out.cur.imp id (fun h1 => own_box16 SF.out.res (by decide) h1 _))
      have HNT := Lib.hid (show (V0.setCells w.heap.size 0 [.int .u8 fm, .slice q n c]).ownsRow w.heap.size 61 4 u7 (F k).2.length (rowC encN ((F k).2.map nteS)) from by
        rw [← List.length_map (f := nteS)]
        exact own_box16 SF.out.res (by decide) SF.out.nts _)
      clear hb3
      go_wp2_with ((with_reducible show wpList _ _ _ (⟨none, .store 24 (.tmp 4) (.tmp 32), _, _, _, _⟩ :: _) _ _)
                   refine wpList_store_mid rfl 24 (.tmp 4) (.tmp 32) rfl w.heap.size 0 #[.int .u8 fm, .slice q n c] rfl rfl (there16 F0.out) HIN.out (one16 _ _ _ _) ?_
                   show wpList _ _ _ _ _ (V0.setCells w.heap.size 0 [.int .u8 fm, .slice q n c])
                   generalize V0.setCells w.heap.size 0 [.int .u8 fm, .slice q n c] = w3 at hl HB3 HLS HNT ⊢)
      (try simp only [Exit.inBlock, Exit.then])
      refine bodyPost_ret (v := .tuple #[.agg #[.int .u8 fm, .slice q n c], u7]) (results_two15 Tryz.results18 ?_ ?_ hl) rfl ⟨q, n, c, _, rfl, HLN.out, HLS.out, HNT.out, HB3.out⟩
      all_goals rfl
end Go.Proofs.YtickkaeaaemakaaGreatDoor
