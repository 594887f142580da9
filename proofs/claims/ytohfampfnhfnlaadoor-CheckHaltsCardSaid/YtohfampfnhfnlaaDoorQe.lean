/- What the landed call Next returns: to where an instruction leads. Condition: a slice is as long as its capacity allows. What the landed call Reached returns: what is reached. Condition: a slice is as long as its capacity allows. -/
import Derived.Test.YtohfampfnhfnlaaDoorQb
import Derived.Laws.EntriesVeiled
namespace Go.Proofs.YtohfampfnhfnlaaDoor
open Go.RowKit Go.Shelf
set_option linter.unusedVariables false
attribute [local go_sem] Oper.semAt_some

theorem plV_get0 {l : List Nat} {j : Nat} {v : Value} (h : (plV l)[j]? = some v) : ∃ x, l[j]? = some x ∧ v = .int .i64 ((x : Nat) : Int) := by
  unfold plV at h
  rw [List.getElem?_map] at h
  cases hx : l[j]? with
  | none => rw [hx] at h; cases h
  | some x => rw [hx] at h; injection h with h; exact ⟨x, rfl, h.symm⟩
theorem plV_len (l : List Nat) : (plV l).length = l.length := by simp [plV]
theorem plV_take {l : List Nat} {j x : Nat} (h : l[j]? = some x) : plV (l.take (j + 1)) = plV (l.take j) ++ [.int .i64 ((x : Nat) : Int)] := by
  unfold plV
  rw [List.take_add_one, h, List.map_append]; rfl
theorem own_base {w : World} {B B' n size : Nat} {e : TypeId} {v : Value} {xs : List Value} (h : w.ownsRow B e size v n xs) (hB : B' ≤ B) : w.ownsRow B' e size v n xs := by
  obtain ⟨h1, h2⟩ := h
  refine ⟨h1, ?_⟩
  rcases h2 with h2 | ⟨g, cap, cur, hv, hgB, r⟩
  · exact Or.inl h2
  · exact Or.inr ⟨g, cap, cur, hv, by omega, r⟩
/-- Between two rounds: the variable's box, and the row of what has come. -/
def SeqI (l : List Nat) (R B j : Nat) (V : World) : Prop := ∃ v, Boxed V B 48 v ∧ V.ownsRow R 3 1 v j (plV (l.take j))
theorem seqI_own (l : List Nat) (R B B' : Nat) : OwnFrom B' (SeqI l R B) := by
  rintro j V V' row ⟨v, hb, ho⟩ hg hr
  refine ⟨v, hb.kept hg fun e => ?_, ho.kept hg ?_⟩
  · obtain ⟨_, o, ho2, hc⟩ := hr _ e.symm
    rw [show V.heap[B]? = _ from hb] at ho2; cases ho2; cases hc
  · rcases ho.2 with ⟨rfl, _⟩ | ⟨g, cap, cur, rfl, _, hgb, _⟩
    · exact .inl rfl
    · refine .inr fun e => ?_
      obtain ⟨_, o, ho2, hc⟩ := hr g e.symm
      rw [hgb] at ho2; cases ho2; cases hc
end Go.Proofs.YtohfampfnhfnlaaDoor
namespace Go.Proofs.YtohfampfnhfnlaaDoor
open Go.RowKit Go.Shelf
set_option linter.unusedVariables false
attribute [local go_sem] Oper.semAt_some

theorem wpListIn_make_full {F : Fence} {n : Nat} {P : Program} (w : World) {ops : Array Oper} {rest : List Oper} {o : Oper} {a : Act} {Q : Exit → Act → World → Prop}
    (hg : o.guard = none) (l c : Operand) (t : TypeId) (hop : o.op = Op.makeSlice t l c)
    (base : Nat) (e : TypeId) (i : TypeInfo) (z : Value) (size : Nat) (h1 : P.underlying t = some (.slice e)) (h2 : P.info? e = some i) (h3 : i.zero = some z) (h4 : i.size = size)
    (kl kc : IntKind) (L C : Int) (m : Nat) (hl : a.eval l = .int kl L) (hc : a.eval c = .int kc C) (hL : L = (m : Int)) (hC : C = (m : Int)) (b2 : i.bytes * m ≤ 281474976710656) (b3 : m ≤ maxLen) (b4 : base ≤ w.heap.size)
    (hK : ∀ w', w'.ownsRow base e size (.slice (some ⟨w.heap.size, 0, none⟩) m m) m (madeCells z.cells (m * size)).toList → w.grownBy w' none → wpListIn F n P ops Q rest (a.put o.dst (.slice (some ⟨w.heap.size, 0, none⟩) m m)) w') :
    wpListIn F n P ops Q (o :: rest) a w := by
  refine wpListIn_plain hg fun K hK' => ?_
  obtain ⟨w', hrun, r1, r2⟩ := run_make_full (P := P) w base t e i z size h1 h2 h3 h4 kl kc m b2 b3 b4
  subst hL
  subst hC
  unfold Oper.wpIn
  refine ⟨?_, ?_⟩
  · simp [Oper.about, hop]
  · rw [Oper.semAt_plain F _ _ (by rw [hop]; intro c hc'; cases hc')]
    simp [execOp, hop, hl, hc, hrun, Result.andThen]
    exact hK' _ _ (hK w' r1 r2)
end Go.Proofs.YtohfampfnhfnlaaDoor
