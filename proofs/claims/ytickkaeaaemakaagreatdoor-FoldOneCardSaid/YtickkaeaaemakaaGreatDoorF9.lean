/- What the walk of the landed fold's Step needs: words by their reading; the state when the list's own row changes. No condition. -/
import Derived.Test.YtickkaeaaemakaaGreatDoorF8
import Derived.Test.YtickkaeaaemakaaGreatDoorTp
import Derived.Test.YtickkaeaaemakaaGreatDoorTs
namespace Go.Proofs.YtickkaeaaemakaaGreatDoor
open Go.RowKit Go.Shelf
set_option linter.unusedVariables false
set_option linter.unusedSimpArgs false

/-- A word's notes and calls, by what reading it comes to. -/
theorem word_read (sfx T : Bool) (x : List UInt8) : wordF knownR grpX sfx T x = (if (readF (sfx && T) (bs x)).2.2 ≠ 0 then [((readF (sfx && T) (bs x)).2.2, bs (x.take 60))] else [], (readF (sfx && T) (bs x)).2.1.map fun t => (t, (readF (sfx && T) (bs x)).1.has, (readF (sfx && T) (bs x)).1.act)) := by
  have hr : rdE (bs x) = rdL x := by unfold rdE; rw [bs_list]
  have hb : ((rdL x).1.has && !(sfx && T)) = ((rdL x).1.has && (!sfx || !T)) := by cases sfx <;> cases T <;> rfl
  unfold wordF readF
  rw [hr, hb]
  by_cases h1 : (rdL x).2 ≠ 0
  · simp only [if_pos h1, List.map_nil]
  · by_cases h2 : (namesF knownR grpX (rdL x).1.nm).1 ≠ 0
    · simp only [if_neg h1, if_pos h2, List.map_nil]
    · by_cases h3 : ((rdL x).1.has && (!sfx || !T)) = true
      · simp only [if_neg h1, if_neg h2, if_pos h3]
        rw [if_pos (by decide)]
      · simp only [if_neg h1, if_neg h2, if_neg h3]
        rw [if_neg (by decide)]
theorem read_le (b : Bool) (x : ByteArray) : (readF b x).2.1.length ≤ 100 := by
  unfold readF
  split
  · exact Nat.zero_le _
  · split
    · exact Nat.zero_le _
    · split
      · exact names_le _
      · exact names_le _
theorem op_put (m : Nat) (T has : Bool) (t : ByteArray) (a : Nat) : opF m T (t, has, a) = if putB m T has = true then (t, some a) else (t, none) := by
  unfold opF putB
  simp only
  by_cases h1 : m = 1
  · subst h1
    cases T <;> cases has <;> rfl
  · by_cases h2 : m = 2
    · subst h2
      cases T <;> rfl
    · rw [if_neg (by rintro (⟨h, _⟩ | ⟨h, _⟩); exact h1 h; exact h2 h), decide_eq_false h1, decide_eq_false h2]
      rfl
theorem newS_on {B : Nat} {W W' : World} {v : Value} {l : List ByteArray} (h : NewS B W v l) (b : Below W.heap.size W W') : NewS B W' v l := ⟨h.1.on b, h.2⟩
theorem newS_grown {B : Nat} {W W' : World} {v : Value} {l : List ByteArray} {r : Option Nat} (h : NewS B W v l) (hg : W.grownBy W' r) (hn : ∀ g, v.ownBlock = some g → r ≠ some g) : NewS B W' v l := by
  obtain ⟨⟨q, c, e, hr⟩, hb⟩ := h
  refine ⟨⟨q, c, e, fun k s hk => ?_⟩, hb⟩
  obtain ⟨g, o, e2, hc⟩ := hr k s hk
  exact ⟨g, o, e2, hg.cell hc (fun e3 => hn g (by rw [e, e2]; rfl) e3.symm)⟩
theorem newS_set {B b o : Nat} {W : World} {v u : Value} {l : List ByteArray} (h : NewS B W v l) (hb : b < B) : NewS B (W.setCell ⟨b, o, none⟩ u) v l := by
  obtain ⟨⟨q, c, e, hr⟩, hn⟩ := h
  refine ⟨⟨q, c, e, fun k s hk => ?_⟩, hn⟩
  obtain ⟨g, i, e2, hc⟩ := hr k s hk
  have := hn g (by rw [e, e2]; rfl)
  exact ⟨g, i, e2, (World.cell?_of_block (heap_setCell_other W ⟨b, o, none⟩ g u (show g ≠ b by omega))).trans hc⟩
abbrev NoI : Option Addr → Nat → Nat → List Cl → Prop := fun _ _ _ _ => False
section
variable {w : World} {mF : Nat} {vW : Value} {nW : Nat} {WL : List (List UInt8)} {L : List Cl} {q : Option Addr} {n c : Nat} {N : List Nte} {vN : Value} {W : World}
theorem SWrow (h : SW NoI w mF vW nW WL L q n c N vN W) : W.ownsRow w.heap.size 51 2 (.slice q n c) n (rowC encC L) := h.cur.resolve_left (fun e => e.1)
theorem SWkeep (h : SW NoI w mF vW nW WL L q n c N vN W) {wA : World} (hg : W.grownBy wA (Value.slice q n c).ownBlock) {k : Nat} {cs : Array Value} {t : TypeId} {fz : Nat × Nat} (hk : W.heap[k]? = some (.cells cs t fz)) (ht : t ≠ 51) : wA.heap[k]? = some (.cells cs t fz) := by
  refine (hg.block k (Array.getElem?_eq_some_iff.1 hk).1 (fun e => ?_)).trans hk
  rcases (SWrow h).2 with ⟨hv, _⟩ | ⟨g, cap, cur, hv, hB, hg2, _⟩
  · rw [hv] at e; cases e
  · rw [hv] at e
    have e2 : k = g := Option.some.inj e
    subst e2
    rw [hk] at hg2
    injection hg2 with hg2
    injection hg2 with _ e3 _
    exact ht e3
/-- The list takes another row. -/
theorem SWcalls (h : SW NoI w mF vW nW WL L q n c N vN W) {wA : World} {q' : Option Addr} {n' c' : Nat} {L' : List Cl} (hg : W.grownBy wA (Value.slice q n c).ownBlock) (hl : n' = L'.length) (hO : wA.ownsRow w.heap.size 51 2 (.slice q' n' c') n' (rowC encC L')) :
    wA.heap[w.heap.size]? = some (.cells #[.int .u8 (mF : Nat), .slice q n c] 24 (0, 0)) ∧ SW NoI w mF vW nW WL L' q' n' c' N vN (wA.setCell ⟨w.heap.size, 1, none⟩ (.slice q' n' c')) := by
  have hb := SWkeep h hg h.box (by decide)
  have off : ∀ {k : Nat} {cs : Array Value} {t : TypeId} {fz : Nat × Nat}, wA.heap[k]? = some (.cells cs t fz) → t ≠ 24 → (wA.setCell ⟨w.heap.size, 1, none⟩ (.slice q' n' c')).heap[k]? = some (.cells cs t fz) := fun {k cs t fz} hk ht =>
    (heap_setCell_other wA ⟨w.heap.size, 1, none⟩ k _ (ne_type16 hk hb ht)).trans hk
  have hlt := h.lt
  refine ⟨hb, ⟨(h.bel.grown hg (by omega) (fun k e => ((SWrow h).lt k e).1)).setCell (p := ⟨w.heap.size, 1, none⟩) (Nat.le_refl _) _, ?_, ?_, hl, Or.inr (owns_same16 hO fun g cs fz _ hk => off hk (by decide)), ?_, ?_⟩⟩
  · simp [World.setCell, Array.getElem?_modify, hb]
  · exact (heap_setCell_other wA ⟨w.heap.size, 1, none⟩ (w.heap.size + 1) _ (by show w.heap.size + 1 ≠ w.heap.size; omega)).trans (SWkeep h hg h.res (by decide))
  · exact owns_same16 h.nts fun g cs fz _ hk => off (SWkeep h hg hk (by decide)) (by decide)
  · exact owns_same16 h.wds fun g cs fz _ hk => off (SWkeep h hg hk (by decide)) (by decide)
end
theorem set_box0 {V : World} {b : Nat} {x y u z : Value} {t : TypeId} (h : V.heap[b]? = some (.cells #[x, y] t (0, 0))) : (V.setCells b 0 [u, z]).heap[b]? = some (.cells #[u, z] t (0, 0)) := by
  simp [World.setCells, World.setCell, Array.getElem?_modify, h]
theorem size_set16 (V : World) (p : Addr) (u : Value) : (V.setCell p u).heap.size = V.heap.size := by simp [World.setCell]
end Go.Proofs.YtickkaeaaemakaaGreatDoor
