/- Lists that may be hold at most 40 calls; what a group stands for are known calls; the state of the document's own Step, as it lies in memory. No condition. What the document's own Step returns: what a value makes of a list, and what is noted. Condition: a list of at most a million calls that can be read, a value of at most 1,000 bytes. -/
import Derived.Test.YtbjhleajhkofeaaDoorGa
import Derived.Deep.LoopGhost
import Derived.Test.YtbjhleajhkofeaaDoorTl
import Derived.Test.YtbjhleajhkofeaaDoorTg
import Derived.StillTailTactics
import Derived.Deep.DeepCutAuto
namespace Go.Proofs.YtbjhleajhkofeaaDoor
open Go.RowKit
set_option linter.unusedVariables false
attribute [local irreducible] iterE stepE midE putR putTo memR deepR deepTo grpT
set_option linter.unusedSimpArgs false
attribute [local go_sem ↓] Go.wp_at_zero Go.wp_at_succ

theorem QAt.new (B : Nat) (w : World) (s : ByteArray) (t : TypeId) (h : B ≤ w.heap.size) : QAt B (w.alloc (.cells #[.string s] t)) (.slice (some ⟨w.heap.size, 0, none⟩) 1 1) [s] := by
  refine ⟨w.heap.size, 0, 1, rfl, h, by rw [World.size_alloc]; omega, Nat.le_refl _, by unfold maxLen; omega, fun k x hk => ?_, fun j hj => absurd hj (by simp)⟩
  have := news_g w s t k (.string x) (sG_get hk)
  rwa [Addr.add_lit] at this
/-- A group's names while Expand reads them: in no block of the queue. -/
def MemAt (w : World) (q : Option Addr) (v5 : Value) (M : List ByteArray) : Prop := ∀ k s, M[k]? = some s → ∃ g o, q = some ⟨g, o, none⟩ ∧ w.cell? ⟨g, o + k, none⟩ = some (.string s) ∧ v5.ownBlock ≠ some g
theorem MemAt.on {w w' : World} {q : Option Addr} {v5 : Value} {M : List ByteArray} (h : MemAt w q v5 M) (hb : Below w.heap.size w w') : MemAt w' q v5 M := fun k s hk => by
  obtain ⟨g, o, rfl, hc, hn⟩ := h k s hk
  exact ⟨g, o, rfl, (hb.cell (World.block_lt_of_cell? w _ hc)).trans hc, hn⟩
theorem MemAt.turned {w w' : World} {q : Option Addr} {v5 v' : Value} {M : List ByteArray} (h : MemAt w q v5 M) (hb : ∀ b, b < w.heap.size → v5.ownBlock ≠ some b → w'.heap[b]? = w.heap[b]?) (hv : v'.ownBlock = v5.ownBlock ∨ ∀ b, v'.ownBlock = some b → w.heap.size ≤ b) : MemAt w' q v' M := fun k s hk => by
  obtain ⟨g, o, rfl, hc, hn⟩ := h k s hk
  have hlt : g < w.heap.size := World.block_lt_of_cell? w _ hc
  refine ⟨g, o, rfl, (World.cell?_of_block (a := ⟨g, o + k, none⟩) (hb g hlt hn)).trans hc, fun e => ?_⟩
  rcases hv with hv | hv
  · exact hn (hv ▸ e)
  · have := hv g e; omega
end Go.Proofs.YtbjhleajhkofeaaDoor
namespace Go.Proofs.YtbjhleajhkofeaaDoor
open Go.RowKit
set_option linter.unusedVariables false
set_option linter.unusedSimpArgs false
attribute [local go_sem ↓] Go.wp_at_zero Go.wp_at_succ

/-- What is noted, as notes. -/
def nteS (x : Int × ByteArray) : Nte := ⟨⟨#[]⟩, 0, x.1, x.2⟩
/-- The state of Step in memory: its list's box, the result's cells, the notes' row, the words' row. -/
structure SW (I : Option Addr → Nat → Nat → List Cl → Prop) (w : World) (mF : Nat) (vW : Value) (nW : Nat) (WL : List (List UInt8)) (L : List Cl) (q : Option Addr) (n c : Nat) (N : List Nte) (vN : Value) (W : World) : Prop where
  bel : Below w.heap.size w W
  box : W.heap[w.heap.size]? = some (.cells #[.int .u8 (mF : Nat), .slice q n c] 27 (0, 0))
  res : W.heap[w.heap.size + 1]? = some (.cells #[.int .u8 0, .slice none 0 0] 27 (0, 0))
  len : n = L.length
  cur : (I q n c L ∧ LsAt w q L) ∨ W.ownsRow w.heap.size 82 2 (.slice q n c) n (rowC encC L)
  nts : W.ownsRow w.heap.size 43 4 vN N.length (rowC encN N)
  wds : W.ownsRow w.heap.size 9 1 vW nW (sL WL)
section
variable {I : Option Addr → Nat → Nat → List Cl → Prop} {w : World} {mF : Nat} {vW : Value} {nW : Nat} {WL : List (List UInt8)} {L : List Cl} {q : Option Addr} {n c : Nat} {N : List Nte} {vN : Value} {W : World}
theorem SW.ls (h : SW I w mF vW nW WL L q n c N vN W) : LsAt W q L := by
  rcases h.cur with h1 | h1
  · exact h1.2.on h.bel
  · exact LsAt.of_own h1 h.len
theorem SW.lt (h : SW I w mF vW nW WL L q n c N vN W) : w.heap.size + 1 < W.heap.size := (Array.getElem?_eq_some_iff.1 h.res).1
theorem SW.x0 (h : SW I w mF vW nW WL L q n c N vN W) : W.cell? ⟨w.heap.size, 0, none⟩ = some (.int .u8 (mF : Nat)) := (cell_of_row W w.heap.size 0 _ _ (0, 0) h.box).trans rfl
theorem SW.x1 (h : SW I w mF vW nW WL L q n c N vN W) : W.cell? ⟨w.heap.size, 1, none⟩ = some (.slice q n c) := (cell_of_row W w.heap.size 1 _ _ (0, 0) h.box).trans rfl
theorem SW.on {W' : World} (h : SW I w mF vW nW WL L q n c N vN W) (b : Below W.heap.size W W') : SW I w mF vW nW WL L q n c N vN W' :=
  have hl := h.lt
  ⟨thn16 h.bel b, (b.block _ (by omega)).trans h.box, (b.block _ (by omega)).trans h.res, h.len, h.cur.imp id (fun h1 => owns_on16 h1 b), owns_on16 h.nts b, owns_on16 h.wds b⟩
/-- What a step that writes the notes' row alone keeps. -/
theorem SW.keep (h : SW I w mF vW nW WL L q n c N vN W) {wA : World} (hg : W.grownBy wA vN.ownBlock) {k : Nat} {cs : Array Value} {t : TypeId} {fz : Nat × Nat} (hk : W.heap[k]? = some (.cells cs t fz)) (ht : t ≠ 43) : wA.heap[k]? = some (.cells cs t fz) := by
  refine (hg.block k (Array.getElem?_eq_some_iff.1 hk).1 (fun e => ?_)).trans hk
  rcases h.nts.2 with ⟨hv, _⟩ | ⟨g, cap, cur, hv, hB, hg2, _⟩
  · rw [hv] at e; cases e
  · rw [hv] at e
    have e2 : k = g := Option.some.inj e
    subst e2
    rw [hk] at hg2
    injection hg2 with hg2
    injection hg2 with _ e3 _
    exact ht e3
theorem SW.note (h : SW I w mF vW nW WL L q n c N vN W) {wA : World} {v' : Value} {N' : List Nte} (hg : W.grownBy wA vN.ownBlock) (hO : wA.ownsRow w.heap.size 43 4 v' N'.length (rowC encN N')) : SW I w mF vW nW WL L q n c N' v' wA :=
  have hl := h.lt
  ⟨h.bel.grown hg (by omega) (fun k e => (h.nts.lt k e).1), h.keep hg h.box (by decide), h.keep hg h.res (by decide), h.len, h.cur.imp id (fun h1 => owns_same16 h1 fun g cs fz _ hk => h.keep hg hk (by decide)), hO, owns_same16 h.wds fun g cs fz _ hk => h.keep hg hk (by decide)⟩
theorem SW.off (h : SW I w mF vW nW WL L q n c N vN W) {k : Nat} {cs : Array Value} {t : TypeId} {fz : Nat × Nat} (hk : W.heap[k]? = some (.cells cs t fz)) (ht : t ≠ 27) : k ≠ w.heap.size := fun e => by
  subst e
  rw [h.box] at hk
  injection hk with hk
  injection hk with _ e _
  exact ht e.symm
theorem SW.list (h : SW I w mF vW nW WL L q n c N vN W) {q' : Option Addr} {n' c' : Nat} {L' : List Cl} (hl : n' = L'.length) (hO : W.ownsRow w.heap.size 82 2 (.slice q' n' c') n' (rowC encC L')) :
    SW I w mF vW nW WL L' q' n' c' N vN (W.setCells w.heap.size 0 [.int .u8 (mF : Nat), .slice q' n' c']) :=
  ⟨below_setCells16 (Nat.le_refl _) _ _ _ h.bel, by
    have hb := h.box
    simp [World.setCells, World.setCell, Array.getElem?_modify, hb], (heap_setCells16 W _ _ (by omega) _ _).trans h.res, hl, Or.inr (owns_same16 hO fun g cs fz _ hk => (heap_setCells16 W _ _ (h.off hk (by decide)) _ _).trans hk),
    owns_same16 h.nts fun g cs fz _ hk => (heap_setCells16 W _ _ (h.off hk (by decide)) _ _).trans hk, owns_same16 h.wds fun g cs fz _ hk => (heap_setCells16 W _ _ (h.off hk (by decide)) _ _).trans hk⟩
theorem own_form16 {W : World} {B t s k : Nat} {u : Value} {xs : List Value} (h : W.ownsRow B t s u k xs) : ∃ q c, u = .slice q k c := by
  rcases h.2 with ⟨hv, h0⟩ | ⟨g, cap, cur, hv, _⟩
  · exact ⟨none, 0, by rw [hv, h0]⟩
  · exact ⟨_, _, hv⟩
end
end Go.Proofs.YtbjhleajhkofeaaDoor
namespace Go.Proofs.YtbjhleajhkofeaaDoor
open Go.RowKit
set_option linter.unusedVariables false
set_option linter.unusedSimpArgs false
attribute [local go_sem ↓] Go.wp_at_zero Go.wp_at_succ

/-- A list and notes, as they are returned. -/
abbrev InL (q0 : Option Addr) (n0 c0 : Nat) (L0 : List Cl) : Option Addr → Nat → Nat → List Cl → Prop := fun q n c L => q = q0 ∧ n = n0 ∧ c = c0 ∧ L = L0
abbrev StepL (q0 : Option Addr) (n0 c0 : Nat) (L0 : List Cl) (w w' : World) (e : Ending) (r : (Nat × List Cl) × List (Int × ByteArray)) : Prop := ∃ q n c vN, e = .returned (.tuple #[lsV r.1.1 q n c, vN]) ∧ n = r.1.2.length ∧ ((InL q0 n0 c0 L0 q n c r.1.2 ∧ LsAt w q r.1.2) ∨ r.1.2 = [] ∨ w'.ownsRow w.heap.size 82 2 (.slice q n c) n (rowC encC r.1.2)) ∧ w'.ownsRow w.heap.size 43 4 vN r.2.length (rowC encN (r.2.map nteS)) ∧ Below w.heap.size w w'
theorem StepL.ls {q0 : Option Addr} {n0 c0 : Nat} {L0 : List Cl} {w w' : World} {q : Option Addr} {n c : Nat} {L : List Cl} (h : (InL q0 n0 c0 L0 q n c L ∧ LsAt w q L) ∨ L = [] ∨ w'.ownsRow w.heap.size 82 2 (.slice q n c) n (rowC encC L)) (hl : n = L.length) (b : Below w.heap.size w w') : LsAt w' q L := by
  rcases h with h | h | h
  · exact h.2.on b
  · rw [h]; intro k c hk; simp at hk
  · exact LsAt.of_own h hl
end Go.Proofs.YtbjhleajhkofeaaDoor
