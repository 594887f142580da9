/- What the walk of FilterLists stands on: a row of assignments as pairs of a key and a value; its state in memory. No condition. -/
import Derived.Test.YtbjhleajhkofeaaDoorPe
import Derived.Test.YtbjhleajhkofeaaDoorP3
import Derived.Deep.RegionHeld3
import Derived.Test.YtbjhleajhkofeaaDoorTs
namespace Go.Proofs.YtbjhleajhkofeaaDoor
open Go.RowKit
set_option linter.unusedVariables false
set_option linter.unusedSimpArgs false

def PZ : Pol := ⟨[], (0, []), 0, (0, []), [], 0, 0, false, false, false, false⟩
end Go.Proofs.YtbjhleajhkofeaaDoor
namespace Go.Proofs.YtbjhleajhkofeaaDoor
open Go.RowKit
set_option linter.unusedVariables false
set_option linter.unusedSimpArgs false
attribute [local go_sem ↓] Go.wp_at_zero Go.wp_at_succ

theorem step_storeL17 {ops : Array Oper} {o : Oper} {a : Act} {w : World} {K : Act → World → Prop} {Q : Exit → Act → World → Prop} {E : Prop} (hgd : o.guard = none) (ty : TypeId) (x y : Operand) (ho : o.op = .store ty x y) (b i : Nat) (cs : List Value) (hx : a.eval x = .pointer (some ⟨b, i, none⟩)) (hy : a.eval y = .agg cs.toArray)
    (ht : w.there b i cs.length) (hi : (Tryd.prog.info? ty).map (·.size) = some cs.length) (h1 : cs.toArray.all (·.oneCell') = true) (h : K (a.put o.dst undef) (w.setCells b i cs)) : if Region.wanted o (yielded ops a.tmps) = true then Oper.wp Tryd.prog o a w K Q else E :=
  step_store17 hgd ty x y ho b i cs.toArray hx hy (by simpa using ht) (by simpa using hi) h1 (by simpa using h)
/-- What a drawn row of operations that sets a policy leaves: the policy in a box, its notes. -/
def F17 (V : World) (P : Pol) (N : List Nte) (X : World) (g : Nat) (p : Pls) (v : Value) : Prop := Below V.heap.size V X ∧ V.heap.size ≤ g ∧ X.heap[g]? = some (.cells (plC p P).toArray 32 (0, 0)) ∧ PolAt X p P ∧ RowsAt 4 encN X v N
theorem key17 {F R : World → Nat → Pls → Value → Prop} {T : Prop} (h1 : (∀ X g p v, F X g p v → R X g p v) → T) (h2 : ∀ X g p v, F X g p v → R X g p v) : T := h1 h2
theorem set_fresh17 {W : World} {b : Nat} {p : Pls} {P : Pol} {cs : List Value} (h : W.heap[b]? = some (.cells cs.toArray 32 (0, 0))) (hl : cs.length = 13) : (W.setCells b 0 (plC p P)).heap[b]? = some (.cells (plC p P).toArray 32 (0, 0)) := by
  have := set_row17 (W := W) (plC p P) 0 cs W h (by rw [plC_len, hl]; decide)
  rw [this, List.take_zero, List.nil_append, plC_len, Nat.zero_add, List.drop_eq_nil_of_le (by omega), List.append_nil]
/-- The zero policy's lists. -/
def pz17 : Pls := ⟨none, 0, 0, none, 0, 0, none, 0, 0, none, 0, 0⟩
end Go.Proofs.YtbjhleajhkofeaaDoor
namespace Go.Proofs.YtbjhleajhkofeaaDoor
open Go.RowKit
set_option linter.unusedVariables false
set_option linter.unusedSimpArgs false

theorem own_low17 {B B' : Nat} {w : World} {p : Pls} {P : Pol} (h : OwnP B w p P) (hb : B' ≤ B) : OwnP B' w p P := ⟨h.al, h.fl, h.ll, h.ml, owns_low16 h.ar hb, owns_low16 h.fi hb, owns_low16 h.lo hb, owns_low16 h.fa hb⟩
theorem own_box17 {B b : Nat} {w : World} {p : Pls} {P : Pol} {cs : Array Value} {fz : Nat × Nat} (h : OwnP B w p P) (hb : w.heap[b]? = some (.cells cs 32 fz)) (i : Nat) (l : List Value) : OwnP B (w.setCells b i l) p P :=
  ⟨h.al, h.fl, h.ll, h.ml, rows_box17 hb (by decide) h.ar l, rows_box17 hb (by decide) h.fi l, rows_box17 hb (by decide) h.lo l, rows_box17 hb (by decide) h.fa l⟩
/-- As F17, the policy's lists in rows of its own. -/
def F18 (V : World) (P : Pol) (N : List Nte) (X : World) (g : Nat) (p : Pls) (v : Value) : Prop := Below V.heap.size V X ∧ V.heap.size ≤ g ∧ X.heap[g]? = some (.cells (plC p P).toArray 32 (0, 0)) ∧ OwnP V.heap.size X p P ∧ X.ownsRow V.heap.size 43 4 v N.length (rowC encN N)
theorem fin18 {V W : World} {b : Nat} {p : Pls} {P : Pol} {v : Value} {N : List Nte} {cs : List Value} (hB : Below V.heap.size V W) (hb : V.heap.size ≤ b) (Z : W.heap[b]? = some (.cells cs.toArray 32 (0, 0))) (hl : cs.length = 13) (o : OwnP V.heap.size W p P) (r : W.ownsRow V.heap.size 43 4 v N.length (rowC encN N)) : F18 V P N (W.setCells b 0 (plC p P)) b p v :=
  ⟨below_setCells16 hb _ 0 _ hB, hb, set_fresh17 Z hl, own_box17 o Z 0 _, rows_box17 Z (by decide) r _⟩
section
variable {w : World} {gK gV B0 : Nat} {VA VB : List ByteArray} {n9 : Nat} {v9 : Value} {q0 : Option Addr} {n0 c0 : Nat} {q1 : Option Addr} {n1 c1 : Nat} {X Y : World}
end
end Go.Proofs.YtbjhleajhkofeaaDoor
