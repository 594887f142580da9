/- What awake and FilterLists' walk share: a policy set and kept in a box. -/
import Derived.Test.YtanifiobfbfehaaGreatDoorPd
import Derived.Test.YtanifiobfbfehaaGreatDoorP3
import Derived.Deep.RegionHeld3
namespace Go.Proofs.YtanifiobfbfehaaGreatDoor
open Go.RowKit
set_option linter.unusedVariables false
set_option linter.unusedSimpArgs false
attribute [local go_sem ↓] Go.wp_at_zero Go.wp_at_succ

theorem step_storeL17 {ops : Array Oper} {o : Oper} {a : Act} {w : World} {K : Act → World → Prop} {Q : Exit → Act → World → Prop} {E : Prop} (hgd : o.guard = none) (ty : TypeId) (x y : Operand) (ho : o.op = .store ty x y) (b i : Nat) (cs : List Value) (hx : a.eval x = .pointer (some ⟨b, i, none⟩)) (hy : a.eval y = .agg cs.toArray)
    (ht : w.there b i cs.length) (hi : (Tryz.prog.info? ty).map (·.size) = some cs.length) (h1 : cs.toArray.all (·.oneCell') = true) (h : K (a.put o.dst undef) (w.setCells b i cs)) : if Region.wanted o (yielded ops a.tmps) = true then Oper.wp Tryz.prog o a w K Q else E :=
  step_store17 hgd ty x y ho b i cs.toArray hx hy (by simpa using ht) (by simpa using hi) h1 (by simpa using h)
/-- What a drawn row of operations that sets a policy leaves: the policy in a box, its notes. -/
def F17 (V : World) (P : Pol) (N : List Nte) (X : World) (g : Nat) (p : Pls) (v : Value) : Prop := Below V.heap.size V X ∧ V.heap.size ≤ g ∧ X.heap[g]? = some (.cells (plC p P).toArray 30 (0, 0)) ∧ PolAt X p P ∧ RowsAt 4 encN X v N
theorem key17 {F R : World → Nat → Pls → Value → Prop} {T : Prop} (h1 : (∀ X g p v, F X g p v → R X g p v) → T) (h2 : ∀ X g p v, F X g p v → R X g p v) : T := h1 h2
theorem set_fresh17 {W : World} {b : Nat} {p : Pls} {P : Pol} {cs : List Value} (h : W.heap[b]? = some (.cells cs.toArray 30 (0, 0))) (hl : cs.length = 13) : (W.setCells b 0 (plC p P)).heap[b]? = some (.cells (plC p P).toArray 30 (0, 0)) := by
  have := set_row17 (W := W) (plC p P) 0 cs W h (by rw [plC_len, hl]; decide)
  rw [this, List.take_zero, List.nil_append, plC_len, Nat.zero_add, List.drop_eq_nil_of_le (by omega), List.append_nil]
theorem pol_box17 {W : World} {b B B2 : Nat} {p : Pls} {P : Pol} {v : Value} {N : List Nte} {cs : Array Value} {fz : Nat × Nat} (hb : W.heap[b]? = some (.cells cs 30 fz)) (o : OwnP B W p P) (r : W.ownsRow B2 51 4 v N.length (rowC encN N)) (l : List Value) : PolAt (W.setCells b 0 l) p P ∧ RowsAt 4 encN (W.setCells b 0 l) v N :=
  ⟨OwnP.pol (B := B) ⟨o.al, o.fl, o.ll, o.ml, rows_box17 hb (by decide) o.ar l, rows_box17 hb (by decide) o.fi l, rows_box17 hb (by decide) o.lo l, rows_box17 hb (by decide) o.fa l⟩, rows_own encN_len (rows_box17 hb (by decide) r l)⟩
theorem fin17 {V W : World} {b B B2 : Nat} {p : Pls} {P : Pol} {v : Value} {N : List Nte} {cs : List Value} (hB : Below V.heap.size V W) (hb : V.heap.size ≤ b) (Z : W.heap[b]? = some (.cells cs.toArray 30 (0, 0))) (hl : cs.length = 13) (o : OwnP B W p P) (r : W.ownsRow B2 51 4 v N.length (rowC encN N)) : F17 V P N (W.setCells b 0 (plC p P)) b p v := by
  obtain ⟨h1, h2⟩ := pol_box17 Z o r (plC p P)
  exact ⟨below_setCells16 hb _ 0 _ hB, hb, set_fresh17 Z hl, h1, h2⟩
theorem ok_small17 {P : Pol} (h1 : P.fl.1 < 256) (h2 : P.lg.1 < 256) (h3 : P.fm = 0) (h4 : P.dn < 4294967296) (h5 : P.sp = 0) (h6 : ∀ e ∈ P.fl.2, e.2 < 4294967296) (h7 : ∀ e ∈ P.lg.2, e.2 < 4294967296) (h8 : P.ar = []) (h9 : P.fa = []) : P.Ok :=
  ⟨h1, h2, by omega, h4, by omega, h6, h7, fun x hx => (by rw [h8] at hx; cases hx), fun x hx => (by rw [h9] at hx; cases hx)⟩
theorem okZ : PZ.Ok := ok_small17 (by decide) (by decide) rfl (by decide) rfl (by decide) (by decide) rfl rfl
theorem okA1 : PA1.Ok := ok_small17 (by decide) (by decide) rfl (by decide) rfl (by decide) (by decide) rfl rfl
theorem okA2 : PA2.Ok := ok_small17 (by decide) (by decide) rfl (by decide) rfl (by decide) (by decide) rfl rfl
theorem okA3 : PA3.Ok := ok_small17 (by decide) (by decide) rfl (by decide) rfl (by decide) (by decide) rfl rfl
theorem okA4 : PA4.Ok := ok_small17 (by decide) (by decide) rfl (by decide) rfl (by decide) (by decide) rfl rfl
/-- The zero policy's lists. -/
def pz17 : Pls := ⟨none, 0, 0, none, 0, 0, none, 0, 0, none, 0, 0⟩
theorem polZ (w : World) (P : Pol) (h1 : P.ar = []) (h2 : P.fl.2 = []) (h3 : P.lg.2 = []) (h4 : P.fa = []) : PolAt w pz17 P :=
  ⟨by rw [h1]; rfl, by rw [h2]; rfl, by rw [h3]; rfl, by rw [h4]; rfl, fun i x hx => (by rw [h1] at hx; cases hx), fun i x hx => (by rw [h2] at hx; cases hx), fun i x hx => (by rw [h3] at hx; cases hx), fun i x hx => (by rw [h4] at hx; cases hx)⟩
/-- What Set makes of a policy, its answer and its notes being known. -/
theorem set_is17 {G : World → Prop} (HC : FilterC G) (P P' : Pol) (k v : ByteArray) (N : List Nte) (n : List (Int × ByteArray)) (ok : P.Ok) (hs : setF P k v = (P', n)) (hN : n.map (nteP ⟨⟨#[102]⟩, 3, ⟨#[83, 101, 114, 118, 105, 99, 101]⟩, k, v⟩) = N) (hk : k.size ≤ 200) (hv : v.size ≤ 1000) (h1 : P.ar.length ≤ 20) (h2 : P.fa.length ≤ 20) (h3 : P.fl.2.length ≤ 100) (h4 : P.lg.2.length ≤ 100) (q : Pls) (w : World) (g : G w) (h : PolAt w q P) :
    Calls Tryz.prog 9 #[.agg #[.slice q.aq q.an q.ac, .int .u8 (P.fl.1 : Nat), .slice q.fq q.fn q.fc, .int .u32 (P.dn : Nat), .int .u8 (P.lg.1 : Nat), .slice q.lq q.ln q.lc, .slice q.mq q.mn q.mc, .int .u8 (P.fm : Nat), .int .u64 (P.sp : Nat), .bool P.b1, .bool P.b2, .bool P.b3, .bool P.b4], .agg #[.string ⟨#[102]⟩, .int .i64 3, .string ⟨#[83, 101, 114, 118, 105, 99, 101]⟩, .string k, .string v]] w fun e w' => ∃ p' u, e = .returned (.tuple #[plV p' P', u]) ∧ OwnP w.heap.size w' p' P' ∧ w'.ownsRow w.heap.size 51 4 u N.length (rowC encN N) ∧ Below w.heap.size w w' := by
  have := HC.set q P ⟨⟨#[102]⟩, 3, ⟨#[83, 101, 114, 118, 105, 99, 101]⟩, k, v⟩ w g ok h (by rw [h.al]; exact h1) (by rw [h.ml]; exact h2) (by rw [h.fl]; exact h3) (by rw [h.ll]; exact h4) hv hk
  simp only at this
  rw [hs, hN] at this
  exact this
end Go.Proofs.YtanifiobfbfehaaGreatDoor
