/- The boxes that the landed read lays for a line, and what is stored in them. No condition of their own. -/
import Derived.Test.YtlneiiljdghmjaaDoorHo
import Derived.Great.BuildSlice
import Derived.Lib.FrozenHead
namespace Go.Proofs.YtlneiiljdghmjaaDoor
open Go.RowKit Go.Shelf
set_option linter.unusedVariables false
set_option linter.unusedSimpArgs false

abbrev insO (c jt jf k : Int) : Obj := .cells #[.int .u16 c, .int .u8 jt, .int .u8 jf, .int .u32 k] 33 (0, 0)
/-- The boxes' places, in order. -/
structure RdD (w0 : World) (A R Z K N I : Nat) : Prop where
  a : w0.heap.size ≤ A
  r : A < R
  z : R < Z
  k : Z < K
  n : K < N
  i : N < I
theorem RdD.p {w0 : World} {A R Z K N I : Nat} (d : RdD w0 A R Z K N I) : RdP w0 A Z K N I R := by
  obtain ⟨h1, h2, h3, h4, h5, h6⟩ := d
  constructor <;> omega
theorem rds_start {w w1 w2 : World} {at_ : Nat} {l1 : List UInt8} {c : Int} (b1 : Below ((w.alloc (.cells #[.int .i64 at_] 3)).alloc (insO 0 0 0 0)).heap.size ((w.alloc (.cells #[.int .i64 at_] 3)).alloc (insO 0 0 0 0)) w1) (b2 : Below (w1.alloc (.cells #[.string (bs l1)] 9)).heap.size (w1.alloc (.cells #[.string (bs l1)] 9)) w2) :
    RdD w w.heap.size (w.heap.size + 1) w1.heap.size w2.heap.size (w2.heap.size + 1) (w2.heap.size + 1 + 1) ∧
    RdS w w.heap.size w1.heap.size w2.heap.size (w2.heap.size + 1) (w2.heap.size + 1 + 1) (w.heap.size + 1) (insO c 0 0 0) (insO 0 0 0 0) at_ l1 true
      (((w2.alloc (.cells #[.bool true] 4)).alloc (.cells #[.func (.func 61) #[] #[.pointer (some ⟨w1.heap.size, 0, none⟩)]] 55)).alloc (insO c 0 0 0)) := by
  have s1 := b1.size
  have s2 := b2.size
  rw [World.size_alloc, World.size_alloc] at s1
  rw [World.size_alloc] at s2
  have e1 : (w.alloc (.cells #[.int .i64 at_] 3)).heap[w.heap.size]? = some (.cells #[.int .i64 at_] 3) := heap_alloc_new w _
  have e2 : ((w.alloc (.cells #[.int .i64 at_] 3)).alloc (insO 0 0 0 0)).heap[w.heap.size + 1]? = some (insO 0 0 0 0) := by
    have := heap_alloc_new (w.alloc (.cells #[.int .i64 at_] 3)) (insO 0 0 0 0)
    rwa [World.size_alloc] at this
  have e1' : ((w.alloc (.cells #[.int .i64 at_] 3)).alloc (insO 0 0 0 0)).heap[w.heap.size]? = some (.cells #[.int .i64 at_] 3) := (Below.heap_alloc _ _ _ (by rw [World.size_alloc]; omega)).trans e1
  have f1 := (b1.block w.heap.size (by rw [World.size_alloc, World.size_alloc]; omega)).trans e1'
  have f2 := (b1.block (w.heap.size + 1) (by rw [World.size_alloc, World.size_alloc]; omega)).trans e2
  have g1 := (b2.block w.heap.size (by rw [World.size_alloc]; omega)).trans ((Below.heap_alloc _ _ _ (by omega)).trans f1)
  have g2 := (b2.block (w.heap.size + 1) (by rw [World.size_alloc]; omega)).trans ((Below.heap_alloc _ _ _ (by omega)).trans f2)
  have g3 := (b2.block w1.heap.size (by rw [World.size_alloc]; omega)).trans (heap_alloc_new w1 (.cells #[.string (bs l1)] 9))
  have up : ∀ {k : Nat} {o : Obj}, k < w2.heap.size → w2.heap[k]? = some o → (((w2.alloc (.cells #[.bool true] 4)).alloc (.cells #[.func (.func 61) #[] #[.pointer (some ⟨w1.heap.size, 0, none⟩)]] 55)).alloc (insO c 0 0 0)).heap[k]? = some o := fun {k o} hk ho =>
    (Below.heap_alloc _ _ _ (by rw [World.size_alloc, World.size_alloc]; omega)).trans ((Below.heap_alloc _ _ _ (by rw [World.size_alloc]; omega)).trans ((Below.heap_alloc _ _ _ hk).trans ho))
  have bw : Below w.heap.size w w2 := (((ball w _).trans ((ball _ _).mono (by simp))).trans (b1.mono (by rw [World.size_alloc, World.size_alloc]; omega))).trans (((ball w1 _).mono (by omega)).trans (b2.mono (by rw [World.size_alloc]; omega)))
  refine ⟨⟨Nat.le_refl _, by omega, by omega, by omega, by omega, by omega⟩, ⟨up (by omega) g1, up (by omega) g3, ?_, ?_, ?_, up (by omega) g2, ?_⟩⟩
  · exact (Below.heap_alloc _ _ _ (by rw [World.size_alloc, World.size_alloc]; omega)).trans ((Below.heap_alloc _ _ _ (by rw [World.size_alloc]; omega)).trans (heap_alloc_new w2 _))
  · have := heap_alloc_new (w2.alloc (.cells #[.bool true] 4)) (.cells #[.func (.func 61) #[] #[.pointer (some ⟨w1.heap.size, 0, none⟩)]] 55)
    rw [World.size_alloc] at this
    exact (Below.heap_alloc _ _ _ (by rw [World.size_alloc, World.size_alloc]; omega)).trans this
  · have := heap_alloc_new ((w2.alloc (.cells #[.bool true] 4)).alloc (.cells #[.func (.func 61) #[] #[.pointer (some ⟨w1.heap.size, 0, none⟩)]] 55)) (insO c 0 0 0)
    rwa [World.size_alloc, World.size_alloc] at this
  · exact ((bw.alloc bw.size _).alloc (by rw [World.size_alloc]; have := bw.size; omega) _).alloc (by rw [World.size_alloc, World.size_alloc]; have := bw.size; omega) _
section
variable {w0 V : World} {A R Z K N I at_ : Nat} {oi orr : Obj} {l : List UInt8} {b : Bool}
theorem RdS.rowK {b' : Bool} (h : RdS w0 A Z K N I R oi orr at_ l b V) (d : RdD w0 A R Z K N I) : RdS w0 A Z K N I R oi orr at_ l b' (V.setRow K #[.bool b']) := by
  obtain ⟨h1, h2, h3, h4, h5, h6⟩ := d
  have keep : ∀ {k : Nat} {o : Obj}, k ≠ K → V.heap[k]? = some o → (V.setRow K #[.bool b']).heap[k]? = some o := fun {k o} hk ho => (setRow_other V K k _ hk).trans ho
  exact ⟨keep (by omega) h.pa, keep (by omega) h.pz, setRow_heap V K _ _ _ _ h.pk, keep (by omega) h.pn, keep (by omega) h.pi, keep (by omega) h.pr, h.bel.trans ⟨rfl, rfl, rfl, by simp, fun k hk => setRow_other V K k _ (by omega)⟩⟩
theorem RdS.rowI {cs cs' : Array Value} {t : TypeId} (h : RdS w0 A Z K N I R (.cells cs t (0, 0)) orr at_ l b V) (d : RdD w0 A R Z K N I) : RdS w0 A Z K N I R (.cells cs' t (0, 0)) orr at_ l b (V.setRow I cs') := by
  obtain ⟨h1, h2, h3, h4, h5, h6⟩ := d
  have keep : ∀ {k : Nat} {o : Obj}, k ≠ I → V.heap[k]? = some o → (V.setRow I cs').heap[k]? = some o := fun {k o} hk ho => (setRow_other V I k _ hk).trans ho
  exact ⟨keep (by omega) h.pa, keep (by omega) h.pz, keep (by omega) h.pk, keep (by omega) h.pn, setRow_heap V I _ _ _ _ h.pi, keep (by omega) h.pr, h.bel.trans ⟨rfl, rfl, rfl, by simp, fun k hk => setRow_other V I k _ (by omega)⟩⟩
end
theorem run_storeVar_at {P : Program} (w : World) (g i : Nat) (t ty : TypeId) (cs : Array Value) (v : Value) (hg : w.heap[g]? = some (.cells cs t (0, 0))) (hi : (P.info? ty).map (·.size) = some 1) (h1 : v.oneCell' = true) (hlt : i < cs.size) :
    (storeVar ty ⟨g, i, none⟩ v).run P w = .ok () (w.setRow g (cs.toList.take i ++ [v] ++ cs.toList.drop (i + 1)).toArray) := by
  have := run_storeCells_atF P g i t (0, 0) [v] 0 cs w hg (by simp) (by simp; omega) (fun x hx => by simp at hx; subst hx; exact h1)
  have hc : v.cells = #[v] := by cases v <;> first | rfl | cases h1
  cases hq : P.info? ty with
  | none => simp [hq] at hi
  | some q =>
    have hs : q.size = 1 := by simpa [hq] using hi
    simp only [Nat.add_zero, List.length_cons, List.length_nil, Nat.zero_add] at this
    simp [storeVar, sizeOf, typeInfo, hq, hc, hs, this]
section
variable {ops : Array Oper} {rest : List Oper} {op : Oper} {a : Act} {Q : Exit → Act → World → Prop} {w0 V : World} {A R Z K N I at_ : Nat} {orr oi : Obj} {l : List UInt8} {b : Bool} {x y : Operand}
theorem put_K {b' : Bool} (h : RdS w0 A Z K N I R oi orr at_ l b V) (d : RdD w0 A R Z K N I) (hgd : op.guard = none) (ho : op.op = .store 4 x y) (hx : a.eval x = .pointer (some ⟨K, 0, none⟩)) (hy : a.eval y = .bool b')
    (hK : ∀ V', RdS w0 A Z K N I R oi orr at_ l b' V' → wpList Tryd.prog ops Q rest (a.put op.dst undef) V') : wpList Tryd.prog ops Q (op :: rest) a V :=
  wpList_store_one hgd _ x y ho K hx (by rw [hy]; rfl) _ _ h.pk (by kernel_rfl) (by rw [hy]; exact hK _ (h.rowK d))
theorem put_I {cs : Array Value} {t ty : TypeId} {i : Nat} {v : Value} (h : RdS w0 A Z K N I R (.cells cs t (0, 0)) orr at_ l b V) (d : RdD w0 A R Z K N I) (hgd : op.guard = none) (ho : op.op = .store ty x y) (hx : a.eval x = .pointer (some ⟨I, i, none⟩)) (hy : a.eval y = v) (hi : (Tryd.prog.info? ty).map (·.size) = some 1) (h1 : v.oneCell' = true) (hlt : i < cs.size)
    (hK : ∀ V', RdS w0 A Z K N I R (.cells (cs.toList.take i ++ [v] ++ cs.toList.drop (i + 1)).toArray t (0, 0)) orr at_ l b V' → wpList Tryd.prog ops Q rest (a.put op.dst undef) V') : wpList Tryd.prog ops Q (op :: rest) a V :=
  wpList_plain hgd fun _ hQ => by
    unfold Oper.wp execOp
    simp only [ho, hx, hy, Instr.storeAt, Instr.sureAddr, Sem.run_bind, Sem.run_pure, Result.andThen_ok, run_storeVar_at V I i t ty cs v h.pi hi h1 hlt]
    exact hQ _ _ (hK _ (h.rowI d))
theorem put_I1 {c jt jf k v : Int} (h : RdS w0 A Z K N I R (insO c jt jf k) orr at_ l b V) (d : RdD w0 A R Z K N I) (hgd : op.guard = none) (ho : op.op = .store 5 x y) (hx : a.eval x = .pointer (some ⟨I, 1, none⟩)) (hy : a.eval y = .int .u8 v)
    (hK : ∀ V', RdS w0 A Z K N I R (insO c v jf k) orr at_ l b V' → wpList Tryd.prog ops Q rest (a.put op.dst undef) V') : wpList Tryd.prog ops Q (op :: rest) a V := put_I h d hgd ho hx hy (by kernel_rfl) rfl (by simp) hK
theorem put_I2 {c jt jf k v : Int} (h : RdS w0 A Z K N I R (insO c jt jf k) orr at_ l b V) (d : RdD w0 A R Z K N I) (hgd : op.guard = none) (ho : op.op = .store 5 x y) (hx : a.eval x = .pointer (some ⟨I, 2, none⟩)) (hy : a.eval y = .int .u8 v)
    (hK : ∀ V', RdS w0 A Z K N I R (insO c jt v k) orr at_ l b V' → wpList Tryd.prog ops Q rest (a.put op.dst undef) V') : wpList Tryd.prog ops Q (op :: rest) a V := put_I h d hgd ho hx hy (by kernel_rfl) rfl (by simp) hK
theorem put_I3 {c jt jf k v : Int} (h : RdS w0 A Z K N I R (insO c jt jf k) orr at_ l b V) (d : RdD w0 A R Z K N I) (hgd : op.guard = none) (ho : op.op = .store 31 x y) (hx : a.eval x = .pointer (some ⟨I, 3, none⟩)) (hy : a.eval y = .int .u32 v)
    (hK : ∀ V', RdS w0 A Z K N I R (insO c jt jf v) orr at_ l b V' → wpList Tryd.prog ops Q rest (a.put op.dst undef) V') : wpList Tryd.prog ops Q (op :: rest) a V := put_I h d hgd ho hx hy (by kernel_rfl) rfl (by simp) hK
end
end Go.Proofs.YtlneiiljdghmjaaDoor
