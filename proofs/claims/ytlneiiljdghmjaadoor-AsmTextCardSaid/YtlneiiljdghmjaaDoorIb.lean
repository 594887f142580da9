/- An instruction as a value and as cells in memory; what the document's own Encode and Decode return. Condition: each number fits its kind. Instructions in memory; what the document's own Print, Same and Copy return of a slice that reads as a program. Condition: the program is as long as its slice. -/
import Derived.Test.YtlneiiljdghmjaaDoorIa
import Derived.Test.YtlneiiljdghmjaaDoorWd
import Derived.Deep.AppendLies
import Derived.Deep.DrawnRows
import Derived.RegionTactic
import Derived.BigRegion
namespace Go.Proofs.YtlneiiljdghmjaaDoor
open Go.RowKit
set_option linter.unusedVariables false

/-- The instruction as a value. -/
def insV (i : Ins) : Value := .agg #[.int .u16 i.c, .int .u8 i.jt, .int .u8 i.jf, .int .u32 i.k]
/-- A new block's cells behind a call that makes new memory alone. -/
theorem box_cells {w w1 : World} {cs : Array Value} {t : TypeId} (b : Below (w.alloc (.cells cs t)).heap.size (w.alloc (.cells cs t)) w1) (j : Nat) (v : Value) (h : cs[j]? = some v) : w1.cell? ⟨w.heap.size, j, none⟩ = some v := by
  rw [b.cell (p := ⟨w.heap.size, j, none⟩) (by simp), cell_of_row (w.alloc (.cells cs t)) w.heap.size j cs t (0, 0) (heap_alloc_new w _)]
  exact h
/-- A cell of a block that was there is there behind a growth of another row. -/
theorem cell_grown {w w1 : World} {o : Obj} {p : Addr} {v : Value} {g : Nat} (h : w.cell? p = some v) (hg : (w.alloc o).grownBy w1 (some g)) (hne : p.block ≠ g) : w1.cell? p = some v := by
  have hb := World.block_lt_of_cell? w p h
  rw [World.cell?_of_block (hg.block p.block (by simp; omega) (fun e => hne (by injection e))), World.cell?_alloc_lt w o p hb]
  exact h
theorem Below.grown_lit {w0 w w1 : World} {o : Obj} {g : Nat} (hb : Below w0.heap.size w0 w) (hg : (w.alloc o).grownBy w1 (some g)) (h : w0.heap.size ≤ g) : Below w0.heap.size w0 w1 :=
  (hb.alloc hb.size o).grown hg (by have := hb.size; simp; omega) (by intro k hk; cases hk; exact h)
theorem own_mono {w : World} {B B' n size : Nat} {e : TypeId} {v : Value} {xs : List Value} (h : w.ownsRow B e size v n xs) (hB : B' ≤ B) : w.ownsRow B' e size v n xs := by
  obtain ⟨h1, h2⟩ := h
  refine ⟨h1, ?_⟩
  rcases h2 with h2 | ⟨g, cap, cur, hv, hg, r⟩
  · exact Or.inl h2
  · exact Or.inr ⟨g, cap, cur, hv, Nat.le_trans hB hg, r⟩
theorem news_lit (w : World) (cs : Array Value) (e : TypeId) (l : List Value) (h : cs.toList = l) : ∀ j u, l[j]? = some u → (w.alloc (.cells cs e)).cell? ((⟨w.heap.size, 0, none⟩ : Addr).add j) = some u := by
  intro j u hu
  subst h
  rw [Addr.add_lit, Nat.zero_add, cell_of_row (w.alloc (.cells cs e)) w.heap.size j cs e (0, 0) (heap_alloc_new w _)]
  simpa using hu
end Go.Proofs.YtlneiiljdghmjaaDoor
namespace Go.Proofs.YtlneiiljdghmjaaDoor
open Go.RowKit
set_option linter.unusedVariables false

/-- The four cells of an instruction from the offset o of block b on. -/
structure InsAt (w : World) (b o : Nat) (i : Ins) : Prop where
  a0 : w.cell? ⟨b, o, none⟩ = some (.int .u16 i.c)
  a1 : w.cell? ⟨b, o + 1, none⟩ = some (.int .u8 i.jt)
  a2 : w.cell? ⟨b, o + 2, none⟩ = some (.int .u8 i.jf)
  a3 : w.cell? ⟨b, o + 3, none⟩ = some (.int .u32 i.k)
theorem InsAt.keep {w w' : World} {b o : Nat} {i : Ins} (h : InsAt w b o i) (hk : ∀ q : Addr, q.block = b → w'.cell? q = w.cell? q) : InsAt w' b o i :=
  ⟨(hk _ rfl).trans h.a0, (hk _ rfl).trans h.a1, (hk _ rfl).trans h.a2, (hk _ rfl).trans h.a3⟩
/-- The slice leads, below block B, to the program. -/
def RdI (w : World) (B : Nat) (p : Option Addr) (l : List Ins) : Prop :=
  0 < l.length → ∃ b o, p = some ⟨b, o, none⟩ ∧ b < B ∧ ∀ i (h : i < l.length), InsAt w b (o + i * 4) l[i]
theorem RdI.nil (w : World) (B : Nat) (p : Option Addr) : RdI w B p [] := fun h => absurd h (by simp)
theorem RdI.keep {w w' : World} {B : Nat} {p : Option Addr} {l : List Ins} (h : RdI w B p l) (hk : ∀ q : Addr, q.block < B → w'.cell? q = w.cell? q) : RdI w' B p l := fun hn => by
  obtain ⟨b, o, e, hb, hc⟩ := h hn
  exact ⟨b, o, e, hb, fun i hi => (hc i hi).keep fun q hq => hk q (by omega)⟩
theorem RdI.more {w : World} {B B' : Nat} {p : Option Addr} {l : List Ins} (h : RdI w B p l) (hB : B ≤ B') : RdI w B' p l := fun hn => by
  obtain ⟨b, o, e, hb, hc⟩ := h hn
  exact ⟨b, o, e, by omega, hc⟩
theorem RdI.below {w w' : World} {B B' : Nat} {p : Option Addr} {l : List Ins} (h : RdI w B p l) (hb : Below B' w w') (hB : B ≤ B') : RdI w' B p l := h.keep fun _ hq => hb.cell (by omega)
theorem RdI.drewN {w : World} {B : Nat} {p : Option Addr} {l : List Ins} (h : RdI w B p l) (n : Nat) : RdI (w.drewN n) B p l := h.keep fun q _ => rfl
theorem RdI.on {w w' : World} {p : Option Addr} {l : List Ins} (h : RdI w w.heap.size p l) (hb : Below w.heap.size w w') : RdI w' w'.heap.size p l := (h.below hb (Nat.le_refl _)).more hb.size
theorem RdI.alloc {w : World} {B : Nat} {p : Option Addr} {l : List Ins} (h : RdI w B p l) (hB : B ≤ w.heap.size) (o : Obj) : RdI (w.alloc o) B p l := h.keep fun q hq => World.cell?_alloc_lt w o q (by omega)
theorem RdI.setCell {w : World} {B : Nat} {p : Option Addr} {l : List Ins} (h : RdI w B p l) {q : Addr} (hB : B ≤ q.block) (u : Value) : RdI (w.setCell q u) B p l :=
  h.keep fun r hr => World.cell?_setCell_other w q r u (fun e => by subst e; omega)
/-- The cells of a program, one behind the other. -/
def insC (i : Ins) : List Value := [.int .u16 i.c, .int .u8 i.jt, .int .u8 i.jf, .int .u32 i.k]
def progC (l : List Ins) : List Value := l.flatMap insC
theorem progC_length : ∀ (l : List Ins), (progC l).length = l.length * 4
  | [] => rfl
  | i :: r => by
    have := progC_length r
    show (insC i ++ progC r).length = _
    rw [List.length_append, this, List.length_cons]
    show 4 + r.length * 4 = _
    omega
theorem progC_app (l m : List Ins) : progC (l ++ m) = progC l ++ progC m := List.flatMap_append
theorem progC_get : ∀ {l : List Ins} {i : Nat} (h : i < l.length) (j : Nat) (hj : j < 4), (progC l)[i * 4 + j]? = (insC l[i])[j]?
  | a :: r, 0, _, j, hj => by
    show (insC a ++ progC r)[0 * 4 + j]? = _
    rw [Nat.zero_mul, Nat.zero_add, List.getElem?_append_left (by show j < 4; exact hj)]; rfl
  | a :: r, i + 1, h, j, hj => by
    show (insC a ++ progC r)[(i + 1) * 4 + j]? = _
    have e : (i + 1) * 4 + j = (insC a).length + (i * 4 + j) := by show _ = 4 + _; omega
    rw [e, List.getElem?_append_right (by omega), Nat.add_sub_cancel_left]
    exact progC_get (l := r) (i := i) (by simpa using h) j hj
theorem progC_one (l : List Ins) : ∀ v ∈ progC l, v.oneCell' = true := by
  intro v hv
  obtain ⟨i, _, hi⟩ := List.mem_flatMap.1 hv
  simp only [insC, List.mem_cons, List.not_mem_nil, or_false] at hi
  rcases hi with rfl | rfl | rfl | rfl <;> rfl
/-- A block's cells from an offset on are the program's. -/
theorem RdI.of_cells {w : World} {B b o : Nat} {l : List Ins} (hb : b < B) (h : ∀ j u, (progC l)[j]? = some u → w.cell? ⟨b, o + j, none⟩ = some u) : RdI w B (some ⟨b, o, none⟩) l := fun _ =>
  ⟨b, o, rfl, hb, fun i hi => ⟨h (i * 4) _ (progC_get hi 0 (by omega)), by rw [Nat.add_assoc]; exact h (i * 4 + 1) _ (progC_get hi 1 (by omega)), by rw [Nat.add_assoc]; exact h (i * 4 + 2) _ (progC_get hi 2 (by omega)), by rw [Nat.add_assoc]; exact h (i * 4 + 3) _ (progC_get hi 3 (by omega))⟩⟩
/-- .. and the other way. -/
theorem RdI.news {w : World} {B : Nat} {p : Option Addr} {l : List Ins} (h : RdI w B p l) (hn : 0 < l.length) : ∃ ad, p = some ad ∧ ∀ j u, (progC l)[j]? = some u → w.cell? (ad.add j) = some u := by
  obtain ⟨b, o, rfl, _, hc⟩ := h hn
  refine ⟨_, rfl, fun j u hu => ?_⟩
  rw [Addr.add_lit]
  have hj : j < l.length * 4 := by
    have := (List.getElem?_eq_some_iff.1 hu).1
    rwa [progC_length] at this
  obtain ⟨q, r, e, hr⟩ : ∃ q r, j = q * 4 + r ∧ r < 4 := ⟨j / 4, j % 4, by omega, by omega⟩
  subst e
  have hi : q < l.length := by omega
  have hg := progC_get hi r hr
  rw [hu] at hg
  obtain ⟨a0, a1, a2, a3⟩ := hc q hi
  have h4 : r = 0 ∨ r = 1 ∨ r = 2 ∨ r = 3 := by omega
  rcases h4 with rfl | rfl | rfl | rfl
  · injection hg with hg; subst hg; exact a0
  · injection hg with hg; subst hg; exact a1
  · injection hg with hg; subst hg; exact a2
  · injection hg with hg; subst hg; exact a3
/-- What the call owns stays owned behind a call that makes new memory alone. -/
theorem own_on {w w' : World} {B n size : Nat} {e : TypeId} {v : Value} {xs : List Value} (h : w.ownsRow B e size v n xs) (hb : Below w.heap.size w w') : w'.ownsRow B e size v n xs := by
  have hl := h.lt
  obtain ⟨h1, h2⟩ := h
  refine ⟨h1, ?_⟩
  rcases h2 with h2 | ⟨g, cap, cur, hv, hg, hh, r⟩
  · exact Or.inl h2
  · exact Or.inr ⟨g, cap, cur, hv, hg, by rw [hb.block g (hl g (by rw [hv]; rfl)).2]; exact hh, r⟩
/-- The shape of what is owned: bytes. -/
theorem own_shape {w : World} {B n : Nat} {e : TypeId} {v : Value} {xs : List Int} (h : w.ownsRow B e 1 v n (bv xs)) : ∃ p c, v = .slice p n c ∧ Rd w w.heap.size p xs ∧ (p = none → c = 0) ∧ n ≤ c := by
  have hl : xs.length = n := by have := h.1; rw [bv_length] at this; omega
  rcases h.2 with ⟨rfl, rfl⟩ | ⟨g, cap, cur, rfl, _, _, hc, _⟩
  · obtain rfl : xs = [] := List.eq_nil_of_length_eq_zero hl
    exact ⟨none, 0, rfl, Rd.nil _ _ _, fun _ => rfl, Nat.le_refl _⟩
  · exact ⟨_, cap, rfl, Rd.of_own h, (fun h => by cases h), hc⟩
/-- The shape of what is owned: instructions. -/
theorem own_shapeI {w : World} {B n : Nat} {e : TypeId} {v : Value} {l : List Ins} (h : w.ownsRow B e 4 v n (progC l)) : ∃ p c, v = .slice p n c ∧ RdI w w.heap.size p l ∧ (p = none → c = 0) ∧ n ≤ c := by
  have hl : l.length = n := by have := h.1; rw [progC_length] at this; omega
  rcases h.2 with ⟨rfl, rfl⟩ | ⟨g, cap, cur, rfl, _, _, hc, _⟩
  · obtain rfl : l = [] := List.eq_nil_of_length_eq_zero hl
    exact ⟨none, 0, rfl, RdI.nil _ _ _, fun _ => rfl, Nat.le_refl _⟩
  · refine ⟨_, cap, rfl, RdI.of_cells (h.lt g rfl).2 (fun j u hu => ?_), (fun h => by cases h), hc⟩
    have := h.cells (g := g) rfl j u hu
    rwa [Addr.add_lit] at this
theorem insn_info : (Tryd.prog.info? 33).map (fun i => (i.zero, i.size, i.bytes)) = some (some (.agg #[.int .u16 0, .int .u8 0, .int .u8 0, .int .u32 0]), 4, 8) := by kernel_rfl
theorem ret_eq {v v' : Value} (h : v = v') : Ending.returned v = .returned v' := by rw [h]
end Go.Proofs.YtlneiiljdghmjaaDoor
