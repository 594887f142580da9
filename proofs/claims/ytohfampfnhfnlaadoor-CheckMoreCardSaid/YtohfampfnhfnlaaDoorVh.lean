/- What the document's own Run returns: what the plain function says. Condition: a program of at most a thousand instructions. What the calls of the package vm have to return, as the chapter says it: the statements of layer 4 are walked over these; and the chapter's examples, with which they begin. Conditions: a program of at most a thousand instructions; what the calls lean on in memory (G) lies there. -/
import Derived.Test.YtohfampfnhfnlaaDoorVb
import Derived.Deep.RegionHeld3
import Derived.Deep.DrawnRows
import Derived.LoopN
import Derived.Test.YtohfampfnhfnlaaDoorFi
namespace Go.Proofs.YtohfampfnhfnlaaDoor
open Go.RowKit
set_option linter.unusedVariables false
attribute [local go_sem ↓] Go.wp_at_zero Go.wp_at_succ

/-- Places as values. -/
def plV (l : List Nat) : List Value := l.map (fun j : Nat => Value.int .i64 (j : Int))
theorem plV_length (l : List Nat) : (plV l).length = l.length := List.length_map ..
theorem plV_snoc (l : List Nat) (j : Nat) : plV (l ++ [j]) = plV l ++ [.int .i64 (j : Int)] := by simp [plV]
theorem plV_one (l : List Nat) : ∀ v ∈ plV l, v.oneCell' = true := by
  intro v hv
  obtain ⟨j, _, rfl⟩ := List.mem_map.1 hv
  rfl
theorem int_info : (Tryd.prog.info? 3).map (fun i => (i.zero, i.size, i.bytes)) = some (some (.int .i64 0), 1, 8) := by kernel_rfl
theorem own_but {w w' : World} {B n size M : Nat} {e : TypeId} {v : Value} {xs : List Value} (h : w.ownsRow B e size v n xs) (hg : w.grownBy w' (some M)) (hM : M < B) : w'.ownsRow B e size v n xs := by
  have hl := h.lt
  obtain ⟨h1, h2⟩ := h
  refine ⟨h1, ?_⟩
  rcases h2 with h2 | ⟨g, cap, cur, hv, hgB, hh, r⟩
  · exact Or.inl h2
  · exact Or.inr ⟨g, cap, cur, hv, hgB, by rw [hg.block g (hl g (by rw [hv]; rfl)).2 (fun e => by injection e with e; omega)]; exact hh, r⟩
theorem cell_but {w w' : World} {M : Nat} {p : Addr} {u : Value} (hg : w.grownBy w' (some M)) (hp : p.block ≠ M) (h : w.cell? p = some u) : w'.cell? p = some u :=
  (World.cell?_of_block (hg.block _ (World.block_lt_of_cell? w p h) (fun e => hp (by injection e)))).trans h
theorem BoxD.but {w w' : World} {b M : Nat} {d : Dat} (h : BoxD w b d) (hg : w.grownBy w' (some M)) (hb : b ≠ M) : BoxD w' b d := (hg.block b h.lt (fun e => hb (by injection e))).trans h
theorem RdI.but {w w' : World} {B M : Nat} {p : Option Addr} {l : List Ins} (h : RdI w B p l) (hg : w.grownBy w' (some M)) (hB : B ≤ M) (hw : B ≤ w.heap.size) : RdI w' B p l := h.keep fun q hq => World.cell?_of_block (hg.block _ (by omega) (fun e => by injection e with e; omega))
theorem below_but {w0 w w' : World} {M : Nat} (h : Below w0.heap.size w0 w) (hg : w.grownBy w' (some M)) (hM : w0.heap.size ≤ M) : Below w0.heap.size w0 w' := h.grown hg h.size (fun k hk => by injection hk with hk; omega)
theorem dw13 {v : World} {b0 o0 b1 o1 b2 o2 b3 o3 b4 o4 b5 o5 b6 o6 b7 o7 b8 o8 b9 o9 b10 o10 b11 o11 b12 o12 : Nat} {u0 u1 u2 u3 u4 u5 u6 u7 u8 u9 u10 u11 u12 : Value} (h : v.cell? ⟨b0, o0, none⟩ = some u0 ∧ v.cell? ⟨b1, o1, none⟩ = some u1 ∧ v.cell? ⟨b2, o2, none⟩ = some u2 ∧ v.cell? ⟨b3, o3, none⟩ = some u3 ∧ v.cell? ⟨b4, o4, none⟩ = some u4 ∧ v.cell? ⟨b5, o5, none⟩ = some u5 ∧ v.cell? ⟨b6, o6, none⟩ = some u6 ∧ v.cell? ⟨b7, o7, none⟩ = some u7 ∧ v.cell? ⟨b8, o8, none⟩ = some u8 ∧ v.cell? ⟨b9, o9, none⟩ = some u9 ∧ v.cell? ⟨b10, o10, none⟩ = some u10 ∧ v.cell? ⟨b11, o11, none⟩ = some u11 ∧ v.cell? ⟨b12, o12, none⟩ = some u12) : v.drew.cell? ⟨b0, o0, none⟩ = some u0 ∧ v.drew.cell? ⟨b1, o1, none⟩ = some u1 ∧ v.drew.cell? ⟨b2, o2, none⟩ = some u2 ∧ v.drew.cell? ⟨b3, o3, none⟩ = some u3 ∧ v.drew.cell? ⟨b4, o4, none⟩ = some u4 ∧ v.drew.cell? ⟨b5, o5, none⟩ = some u5 ∧ v.drew.cell? ⟨b6, o6, none⟩ = some u6 ∧ v.drew.cell? ⟨b7, o7, none⟩ = some u7 ∧ v.drew.cell? ⟨b8, o8, none⟩ = some u8 ∧ v.drew.cell? ⟨b9, o9, none⟩ = some u9 ∧ v.drew.cell? ⟨b10, o10, none⟩ = some u10 ∧ v.drew.cell? ⟨b11, o11, none⟩ = some u11 ∧ v.drew.cell? ⟨b12, o12, none⟩ = some u12 := h
theorem but13 {v w' : World} {M : Nat} {b0 o0 b1 o1 b2 o2 b3 o3 b4 o4 b5 o5 b6 o6 b7 o7 b8 o8 b9 o9 b10 o10 b11 o11 b12 o12 : Nat} {u0 u1 u2 u3 u4 u5 u6 u7 u8 u9 u10 u11 u12 : Value} (hg : v.grownBy w' (some M)) (n0 : b0 ≠ M) (n1 : b1 ≠ M) (n2 : b2 ≠ M) (n3 : b3 ≠ M) (n4 : b4 ≠ M) (n5 : b5 ≠ M) (n6 : b6 ≠ M) (n7 : b7 ≠ M) (n8 : b8 ≠ M) (n9 : b9 ≠ M) (n10 : b10 ≠ M) (n11 : b11 ≠ M) (n12 : b12 ≠ M) (h : v.cell? ⟨b0, o0, none⟩ = some u0 ∧ v.cell? ⟨b1, o1, none⟩ = some u1 ∧ v.cell? ⟨b2, o2, none⟩ = some u2 ∧ v.cell? ⟨b3, o3, none⟩ = some u3 ∧ v.cell? ⟨b4, o4, none⟩ = some u4 ∧ v.cell? ⟨b5, o5, none⟩ = some u5 ∧ v.cell? ⟨b6, o6, none⟩ = some u6 ∧ v.cell? ⟨b7, o7, none⟩ = some u7 ∧ v.cell? ⟨b8, o8, none⟩ = some u8 ∧ v.cell? ⟨b9, o9, none⟩ = some u9 ∧ v.cell? ⟨b10, o10, none⟩ = some u10 ∧ v.cell? ⟨b11, o11, none⟩ = some u11 ∧ v.cell? ⟨b12, o12, none⟩ = some u12) : w'.cell? ⟨b0, o0, none⟩ = some u0 ∧ w'.cell? ⟨b1, o1, none⟩ = some u1 ∧ w'.cell? ⟨b2, o2, none⟩ = some u2 ∧ w'.cell? ⟨b3, o3, none⟩ = some u3 ∧ w'.cell? ⟨b4, o4, none⟩ = some u4 ∧ w'.cell? ⟨b5, o5, none⟩ = some u5 ∧ w'.cell? ⟨b6, o6, none⟩ = some u6 ∧ w'.cell? ⟨b7, o7, none⟩ = some u7 ∧ w'.cell? ⟨b8, o8, none⟩ = some u8 ∧ w'.cell? ⟨b9, o9, none⟩ = some u9 ∧ w'.cell? ⟨b10, o10, none⟩ = some u10 ∧ w'.cell? ⟨b11, o11, none⟩ = some u11 ∧ w'.cell? ⟨b12, o12, none⟩ = some u12 :=
  ⟨cell_but (p := ⟨b0, o0, none⟩) hg n0 h.1, cell_but (p := ⟨b1, o1, none⟩) hg n1 h.2.1, cell_but (p := ⟨b2, o2, none⟩) hg n2 h.2.2.1, cell_but (p := ⟨b3, o3, none⟩) hg n3 h.2.2.2.1, cell_but (p := ⟨b4, o4, none⟩) hg n4 h.2.2.2.2.1, cell_but (p := ⟨b5, o5, none⟩) hg n5 h.2.2.2.2.2.1, cell_but (p := ⟨b6, o6, none⟩) hg n6 h.2.2.2.2.2.2.1, cell_but (p := ⟨b7, o7, none⟩) hg n7 h.2.2.2.2.2.2.2.1, cell_but (p := ⟨b8, o8, none⟩) hg n8 h.2.2.2.2.2.2.2.2.1, cell_but (p := ⟨b9, o9, none⟩) hg n9 h.2.2.2.2.2.2.2.2.2.1, cell_but (p := ⟨b10, o10, none⟩) hg n10 h.2.2.2.2.2.2.2.2.2.2.1, cell_but (p := ⟨b11, o11, none⟩) hg n11 h.2.2.2.2.2.2.2.2.2.2.2.1, cell_but (p := ⟨b12, o12, none⟩) hg n12 h.2.2.2.2.2.2.2.2.2.2.2.2⟩
theorem own_form {w : World} {B n size : Nat} {e : TypeId} {v : Value} {xs : List Value} (h : w.ownsRow B e size v n xs) : ∃ q c, v = .slice q n c := by
  rcases h.2 with ⟨rfl, hx⟩ | ⟨g, cap, cur, rfl, _⟩
  · exact ⟨none, 0, by rw [hx]⟩
  · exact ⟨_, cap, rfl⟩
theorem drew_sz (w : World) : w.drew.heap.size = w.heap.size := rfl
theorem go_known {i : Ins} (hi : i.Ok) {d : Dat} {a x a' x' : Int} {c c' : Nat → Int} {n : Nat} (h : doI i d a x c = .go a' x' c' n) : knownB i.c = true := by
  cases hk : knownB i.c with
  | true => rfl
  | false => rw [doI_unknown hi hk] at h; cases h
theorem jump_cls {c : Int} (hk : knownB c = true) : decide ((ofL allL c).cls = 4) = isJump c := by
  have e : vmCodes.all (fun c => decide ((ofL allL c).cls = 4) == isJump c) = true := by decide +kernel
  have := List.all_eq_true.1 e c (known_code hk)
  simpa using this
/-- How many an instruction leaves out. -/
theorem skip_small {i : Ins} (hi : i.Ok) {d : Dat} {a x a' x' : Int} {c c' : Nat → Int} {n : Nat} (h : doI i d a x c = .go a' x' c' n) : n < 4294967296 := by
  have hk : i.k.toNat < 4294967296 := by have := hi.k1; have := hi.k0; omega
  have ht : i.jt.toNat < 4294967296 := by have := hi.t1; have := hi.t0; omega
  have hf : i.jf.toNat < 4294967296 := by have := hi.f1; have := hi.f0; omega
  have key : ∀ o : Out, (∀ a x c n, o = .go a x c n → n < 4294967296) → o = .go a' x' c' n → n < 4294967296 := fun o ho e => ho _ _ _ _ e
  refine key (doI i d a x c) ?_ h
  have ite_ok : ∀ (q : Prop) [Decidable q] (u v : Out), (∀ a x c n, u = .go a x c n → n < 4294967296) → (∀ a x c n, v = .go a x c n → n < 4294967296) → (∀ a x c n, (if q then u else v) = .go a x c n → n < 4294967296) := by
    intro q _ u v hu hv
    by_cases hq : q
    · rw [if_pos hq]; exact hu
    · rw [if_neg hq]; exact hv
  unfold doI
  repeat' (first
    | (apply ite_ok)
    | (intro a x c n e; cases e <;> first | decide | exact hk | (split <;> assumption)))
def RunTo (r : Res) (w : World) (e : Ending) (w' : World) : Prop :=
  ∃ v, e = .returned (.tuple #[.int .u32 r.ans, .int .i64 r.steps, v, .int .i64 r.err]) ∧ w'.ownsRow w.heap.size 3 1 v r.pl.length (plV r.pl) ∧ Below w.heap.size w w'
end Go.Proofs.YtohfampfnhfnlaaDoor
namespace Go.Proofs.YtohfampfnhfnlaaDoor
open Go.ChangeShapes Go.WideShapes Go.ChangeAt Go.RowKit
set_option linter.unusedVariables false
attribute [local go_sem ↓] Go.wp_at_zero Go.wp_at_succ

def RunV (r : Res) (w : World) (e : Ending) (w' : World) : Prop := e = .returned (.tuple #[.int .u32 r.ans, .int .i64 r.steps, .int .i64 r.err]) ∧ Below w.heap.size w w'
def TraceV (r : Res) (w : World) (e : Ending) (w' : World) : Prop := ∃ q c, e = .returned (.slice q r.pl.length c) ∧ w'.ownsRow w.heap.size 3 1 (.slice q r.pl.length c) r.pl.length (plV r.pl) ∧ Below w.heap.size w w'
structure VmC (G : World → Prop) : Prop where
  on : ∀ {w w' : World}, G w → Below w.heap.size w w' → G w'
  run : ∀ (a0 : Option Addr) (len cap : Nat) (p : List Ins) (d : Dat) (w : World), G w → p.length = len → len ≤ 1000 → OkL p → d.Ok → len ≤ cap → cap ≤ maxLen → (a0 = none → cap = 0) → RdI w w.heap.size a0 p → Calls Tryd.prog 18 #[.slice a0 len cap, datV d] w (RunV (runL p d) w)
  trace : ∀ (a0 : Option Addr) (len cap : Nat) (p : List Ins) (d : Dat) (w : World), G w → p.length = len → len ≤ 1000 → OkL p → d.Ok → len ≤ cap → cap ≤ maxLen → (a0 = none → cap = 0) → RdI w w.heap.size a0 p → Calls Tryd.prog 19 #[.slice a0 len cap, datV d] w (TraceV (runL p d) w)
theorem VmC.al {G : World → Prop} (H : VmC G) {w : World} (h : G w) (o : Obj) : G (w.alloc o) := H.on h ((Below.refl _ _).alloc (Nat.le_refl _) o)
/-- A program that stands in a block of its own. -/
theorem RdI.lit (w : World) (cs : Array Value) (e : TypeId) (l : List Ins) (h : cs.toList = progC l) : RdI (w.alloc (.cells cs e)) (w.alloc (.cells cs e)).heap.size (some ⟨w.heap.size, 0, none⟩) l := by
  refine RdI.of_cells (by simp) fun j u hu => ?_
  rw [Nat.zero_add, cell_of_row _ _ j _ _ (0, 0) (heap_alloc_new w _), ← Array.getElem?_toList, h]
  exact hu
theorem RdI.lit_at (w : World) (cs : Array Value) (e : TypeId) (l : List Ins) (h : cs.toList = progC l) (s : Nat) (hs : s = w.heap.size) : RdI (w.alloc (.cells cs e)) (w.alloc (.cells cs e)).heap.size (some ⟨s, 0, none⟩) l := by
  subst hs; exact RdI.lit w cs e l h
def exD1 : Dat := ⟨1, 0, 0, 0, 0, 0, 0, 0, 0⟩
def exD2 : Dat := ⟨2, 0, 0, 0, 0, 0, 0, 0, 0⟩
def exD0 : Dat := ⟨0, 0, 0, 0, 0, 0, 0, 0, 0⟩
theorem exD1_ok : exD1.Ok := by constructor <;> decide
theorem exD2_ok : exD2.Ok := by constructor <;> decide
theorem exD0_ok : exD0.Ok := by constructor <;> decide
theorem exP1 : runL [⟨32, 0, 0, 0⟩, ⟨21, 0, 1, 1⟩, ⟨6, 0, 0, 5⟩, ⟨6, 0, 0, 6⟩] exD1 = ⟨5, 3, [0, 1, 2], 0⟩ := by kernel_rfl
theorem exP2 : runL [⟨32, 0, 0, 0⟩, ⟨21, 0, 1, 1⟩, ⟨6, 0, 0, 5⟩, ⟨6, 0, 0, 6⟩] exD2 = ⟨6, 3, [0, 1, 3], 0⟩ := by kernel_rfl
theorem exQ0 : runL [⟨0, 0, 0, 7⟩, ⟨1, 0, 0, 0⟩, ⟨60, 0, 0, 0⟩, ⟨22, 0, 0, 0⟩] exD0 = ⟨0, 3, [0, 1, 2], 0⟩ := by kernel_rfl
theorem exQ1 : runL [⟨0, 0, 0, 7⟩, ⟨52, 0, 0, 0⟩] exD0 = ⟨0, 1, [0, 1], 44⟩ := by kernel_rfl
theorem exQ2 : runL ([] : List Ins) exD0 = ⟨0, 0, [], 46⟩ := by kernel_rfl
theorem exQ3 : runL [⟨0, 0, 0, 1⟩] exD0 = ⟨0, 1, [0], 46⟩ := by kernel_rfl
theorem exQ4 : runL [⟨5, 0, 0, 4⟩] exD0 = ⟨0, 1, [0], 42⟩ := by kernel_rfl
theorem exQ5 : runL [⟨32, 0, 0, 2⟩] exD0 = ⟨0, 0, [0], 41⟩ := by kernel_rfl
theorem exQ6 : runL [⟨96, 0, 0, 16⟩] exD0 = ⟨0, 0, [0], 43⟩ := by kernel_rfl
theorem exD0_cells {w : World} {b : Nat} (h : BoxD w b exD0) : w.cell? ⟨b, 0, none⟩ = some (.int .u32 0) ∧ w.cell? ⟨b, 1, none⟩ = some (.int .u32 0) ∧ w.cell? ⟨b, 2, none⟩ = some (.int .u64 0) ∧ w.cell? ⟨b, 3, none⟩ = some (.int .u64 0) ∧ w.cell? ⟨b, 4, none⟩ = some (.int .u64 0) ∧ w.cell? ⟨b, 5, none⟩ = some (.int .u64 0) ∧ w.cell? ⟨b, 6, none⟩ = some (.int .u64 0) ∧ w.cell? ⟨b, 7, none⟩ = some (.int .u64 0) ∧ w.cell? ⟨b, 8, none⟩ = some (.int .u64 0) := h.cells
end Go.Proofs.YtohfampfnhfnlaaDoor
