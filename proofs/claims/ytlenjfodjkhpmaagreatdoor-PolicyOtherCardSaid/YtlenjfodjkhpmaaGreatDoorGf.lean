/- Are two lists of names the same; what the calls of the package groups have to return, as the chapter says it; the chapter's rows. -/
import Derived.Test.YtlenjfodjkhpmaaGreatDoorWd
import Derived.Deep.AppendLies
import Derived.Deep.DrawnRows
import Derived.RegionTactic
import Derived.BigRegion
import Derived.Deep.DeepCutAuto
import Derived.Laws.Cover1
import Derived.Maps.AppendAt
import Derived.ArgAppend
import Derived.Deep.LoopGhost
import Derived.Deep.RegionWith
import Derived.BigQuiet
import Derived.Deep.QuietTactic
import Derived.WalkSmall
namespace Go.Proofs.YtlenjfodjkhpmaaGreatDoor
set_option maxRecDepth 100000
open Go.RowKit
set_option linter.unusedVariables false
attribute [local go_sem ↓] Go.wp_at_zero Go.wp_at_succ

abbrev Gp := ByteArray × List ByteArray
def grpT : List Gp := [(⟨#[64, 98, 97, 115, 105, 99, 45, 105, 111]⟩, [⟨#[114, 101, 97, 100]⟩, ⟨#[119, 114, 105, 116, 101]⟩, ⟨#[99, 108, 111, 115, 101]⟩]), (⟨#[64, 99, 108, 111, 99, 107]⟩, [⟨#[99, 108, 111, 99, 107, 95, 115, 101, 116, 116, 105, 109, 101]⟩, ⟨#[115, 101, 116, 116, 105, 109, 101, 111, 102, 100, 97, 121]⟩]), (⟨#[64, 100, 101, 98, 117, 103]⟩, [⟨#[112, 116, 114, 97, 99, 101]⟩, ⟨#[112, 101, 114, 115, 111, 110, 97, 108, 105, 116, 121]⟩]), (⟨#[64, 102, 105, 108, 101]⟩, [⟨#[64, 98, 97, 115, 105, 99, 45, 105, 111]⟩, ⟨#[111, 112, 101, 110]⟩, ⟨#[111, 112, 101, 110, 97, 116]⟩, ⟨#[105, 111, 99, 116, 108]⟩]), (⟨#[64, 109, 101, 109, 111, 114, 121]⟩, [⟨#[98, 114, 107]⟩, ⟨#[109, 109, 97, 112]⟩, ⟨#[109, 112, 114, 111, 116, 101, 99, 116]⟩, ⟨#[109, 117, 110, 109, 97, 112]⟩, ⟨#[112, 107, 101, 121, 95, 109, 112, 114, 111, 116, 101, 99, 116]⟩, ⟨#[115, 104, 109, 97, 116]⟩]), (⟨#[64, 109, 111, 100, 117, 108, 101]⟩, [⟨#[100, 101, 108, 101, 116, 101, 95, 109, 111, 100, 117, 108, 101]⟩, ⟨#[102, 105, 110, 105, 116, 95, 109, 111, 100, 117, 108, 101]⟩, ⟨#[105, 110, 105, 116, 95, 109, 111, 100, 117, 108, 101]⟩]), (⟨#[64, 109, 111, 117, 110, 116]⟩, [⟨#[109, 111, 117, 110, 116]⟩, ⟨#[117, 109, 111, 117, 110, 116, 50]⟩]), (⟨#[64, 110, 101, 115, 116]⟩, [⟨#[64, 110, 101, 115, 116, 45, 50]⟩, ⟨#[107, 105, 108, 108]⟩]), (⟨#[64, 110, 101, 115, 116, 45, 50]⟩, [⟨#[64, 110, 101, 115, 116, 45, 51]⟩, ⟨#[103, 101, 116, 117, 105, 100]⟩]), (⟨#[64, 110, 101, 115, 116, 45, 51]⟩, [⟨#[64, 110, 101, 115, 116, 45, 52]⟩, ⟨#[115, 101, 116, 117, 105, 100]⟩]), (⟨#[64, 110, 101, 115, 116, 45, 52]⟩, [⟨#[64, 110, 101, 115, 116, 45, 53]⟩, ⟨#[101, 120, 105, 116]⟩]), (⟨#[64, 110, 101, 115, 116, 45, 53]⟩, [⟨#[114, 101, 97, 100]⟩]), (⟨#[64, 110, 101, 116, 119, 111, 114, 107]⟩, [⟨#[98, 105, 110, 100]⟩, ⟨#[99, 111, 110, 110, 101, 99, 116]⟩, ⟨#[108, 105, 115, 116, 101, 110]⟩, ⟨#[115, 111, 99, 107, 101, 116]⟩]), (⟨#[64, 112, 114, 105, 118, 105, 108, 101, 103, 101, 100]⟩, [⟨#[64, 99, 108, 111, 99, 107]⟩, ⟨#[64, 109, 111, 100, 117, 108, 101]⟩, ⟨#[64, 109, 111, 117, 110, 116]⟩, ⟨#[64, 114, 101, 98, 111, 111, 116]⟩, ⟨#[98, 112, 102]⟩, ⟨#[115, 101, 116, 117, 105, 100]⟩]), (⟨#[64, 112, 114, 111, 99, 101, 115, 115]⟩, [⟨#[99, 108, 111, 110, 101]⟩, ⟨#[99, 108, 111, 110, 101, 51]⟩, ⟨#[101, 120, 101, 99, 118, 101]⟩, ⟨#[101, 120, 105, 116]⟩, ⟨#[102, 111, 114, 107]⟩, ⟨#[107, 105, 108, 108]⟩, ⟨#[115, 101, 116, 110, 115]⟩, ⟨#[117, 110, 115, 104, 97, 114, 101]⟩]), (⟨#[64, 114, 101, 98, 111, 111, 116]⟩, [⟨#[114, 101, 98, 111, 111, 116]⟩]), (⟨#[64, 114, 101, 115, 111, 117, 114, 99, 101, 115]⟩, [⟨#[115, 99, 104, 101, 100, 95, 115, 101, 116, 97, 116, 116, 114]⟩, ⟨#[115, 99, 104, 101, 100, 95, 115, 101, 116, 115, 99, 104, 101, 100, 117, 108, 101, 114]⟩]), (⟨#[64, 115, 121, 115, 116, 101, 109]⟩, [⟨#[64, 102, 105, 108, 101]⟩, ⟨#[64, 109, 101, 109, 111, 114, 121]⟩, ⟨#[64, 110, 101, 116, 119, 111, 114, 107]⟩, ⟨#[64, 112, 114, 111, 99, 101, 115, 115]⟩, ⟨#[103, 101, 116, 117, 105, 100]⟩])]
def gD : Gp := (⟨#[]⟩, [])
def gN (j : Nat) : ByteArray := (grpT.getD j gD).1
def gL (j : Nat) : List ByteArray := (grpT.getD j gD).2
def gRow (j : Nat) : Array Value := ((gL j).map Value.string).toArray
structure PG (w : World) (k : Nat) (W : World) : Prop where
 size : W.heap.size = w.heap.size + k
 below : Below w.heap.size w W
 rows : ∀ j, j < k → ∀ i s, (gL j)[i]? = some s → W.cell? ⟨w.heap.size + j, i, none⟩ = some (.string s)
theorem PG.zero (w : World) : PG w 0 w := ⟨rfl, Below.refl _ _, fun j hj => absurd hj (by omega)⟩
theorem PG.next {w W : World} {k : Nat} (h : PG w k W) (t : TypeId) : PG w (k + 1) (W.alloc (.cells (gRow k) t)) := by
 refine ⟨by rw [World.size_alloc, h.size]; omega, h.below.alloc h.below.size _, fun j hj i s hi => ?_⟩
 by_cases e : j = k
 ·subst e
  rw [← h.size, cell_of_row _ _ i _ _ (0, 0) (heap_alloc_new W _)]
  unfold gRow
  rw [List.getElem?_toArray, List.getElem?_map, hi]; rfl
 ·rw [World.cell?_alloc_lt W _ _ (by show w.heap.size + j < _; rw [h.size]; omega)]
  exact h.rows j (by omega) i s hi
def gC (B : Nat) : Array Value := ((List.range 18).flatMap fun j => [Value.string (gN j), .slice (some ⟨B + j, 0, none⟩) (gL j).length (gL j).length]).toArray
structure GrpAt (w : World) (g B : Nat) : Prop where
 name : ∀ j, j < 18 → w.cell? ⟨g, j * 2, none⟩ = some (.string (gN j))
 row : ∀ j, j < 18 → w.cell? ⟨g, j * 2 + 1, none⟩ = some (.slice (some ⟨B + j, 0, none⟩) (gL j).length (gL j).length)
 has : ∀ j, j < 18 → ∀ i s, (gL j)[i]? = some s → w.cell? ⟨B + j, i, none⟩ = some (.string s)
 lt : g < w.heap.size ∧ B + 18 ≤ w.heap.size
theorem GrpAt.on {w w' : World} {g B : Nat} (h : GrpAt w g B) (hb : Below w.heap.size w w') : GrpAt w' g B :=
 ⟨fun j hj => (hb.cell (p := ⟨g, j * 2, none⟩) h.lt.1).trans (h.name j hj), fun j hj => (hb.cell (p := ⟨g, j * 2 + 1, none⟩) h.lt.1).trans (h.row j hj),
   fun j hj i s hi => (hb.cell (p := ⟨B + j, i, none⟩) (show B + j < _ by have := h.lt.2; omega)).trans (h.has j hj i s hi), by have := hb.size; have := h.lt; omega⟩
theorem gC_get (B : Nat) : ∀ j, j < 18 → (gC B)[j * 2]? = some (.string (gN j)) ∧ (gC B)[j * 2 + 1]? = some (.slice (some ⟨B + j, 0, none⟩) (gL j).length (gL j).length) := by
 intro j hj
 match j, hj with
 | 0, _ => exact ⟨rfl, rfl⟩
 | 1, _ => exact ⟨rfl, rfl⟩
 | 2, _ => exact ⟨rfl, rfl⟩
 | 3, _ => exact ⟨rfl, rfl⟩
 | 4, _ => exact ⟨rfl, rfl⟩
 | 5, _ => exact ⟨rfl, rfl⟩
 | 6, _ => exact ⟨rfl, rfl⟩
 | 7, _ => exact ⟨rfl, rfl⟩
 | 8, _ => exact ⟨rfl, rfl⟩
 | 9, _ => exact ⟨rfl, rfl⟩
 | 10, _ => exact ⟨rfl, rfl⟩
 | 11, _ => exact ⟨rfl, rfl⟩
 | 12, _ => exact ⟨rfl, rfl⟩
 | 13, _ => exact ⟨rfl, rfl⟩
 | 14, _ => exact ⟨rfl, rfl⟩
 | 15, _ => exact ⟨rfl, rfl⟩
 | 16, _ => exact ⟨rfl, rfl⟩
 | 17, _ => exact ⟨rfl, rfl⟩
 | j + 18, hj => omega
theorem wpList_as11 {ops : Array Oper} {rest : List Oper} {op : Oper} {a : Act} {w : World} {Q : Exit → Act → World → Prop} (hgd : op.guard = none) (v : Value) (hr : (execOp a.eval op).run Tryz.prog w = .ok (.value v) w)
 (h : wpList Tryz.prog ops Q rest (a.put op.dst v) w) : wpList Tryz.prog ops Q (op :: rest) a w :=
 wpList_plain hgd fun _ hK => by unfold Oper.wp; rw [hr]; exact hK _ _ h
set_option maxRecDepth 100000
open Go.RowKit
set_option linter.unusedVariables false
set_option linter.unusedSimpArgs false
attribute [local go_sem ↓] Go.wp_at_zero Go.wp_at_succ

def memIn : List Gp → ByteArray → List ByteArray
 | [], _ => []
 | e :: r, s => if e.1 = s then e.2 else memIn r s
def memR (s : ByteArray) : List ByteArray := memIn grpT s
theorem gT_at {k : Nat} (hk : k < 18) : grpT[k]? = some (gN k, gL k) := by
 have h : k < grpT.length := hk
 unfold gN gL
 rw [List.getElem?_eq_getElem h, List.getD_eq_getElem?_getD, List.getElem?_eq_getElem h]; rfl
theorem mem_at {k : Nat} (hk : k < 18) (s : ByteArray) : memIn (grpT.drop k) s = if gN k = s then gL k else memIn (grpT.drop (k + 1)) s := by
 obtain ⟨h, e⟩ := List.getElem?_eq_some_iff.1 (gT_at hk)
 rw [List.drop_eq_getElem_cons h, e]; rfl
theorem mem_from : ∀ (l : List Gp) (s : ByteArray), memIn l s = [] ∨ ∃ e ∈ l, memIn l s = e.2
 | [], s => Or.inl rfl
 | e :: r, s => by
   unfold memIn
   split
   ·exact Or.inr ⟨e, List.mem_cons_self .., rfl⟩
   ·rcases mem_from r s with h | ⟨x, hx, h⟩
    ·exact Or.inl h
    ·exact Or.inr ⟨x, List.mem_cons_of_mem _ hx, h⟩
def StrsAt (w : World) (v : Value) (l : List ByteArray) : Prop := ∃ q c, v = .slice q l.length c ∧ ∀ k s, l[k]? = some s → ∃ g o, q = some ⟨g, o, none⟩ ∧ w.cell? ⟨g, o + k, none⟩ = some (.string s)
theorem StrsAt.on {w w' : World} {v : Value} {l : List ByteArray} (h : StrsAt w v l) (hb : Below w.heap.size w w') : StrsAt w' v l := by
 obtain ⟨q, c, rfl, hr⟩ := h
 refine ⟨q, c, rfl, fun k s hk => ?_⟩
 obtain ⟨g, o, rfl, hc⟩ := hr k s hk
 exact ⟨g, o, rfl, (hb.cell (World.block_lt_of_cell? w _ hc)).trans hc⟩
theorem StrsAt.nil (w : World) : StrsAt w (.slice none 0 0) [] := ⟨none, 0, rfl, fun k s h => by simp at h⟩
theorem StrsAt.form {w : World} {v : Value} {l : List ByteArray} (h : StrsAt w v l) (h0 : 0 < l.length) : ∃ g o c, v = .slice (some ⟨g, o, none⟩) l.length c ∧ ∀ k s, l[k]? = some s → w.cell? ⟨g, o + k, none⟩ = some (.string s) := by
 obtain ⟨q, c, rfl, hr⟩ := h
 obtain ⟨g, o, rfl, _⟩ := hr 0 l[0] (List.getElem?_eq_getElem h0)
 refine ⟨g, o, c, rfl, fun k s hk => ?_⟩
 obtain ⟨g', o', e, hc⟩ := hr k s hk
 cases e
 exact hc
theorem list_of_bytes11 {a b : ByteArray} (h : a.toList = b.toList) : a = b := by
 apply ByteArray.ext
 have h2 := congrArg List.toArray h
 simpa [ByteArray.toList_eq] using h2
def upD (f : ByteArray → Nat) (n : Nat) (t : ByteArray) : Nat := if n < f t + 1 then f t + 1 else n
def deepF : Nat → ByteArray → Nat
 | 0, _ => 0
 | k + 1, s => (memR s).foldl (upD (deepF k)) 0
def deepR (s : ByteArray) : Nat := deepF 6 s
theorem up_le (f : ByteArray → Nat) (b : Nat) : ∀ (l : List ByteArray), (∀ t ∈ l, f t + 1 ≤ b) → ∀ a, a ≤ b → l.foldl (upD f) a ≤ b
 | [], _, a, h => h
 | t :: r, hl, a, h => up_le f b r (fun t ht => hl t (List.mem_cons_of_mem _ ht)) _ (by
     unfold upD
     split
     ·exact hl t (List.mem_cons_self ..)
     ·exact h)
theorem deepF_le : ∀ k s, deepF k s ≤ k
 | 0, _ => Nat.le_refl _
 | k + 1, s => up_le _ _ _ (fun t _ => Nat.succ_le_succ (deepF_le k t)) 0 (Nat.zero_le _)
theorem deep_le (s : ByteArray) : deepR s ≤ 6 := deepF_le 6 s
theorem up_congr {f g : ByteArray → Nat} : ∀ {l : List ByteArray}, (∀ t ∈ l, f t = g t) → ∀ a, l.foldl (upD f) a = l.foldl (upD g) a
 | [], _, _ => rfl
 | t :: r, h, a => by
   rw [List.foldl_cons, List.foldl_cons, up_congr (fun t ht => h t (List.mem_cons_of_mem _ ht))]
   unfold upD
   rw [h t (List.mem_cons_self ..)]
theorem deep_tab : (grpT.all fun e => e.2.all fun t => decide (deepF 6 t = deepF 5 t) && decide (deepF 6 t < e.2.foldl (upD (deepF 6)) 0)) = true := by kernel_rfl
theorem deep_step (s : ByteArray) : deepR s = (memR s).foldl (upD deepR) 0 := by
 show (memR s).foldl (upD (deepF 5)) 0 = _
 refine up_congr (fun t ht => ?_) 0
 rcases mem_from grpT s with h | ⟨e, he, h⟩
 ·rw [show memR s = [] from h] at ht; cases ht
 ·rw [show memR s = e.2 from h] at ht
  have := List.all_eq_true.1 (List.all_eq_true.1 deep_tab e he) t ht
  simp only [Bool.and_eq_true, decide_eq_true_eq] at this
  exact this.1.symm
theorem deep_lt {s t : ByteArray} (ht : t ∈ memR s) : deepR t < deepR s := by
 rw [deep_step s]
 rcases mem_from grpT s with h | ⟨e, he, h⟩
 ·rw [show memR s = [] from h] at ht; cases ht
 ·rw [show memR s = e.2 from h] at ht ⊢
  have := List.all_eq_true.1 (List.all_eq_true.1 deep_tab e he) t ht
  simp only [Bool.and_eq_true, decide_eq_true_eq] at this
  exact this.2
theorem deep_none {s : ByteArray} (h : memR s = []) : deepR s = 0 := by rw [deep_step, h]; rfl
def deepTo (l : List ByteArray) (k : Nat) : Nat := (l.take k).foldl (upD deepR) 0
set_option maxRecDepth 100000
open Go.RowKit
set_option linter.unusedVariables false
set_option linter.unusedSimpArgs false
attribute [local go_sem ↓] Go.wp_at_zero Go.wp_at_succ

def sG (l : List ByteArray) : List Value := l.map Value.string
theorem sG_length (l : List ByteArray) : (sG l).length = l.length := List.length_map _
theorem sG_one (l : List ByteArray) : ∀ u ∈ sG l, u.oneCell' = true := fun u hu => by
 obtain ⟨x, _, rfl⟩ := List.mem_map.1 hu; rfl
theorem sG_get {l : List ByteArray} {k : Nat} {s : ByteArray} (h : l[k]? = some s) : (sG l)[k]? = some (.string s) := by
 unfold sG; rw [List.getElem?_map, h]; rfl
theorem sG_app (l m : List ByteArray) : sG (l ++ m) = sG l ++ sG m := List.map_append
theorem str_info11 : (Tryz.prog.info? 9).map (fun i => (i.zero, i.size, i.bytes)) = some (some (.string ⟨#[]⟩), 1, 16) := by kernel_rfl
theorem news_g (w : World) (x : ByteArray) (t : TypeId) : ∀ j u, (sG [x])[j]? = some u → (w.alloc (.cells #[.string x] t)).cell? ((⟨w.heap.size, 0, none⟩ : Addr).add j) = some u := fun j u hu => by
 rw [Addr.add_lit, Nat.zero_add, cell_of_row _ _ j _ _ (0, 0) (heap_alloc_new w _), ← Array.getElem?_toList]
 exact hu
theorem strs_own {w : World} {B : Nat} {v : Value} {l : List ByteArray} {t : TypeId} (h : w.ownsRow B t 1 v l.length (sG l)) : StrsAt w v l := by
 rcases h.2 with ⟨rfl, h0⟩ | ⟨g, cap, cur, rfl, _⟩
 ·exact ⟨none, 0, by rw [h0], fun k s hk => by rw [List.eq_nil_of_length_eq_zero h0] at hk; simp at hk⟩
 ·refine ⟨_, _, rfl, fun k s hk => ⟨g, 0, rfl, ?_⟩⟩
  have hl : k < l.length := (List.getElem?_eq_some_iff.1 hk).1
  rw [Nat.zero_add, h.cellAt k (by omega)]
  exact sG_get hk
def ltB (a b : ByteArray) : Bool := Go.Op.bytesLess a.toList b.toList
def leB (a b : ByteArray) : Bool := ltB a b || a.toList == b.toList
def putTo (l : List ByteArray) (s : ByteArray) : Nat → Bool × List ByteArray
 | 0 => (false, [])
 | k + 1 =>
  let p := putTo l s k
  let t := l.getD k ⟨#[]⟩
  if p.1 = false ∧ leB s t = true then (true, (if ltB s t = true then p.2 ++ [s] else p.2) ++ [t]) else (p.1, p.2 ++ [t])
def putR (l : List ByteArray) (s : ByteArray) : List ByteArray := if (putTo l s l.length).1 = true then (putTo l s l.length).2 else (putTo l s l.length).2 ++ [s]
set_option maxRecDepth 100000
open Go.RowKit
set_option linter.unusedVariables false
set_option linter.unusedSimpArgs false

def QAt (B : Nat) (w : World) (v : Value) (l : List ByteArray) : Prop := ∃ g o c, v = .slice (some ⟨g, o, none⟩) l.length c ∧ B ≤ g ∧ g < w.heap.size ∧ l.length ≤ c ∧ c ≤ maxLen ∧
 (∀ k s, l[k]? = some s → w.cell? ⟨g, o + k, none⟩ = some (.string s)) ∧
 (∀ j, j < c - l.length → (w.cell? ⟨g, o + l.length + j, none⟩).isSome = true ∧ w.frozen? ⟨g, o + l.length + j, none⟩ = false)
theorem QAt.kept {B : Nat} {w w' : World} {v : Value} {l : List ByteArray} (h : QAt B w v l) (hs : w.heap.size ≤ w'.heap.size) (hb : ∀ g, v.ownBlock = some g → w'.heap[g]? = w.heap[g]?) : QAt B w' v l := by
 obtain ⟨g, o, c, rfl, h1, h2, h3, h4, h5, h6⟩ := h
 have hg := hb g rfl
 refine ⟨g, o, c, rfl, h1, Nat.lt_of_lt_of_le h2 hs, h3, h4, fun k s hk => ?_, fun j hj => ?_⟩
 ·exact (World.cell?_of_block (a := ⟨g, o + k, none⟩) hg).trans (h5 k s hk)
 ·rw [World.cell?_of_block (a := ⟨g, o + l.length + j, none⟩) hg, World.frozen?_of_block (a := ⟨g, o + l.length + j, none⟩) hg]
  exact h6 j hj
theorem QAt.lt {B : Nat} {w : World} {v : Value} {l : List ByteArray} (h : QAt B w v l) : ∀ g, v.ownBlock = some g → B ≤ g ∧ g < w.heap.size := by
 obtain ⟨g, o, c, rfl, h1, h2, _⟩ := h
 intro g' e
 have := Option.some.inj e
 subst this
 exact ⟨h1, h2⟩
theorem QAt.on {B : Nat} {w w' : World} {v : Value} {l : List ByteArray} (h : QAt B w v l) (hb : Below w.heap.size w w') : QAt B w' v l :=
 h.kept hb.size fun g hg => hb.block g (h.lt g hg).2
theorem QAt.own {B : Nat} {w : World} {v : Value} {l : List ByteArray} {t : TypeId} {n : Nat} (h : w.ownsRow B t 1 v n (sG l)) (hn : n = l.length) (h0 : 0 < n) : QAt B w v l := by
 subst hn
 rcases h.2 with ⟨_, h0'⟩ | ⟨g, cap, cur, rfl, hgB, hg, hc, hm, hs, ht⟩
 ·omega
 ·refine ⟨g, 0, cap, rfl, hgB, (Array.getElem?_eq_some_iff.1 hg).1, hc, hm, fun k s hk => ?_, fun j hj => ?_⟩
  ·have hl : k < l.length := (List.getElem?_eq_some_iff.1 hk).1
   rw [Nat.zero_add, h.cellAt k (by omega)]
   exact sG_get hk
  ·rw [Nat.zero_add, cell_of_row w g _ cur t (0, 0) hg]
   refine ⟨?_, h.frozenAt _⟩
   rw [Array.getElem?_eq_getElem (by omega)]; rfl
def inE (p : List ByteArray × List ByteArray) (t : ByteArray) : List ByteArray × List ByteArray := if memR t = [] then (p.1, putR p.2 t) else (p.1 ++ [t], p.2)
def stepE : List ByteArray × List ByteArray → List ByteArray × List ByteArray
 | ([], o) => ([], o)
 | (x :: r, o) => (memR x).foldl inE (r, o)
def iterE (s : ByteArray) : Nat → List ByteArray × List ByteArray
 | 0 => ([s], [])
 | k + 1 => stepE (iterE s k)
def expL (s : ByteArray) : List ByteArray := if memR s = [] ∨ 4 < deepR s then [] else (iterE s 24).2
def expE (s : ByteArray) : Int := if memR s = [] then 110 else if 4 < deepR s then 111 else 0
theorem mem_some {l : List Gp} {s : ByteArray} (h : memIn l s ≠ []) : ∃ e ∈ l, e.1 = s := by
 induction l with
 | nil => exact absurd rfl h
 | cons e r ih =>
  unfold memIn at h
  split at h
  ·rename_i hh; exact ⟨e, List.mem_cons_self .., hh⟩
  ·obtain ⟨x, hx, p⟩ := ih h; exact ⟨x, List.mem_cons_of_mem _ hx, p⟩
theorem mem_le (s : ByteArray) : (memR s).length ≤ 8 := by
 rcases mem_from grpT s with h | ⟨e, he, h⟩
 ·rw [show memR s = [] from h]; exact Nat.zero_le _
 ·rw [show memR s = e.2 from h]
  exact of_decide_eq_true (List.all_eq_true.1 (show (grpT.all fun e => decide (e.2.length ≤ 8)) = true by kernel_rfl) e he)
def midE (r o M : List ByteArray) (k : Nat) : List ByteArray × List ByteArray := (M.take k).foldl inE (r, o)
set_option maxRecDepth 100000
open Go.RowKit
set_option linter.unusedVariables false
attribute [local irreducible] iterE stepE midE putR putTo memR deepR deepTo grpT
set_option linter.unusedSimpArgs false
attribute [local go_sem ↓] Go.wp_at_zero Go.wp_at_succ

theorem QAt.new (B : Nat) (w : World) (s : ByteArray) (t : TypeId) (h : B ≤ w.heap.size) : QAt B (w.alloc (.cells #[.string s] t)) (.slice (some ⟨w.heap.size, 0, none⟩) 1 1) [s] := by
 refine ⟨w.heap.size, 0, 1, rfl, h, by rw [World.size_alloc]; omega, Nat.le_refl _, by unfold maxLen; omega, fun k x hk => ?_, fun j hj => absurd hj (by simp)⟩
 have := news_g w s t k (.string x) (sG_get hk)
 rwa [Addr.add_lit] at this
theorem own_kept {w w' : World} {B n s : Nat} {e : TypeId} {v : Value} {xs : List Value} (h : w.ownsRow B e s v n xs) (hb : ∀ g, v.ownBlock = some g → w'.heap[g]? = w.heap[g]?) : w'.ownsRow B e s v n xs := by
 refine ⟨h.1, ?_⟩
 rcases h.2 with h2 | ⟨g, cap, cur, rfl, hgB, hg, r⟩
 ·exact Or.inl h2
 ·exact Or.inr ⟨g, cap, cur, rfl, hgB, (hb g rfl).trans hg, r⟩
theorem own_on {w w' : World} {B n s : Nat} {e : TypeId} {v : Value} {xs : List Value} (h : w.ownsRow B e s v n xs) (hb : Below w.heap.size w w') : w'.ownsRow B e s v n xs :=
 own_kept h fun g hg => hb.block g (h.lt g hg).2
def MemAt (w : World) (q : Option Addr) (v5 : Value) (M : List ByteArray) : Prop := ∀ k s, M[k]? = some s → ∃ g o, q = some ⟨g, o, none⟩ ∧ w.cell? ⟨g, o + k, none⟩ = some (.string s) ∧ v5.ownBlock ≠ some g
theorem MemAt.on {w w' : World} {q : Option Addr} {v5 : Value} {M : List ByteArray} (h : MemAt w q v5 M) (hb : Below w.heap.size w w') : MemAt w' q v5 M := fun k s hk => by
 obtain ⟨g, o, rfl, hc, hn⟩ := h k s hk
 exact ⟨g, o, rfl, (hb.cell (World.block_lt_of_cell? w _ hc)).trans hc, hn⟩
theorem MemAt.turned {w w' : World} {q : Option Addr} {v5 v' : Value} {M : List ByteArray} (h : MemAt w q v5 M) (hb : ∀ b, b < w.heap.size → v5.ownBlock ≠ some b → w'.heap[b]? = w.heap[b]?) (hv : v'.ownBlock = v5.ownBlock ∨ ∀ b, v'.ownBlock = some b → w.heap.size ≤ b) : MemAt w' q v' M := fun k s hk => by
 obtain ⟨g, o, rfl, hc, hn⟩ := h k s hk
 have hlt : g < w.heap.size := World.block_lt_of_cell? w _ hc
 refine ⟨g, o, rfl, (World.cell?_of_block (a := ⟨g, o + k, none⟩) (hb g hlt hn)).trans hc, fun e => ?_⟩
 rcases hv with hv | hv
 ·exact hn (hv ▸ e)
 ·have := hv g e; omega
set_option maxRecDepth 100000
open Go.RowKit
set_option linter.unusedVariables false
set_option linter.unusedSimpArgs false
attribute [local go_sem ↓] Go.wp_at_zero Go.wp_at_succ

theorem StrsAt.lit (w : World) (l : List ByteArray) (t : TypeId) : StrsAt (w.alloc (.cells (sG l).toArray t)) (.slice (some ⟨w.heap.size, 0, none⟩) l.length l.length) l := by
 refine ⟨_, _, rfl, fun k s hk => ⟨w.heap.size, 0, rfl, ?_⟩⟩
 rw [Nat.zero_add, cell_of_row _ _ k _ _ (0, 0) (heap_alloc_new w _), List.getElem?_toArray]
 exact sG_get hk
end Go.Proofs.YtlenjfodjkhpmaaGreatDoor
