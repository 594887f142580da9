/- The library's slices.Sort and slices.Compact at []string, by their contracts, over rows of the program's own. No condition. What Expand's closure in the landed groups adds to the names found. No condition. The landed groups.Expand: what a group has; and that the landed package's calls return what the chapter says. No condition. -/
import Derived.Test.YtlenjfodjkhpmaaGreatDoorGf
import Derived.Test.YtlenjfodjkhpmaaGreatDoorHc
import Derived.Sort.Grow
import Derived.Sort.EncStr
import Derived.Lib.SlicesCompact
import Derived.Lib.RowBridge
import Derived.Sort.KeysCollected
import Derived.Test.YtlenjfodjkhpmaaGreatDoorG1
import Derived.Test.YtlenjfodjkhpmaaGreatDoorG2
import Derived.Great.BuildSlice
import Derived.Laws.EntriesVeiled
namespace Go.Proofs.YtlenjfodjkhpmaaGreatDoor
set_option maxRecDepth 100000
open Go.Lib (hid)
open Go.RowKit Go.Sort
set_option linter.unusedVariables false

def bL (x : ByteArray) : List UInt8 := x.data.toList
theorem enc_bL (x : ByteArray) : encStr (bL x) = .string x := by
 show Value.string ⟨x.data.toList.toArray⟩ = .string x
 rw [Array.toArray_toList]
theorem holds_own {V : World} {B g cap : Nat} {L : List ByteArray} (h : V.ownsRow B 9 1 (.slice (some ⟨g, 0, none⟩) L.length cap) L.length (sG L)) : Holds encStr V g 0 (L.map bL).toArray := fun j hj => by
 have hj2 : j < L.length := by simpa using hj
 rw [Nat.zero_add]
 refine ⟨(h.cellAt j (by omega)).trans ?_, h.frozenAt j⟩
 rw [getElem!_pos _ j hj, List.getElem_toArray, List.getElem_map, enc_bL]
 exact sG_get (List.getElem?_eq_getElem hj2)
theorem below_put (W : World) (B g q : Nat) (d : Array (List UInt8)) (os : Array Obj) (hg : B ≤ g) (hW : B ≤ W.heap.size) : RowKit.Below B W (grow (putRow encStr (Sort.ahead W q) g 0 d) os) :=
 ⟨rfl, rfl, rfl, by rw [size_grow, size_putRow, heap_ahead]; omega, fun k hk => by
   rw [heap_grow_old _ _ (by rw [size_putRow, heap_ahead]; omega)]
   unfold putRow mapBlock
   rw [Array.getElem?_modify, if_neg (by omega)]; rfl⟩
def leS : List UInt8 → List UInt8 → Bool := fun x y => decide (x ≤ y)
theorem sort_S (V : World) (B g cap n : Nat) (L : List ByteArray) (hn : n = L.length) (h : V.ownsRow B 9 1 (.slice (some ⟨g, 0, none⟩) n cap) n (sG L)) (hl : n ≤ 1000000) (hB : B ≤ V.heap.size) :
 Calls Tryz.prog 244 #[.slice (some ⟨g, 0, none⟩) n cap] V fun e w' => e = .returned (.tuple #[]) ∧ Holds encStr w' g 0 ((L.map bL).mergeSort leS).toArray ∧ g < w'.heap.size ∧ RowKit.Below B V w' := by
 subst hn
 have hlt := h.lt g rfl
 have hH := holds_own h
 have hc := Tryz.slices_Sort_string g 0 cap (L.map bL) V hH hlt.2 (by rw [List.length_map]; omega)
 rw [List.length_map] at hc
 refine hc.mono ?_
 rintro e w' ⟨rfl, q, os, rfl⟩
 have hsz : (List.mergeSort (L.map bL) fun x y => decide (x ≤ y)).toArray.size = (L.map bL).toArray.size := by
  rw [List.size_toArray, List.size_toArray, List.length_mergeSort]
 refine ⟨rfl, holds_grow _ _ _ _ _ _ (by rw [size_putRow, heap_ahead]; exact hlt.2) (holds_putRow _ _ _ _ _ _ (holds_ahead _ _ _ _ _ _ hH) hsz), ?_, below_put V B g q _ os hlt.1 hB⟩
 rw [size_grow, size_putRow, heap_ahead]; omega
theorem comp_S (V : World) (B g cap n : Nat) (zs : List (List UInt8)) (hn : n = zs.length) (hH : Holds encStr V g 0 zs.toArray) (hg : B ≤ g) (hV : g < V.heap.size) (hcap : n ≤ cap) (hl : n ≤ 1000000) :
 Calls Tryz.prog 245 #[.slice (some ⟨g, 0, none⟩) n cap] V fun e w' => e = .returned (.slice (some ⟨g, 0, none⟩) (Lib.compact zs).length cap) ∧ (∀ k s, (Lib.compact zs)[k]? = some s → w'.cell? ⟨g, 0 + k, none⟩ = some (encStr s)) ∧ RowKit.Below B V w' := by
 subst hn
 refine (Tryz.slices_Compact_string g 0 cap zs V hH (by omega) hcap).mono ?_
 rintro e w' ⟨rfl, q, rfl⟩
 have hle := Lib.compact_length_le zs
 refine ⟨rfl, fun k s hk => ?_, by have := below_put V B g q (Lib.compact zs ++ List.replicate (zs.length - (Lib.compact zs).length) []).toArray #[] hg (by omega); rw [grow_empty] at this; exact this⟩
 have hk2 := (List.getElem?_eq_some_iff.1 hk).1
 have hs : (Lib.compact zs ++ List.replicate (zs.length - (Lib.compact zs).length) []).toArray.size = zs.toArray.size := by simp; omega
 have := (holds_putRow encStr (Sort.ahead V q) g 0 zs.toArray (Lib.compact zs ++ List.replicate (zs.length - (Lib.compact zs).length) []).toArray (holds_ahead _ _ _ _ _ _ hH) hs k (by rw [hs, List.size_toArray]; omega)).1
 rw [this]
 congr 1
 congr 1
 rw [getElem!_pos _ k (by rw [hs, List.size_toArray]; omega), List.getElem_toArray, List.getElem_append_left hk2]
 exact Option.some.inj ((List.getElem?_eq_getElem hk2).symm.trans hk)
def insS (x : List UInt8) : List (List UInt8) → List (List UInt8)
 | [] => [x]
 | y :: r => if leS x y = true then x :: y :: r else y :: insS x r
def isortS : List (List UInt8) → List (List UInt8)
 | [] => []
 | x :: r => insS x (isortS r)
theorem insS_perm (x : List UInt8) : ∀ l, (insS x l).Perm (x :: l)
 | [] => List.Perm.refl _
 | y :: r => by
   unfold insS
   split
   ·exact List.Perm.refl _
   ·exact ((insS_perm x r).cons y).trans (List.Perm.swap x y r)
theorem isortS_perm : ∀ l, (isortS l).Perm l
 | [] => List.Perm.refl _
 | x :: r => (insS_perm x (isortS r)).trans ((isortS_perm r).cons x)
theorem sorted_S {l : List (List UInt8)} (h : (isortS l).Pairwise fun a b => leS a b = true) : l.mergeSort leS = isortS l := by
 have h1 : (isortS l).mergeSort leS = l.mergeSort leS := mergeSort_of_perm (isortS_perm l)
 rw [← h1]
 exact List.mergeSort_of_pairwise h
set_option maxRecDepth 100000
open Go.Lib (hid)
open Go.RowKit
set_option linter.unusedVariables false
set_option linter.unusedSimpArgs false
attribute [local go_sem ↓] Go.wp_at_zero Go.wp_at_succ

def ownK (x : ByteArray) : List ByteArray := if knownR x = true then [x] else []
def exF : Nat → List ByteArray → List ByteArray
 | 0, _ => []
 | b + 1, l => l.flatMap fun x => ownK x ++ exF b (memR x)
def exTo (b : Nat) (M : List ByteArray) (k : Nat) : List ByteArray := (M.take k).flatMap fun x => ownK x ++ exF b (memR x)
theorem exTo_step {b : Nat} {M : List ByteArray} {k : Nat} {x : ByteArray} (h : M[k]? = some x) : exTo b M (k + 1) = exTo b M k ++ (ownK x ++ exF b (memR x)) := by
 unfold exTo
 rw [List.take_add_one, h, List.flatMap_append]
 simp
theorem exTo_zero (b : Nat) (M : List ByteArray) : exTo b M 0 = [] := rfl
theorem exTo_len (b : Nat) (M : List ByteArray) : exTo b M M.length = exF (b + 1) M := by unfold exTo; rw [List.take_length]; rfl
theorem exTo_le (b : Nat) (M : List ByteArray) (k : Nat) : (exTo b M k).length ≤ (exF (b + 1) M).length := by
 have h : exF (b + 1) M = exTo b M k ++ (M.drop k).flatMap fun x => ownK x ++ exF b (memR x) := by
  unfold exTo
  rw [← List.flatMap_append, List.take_append_drop]; rfl
 rw [h, List.length_append]; omega
structure KX (base f : Nat) (w w' : World) : Prop where
 os : w'.os = w.os
 tape : w'.tape = w.tape
 output : w'.output = w.output
 size : w.heap.size ≤ w'.heap.size
 block : ∀ b, b < base → b ≠ f → w'.heap[b]? = w.heap[b]?
theorem KX.refl (base f : Nat) (w : World) : KX base f w w := ⟨rfl, rfl, rfl, Nat.le_refl _, fun _ _ _ => rfl⟩
theorem KX.trans {base f : Nat} {u v w : World} (h : KX base f u v) (k : KX base f v w) : KX base f u w :=
 ⟨k.os.trans h.os, k.tape.trans h.tape, k.output.trans h.output, Nat.le_trans h.size k.size, fun b h1 h2 => (k.block b h1 h2).trans (h.block b h1 h2)⟩
theorem KX.of {base f : Nat} {w w' : World} (h : Below w.heap.size w w') (hb : base ≤ w.heap.size) : KX base f w w' :=
 ⟨h.os, h.tape, h.output, h.size, fun b h1 _ => h.block b (by omega)⟩
theorem KX.dr {base f : Nat} {w w' : World} (h : KX base f w.drew w') : KX base f w w' := ⟨h.os, h.tape, h.output, h.size, h.block⟩
def NamesIn (base f : Nat) (w : World) (v : Value) (M : List ByteArray) : Prop := ∃ q c, v = .slice q M.length c ∧ ∀ k s, M[k]? = some s → ∃ g o, q = some ⟨g, o, none⟩ ∧ w.cell? ⟨g, o + k, none⟩ = some (.string s) ∧ g < base ∧ g ≠ f
structure XBox (w : World) (base B f e t : Nat) (l : List ByteArray) : Prop where
 tab : TabH w B
 lt : B + 18 < t ∧ t < f ∧ f < e ∧ e < base ∧ base ≤ w.heap.size
 ct : w.cell? ⟨t, 0, none⟩ = some (.slice (some ⟨B + 18, 0, none⟩) 18 18)
 ce : w.cell? ⟨e, 0, none⟩ = some (.func (.func 242) #[] #[.pointer (some ⟨f, 0, none⟩), .pointer (some ⟨e, 0, none⟩), .pointer (some ⟨t, 0, none⟩)])
 found : ∃ v, w.heap[f]? = some (.cells #[v] 44 (0, 0)) ∧ w.ownsRow base 9 1 v l.length (sG l)
theorem XBox.on {w w' : World} {base B f e t : Nat} {l : List ByteArray} (h : XBox w base B f e t l) (hb : Below w.heap.size w w') : XBox w' base B f e t l := by
 obtain ⟨v, h1, h2⟩ := h.found
 have := h.lt
 exact ⟨h.tab.next hb, by have := hb.size; omega, (hb.cell (World.block_lt_of_cell? w _ h.ct)).trans h.ct, (hb.cell (World.block_lt_of_cell? w _ h.ce)).trans h.ce, v, (hb.block f (by omega)).trans h1, own_on h2 hb⟩
theorem XBox.dr {w : World} {base B f e t : Nat} {l : List ByteArray} (h : XBox w base B f e t l) : XBox w.drew base B f e t l := ⟨⟨h.tab.tab, h.tab.row⟩, h.lt, h.ct, h.ce, h.found⟩
theorem MemV.names {w : World} {base B f e t : Nat} {l : List ByteArray} {s : ByteArray} {v : Value} (m : MemV B s v) (h : XBox w base B f e t l) : NamesIn base f w v (memR s) := by
 have hlt := h.lt
 rcases m with ⟨e1, rfl⟩ | ⟨j, hj, e1, rfl⟩
 ·rw [e1]; exact ⟨_, _, rfl, fun k s hk => by simp at hk⟩
 ·rw [e1]
  refine ⟨_, _, rfl, fun k x hk => ⟨B + j, 0, rfl, ?_, by omega, by omega⟩⟩
  rw [Nat.zero_add, cell_of_row _ _ _ _ _ (0, 0) (h.tab.row j hj)]
  have h2 : (gRow j)[k]? = (sG (gL j))[k]? := by unfold gRow sG; exact List.getElem?_toArray ..
  rw [h2]
  exact sG_get hk
theorem own_one {w : World} {B n k : Nat} {t : TypeId} {v : Value} {xs : List Value} (h : w.ownsRow B t k v n xs) : v.oneCell' = true := by
 rcases h.2 with ⟨rfl, _⟩ | ⟨g, c, cur, rfl, _⟩ <;> rfl
theorem XBox.put {X w5 : World} {base B f e t : Nat} {l : List ByteArray} {x : ByteArray} {fv v5 : Value} {o : Obj} (h : XBox X base B f e t l) (hv : X.heap[f]? = some (.cells #[fv] 44 (0, 0))) (hw : X.ownsRow base 9 1 fv l.length (sG l))
 (o5 : w5.ownsRow base 9 1 v5 (l.length + 1) (sG l ++ sG [x])) (g5 : (X.alloc o).grownBy w5 fv.ownBlock) :
 w5.heap[f]? = some (.cells #[fv] 44 (0, 0)) ∧ XBox (w5.setRow f #[v5]) base B f e t (l ++ [x]) ∧ KX base f X (w5.setRow f #[v5]) := by
 have hlt := h.lt
 have hs : X.heap.size + 1 ≤ w5.heap.size := by have := g5.size; rw [World.size_alloc] at this; exact this
 have hne : ∀ b, b < base → some b ≠ fv.ownBlock := fun b hb he => by have := (hw.lt b he.symm).1; omega
 have hk : ∀ b, b < base → w5.heap[b]? = X.heap[b]? := fun b hb => (g5.block b (by rw [World.size_alloc]; omega) (hne b hb)).trans (Below.heap_alloc X o b (by omega))
 have hf := (hk f (by omega)).trans hv
 have hr : ∀ b, b < base → b ≠ f → (w5.setRow f #[v5]).heap[b]? = X.heap[b]? := fun b hb h2 => (setRow_other w5 f b _ h2).trans (hk b hb)
 have hc : ∀ a : Addr, a.block < base → a.block ≠ f → (w5.setRow f #[v5]).cell? a = X.cell? a := fun a h1 h2 => World.cell?_of_block (hr a.block h1 h2)
 refine ⟨hf, ⟨⟨(hr _ (by omega) (by omega)).trans h.tab.tab, fun j hj => (hr _ (by omega) (by omega)).trans (h.tab.row j hj)⟩, by rw [setRow_size]; omega, (hc ⟨t, 0, none⟩ (by show t < base; omega) (by show t ≠ f; omega)).trans h.ct, (hc ⟨e, 0, none⟩ (by show e < base; omega) (by show e ≠ f; omega)).trans h.ce, v5, setRow_heap w5 f _ _ _ _ hf, ?_⟩, ⟨?_, ?_, ?_, by rw [setRow_size]; omega, hr⟩⟩
 ·rw [List.length_append, List.length_singleton, sG_app]
  exact own_kept o5 fun g hg => setRow_other w5 f g _ (by have := (o5.lt g hg).1; omega)
 ·rw [setRow_os, g5.os]; rfl
 ·rw [setRow_tape, g5.tape]; rfl
 ·rw [setRow_output, g5.output]; rfl
theorem NamesIn.keep {w w' : World} {base f : Nat} {v : Value} {M : List ByteArray} (h : NamesIn base f w v M) (hk : KX base f w w') : NamesIn base f w' v M := by
 obtain ⟨q, c, hv, hr⟩ := h
 refine ⟨q, c, hv, fun k s hs => ?_⟩
 obtain ⟨g, o, h1, h2, h3, h4⟩ := hr k s hs
 exact ⟨g, o, h1, (World.cell?_of_block (a := ⟨g, o + k, none⟩) (hk.block g h3 h4)).trans h2, h3, h4⟩
abbrev ExpC (base B f e t b : Nat) (M : List ByteArray) : Prop := ∀ (w : World) (l : List ByteArray) (v : Value), XBox w base B f e t l → NamesIn base f w v M → l.length + (exF b M).length ≤ 1000 →
 Calls Tryz.prog 242 #[v, .pointer (some ⟨f, 0, none⟩), .pointer (some ⟨e, 0, none⟩), .pointer (some ⟨t, 0, none⟩)] w fun r w' => r = .returned (.tuple #[]) ∧ XBox w' base B f e t (l ++ exF b M) ∧ KX base f w w'
set_option maxHeartbeats 16000000 in
theorem expand_at (base B f e t b : Nat) (M : List ByteArray) (hn8 : M.length ≤ 8) (ih : ∀ x ∈ M, ExpC base B f e t b (memR x)) : ExpC base B f e t (b + 1) M := by
 intro w l v hX hv hlen
 obtain ⟨i0, hi0, hz0, hz1, hz2⟩ := info_parts str_info11
 have HI := hid hi0
 have HZ0 := hid hz0
 have HZ1 := hid hz1
 have HZ2 := hid hz2
 obtain ⟨a0, c, rfl, hr⟩ := hv
 have HC := hid hr
 have HX := hid hX
 have HIH := hid ih
 have HKN := hid (fun (s : ByteArray) (W : World) => known9 s W)
 have HMM := hid (fun (s : ByteArray) (W : World) (h : TabH W B) => membersH s W B h)
 have HLE := hid (fun k => exTo_le b M k)
 have HV := hid (exTo_len b M)
 have HLEN := hid hlen
 obtain ⟨n, hn⟩ : ∃ n, n = M.length := ⟨_, rfl⟩
 have HN := hid hn
 rw [← hn] at HV hn8 ⊢
 clear hr hX ih hlen hn hi0 hz0 hz1 hz2
 go_enter Tryz.func242, Tryz.ntmps242
 go_wp2_with fail
 go_loopw [9] (fun v9 wr => ∃ k : Nat, k ≤ n ∧ v9 = .int .i64 k ∧ Hid (XBox wr base B f e t (l ++ exTo b M k)) ∧ Hid (KX base f w wr)) (fun v9 _ => n - (intOf v9).toNat)
 case atStart => exact ⟨0, by omega, rfl, hid (by rw [exTo_zero, List.append_nil]; exact HX.out), hid (KX.refl _ _ _)⟩
 case round =>
  obtain ⟨k, hk, rfl, XV, KV⟩ := hrel
  obtain ⟨V, rfl⟩ : ∃ wo : World, wo = wr := ⟨_, rfl⟩
  by_cases hlt : k < n
  ·have hx : M[k]? = some (M[k]'(by rw [← HN.out]; exact hlt)) := List.getElem?_eq_getElem _
   obtain ⟨x, ht⟩ : ∃ t, t = M[k]'(by rw [← HN.out]; exact hlt) := ⟨_, rfl⟩
   rw [← ht] at hx
   obtain ⟨g, o, rfl, hc, hg1, hg2⟩ := HC.out k x hx
   have c0 := (World.cell?_of_block (a := ⟨g, o + k, none⟩) (KV.out.block g hg1 hg2)).trans hc
   have HS := hid (exTo_step (b := b) hx)
   have HH := hid (HIH.out x (List.mem_of_getElem? hx))
   have hle1 := HLE.out (k + 1)
   rw [HS.out, List.length_append, List.length_append] at hle1
   have HL1 := hid (show (l ++ exTo b M k).length + ((ownK x).length + (exF b (memR x)).length) ≤ 1000 by have := HLEN.out; rw [List.length_append]; omega)
   have HM := hid (fun W h => HMM.out x W h)
   have HK := hid (HKN.out x V)
   have HOW := hid (show ownK x = if knownR x = true then [x] else [] from rfl)
   obtain ⟨l1, hl1⟩ : ∃ l1, l1 = l ++ exTo b M k := ⟨_, rfl⟩
   rw [← hl1] at XV HL1
   have HS2 := hid (show l ++ exTo b M (k + 1) = l1 ++ (ownK x ++ exF b (memR x)) by rw [HS.out, hl1, List.append_assoc])
   obtain ⟨z, hz⟩ : ∃ z, z = knownR x := ⟨_, rfl⟩
   rw [← hz] at HK HOW
   have k1 : (k : Int) < n := by omega
   have k0 : (0 : Int) ≤ k := by omega
   have hbs := hid XV.out.lt.2.2.2.2
   clear hx ht hc hg1 hg2 hle1 hl1 hz HS
   cases z
   ·have hv := hid (show ownK x = [] from HOW.out)
    have HLX := hid (show l1.length + (exF b (memR x)).length ≤ 1000 by have := HL1.out; omega)
    clear HOW HL1
    go_wp2_with (go_at_call 117; ((with_reducible refine (HK.out).mono ?_); rintro r X ⟨rfl, b1⟩); have X1 := hid (XV.out.on b1); have K1 := hid (KV.out.trans (KX.of b1 hbs.out)); have y1 := X1.out.ce; have y2 := X1.out.ct; clear b1)
    go_region_with (first
     | (go_at_call 243; ((with_reducible refine (HM.out _ X1.out.dr.tab).mono ?_); rintro r Y ⟨u, rfl, m2, b2⟩); have X2 := hid (X1.out.dr.on b2); have K2 := hid (K1.out.trans (KX.of b2 X1.out.lt.2.2.2.2).dr); have N2 := hid (m2.names X2.out); have y3 := X2.out.ce; clear b2 m2)
     | (go_at_call 242; ((with_reducible refine (HH.out _ _ _ X2.out N2.out HLX.out).mono ?_); rintro r Z ⟨rfl, x3, k3⟩); have X3 := hid x3; have K3 := hid (K2.out.trans k3); clear x3 k3))
    all_goals
     go_wp2_with fail
     go_roundw
     case rel => exact ⟨k + 1, by omega, by go_num, hid (by rw [HS2.out, hv.out, List.nil_append]; exact X3.out), K3⟩
     case measure => simp [intOf]; omega
   ·have hv := hid (show ownK x = [x] from HOW.out)
    have HLX := hid (show (l1 ++ [x]).length + (exF b (memR x)).length ≤ 1000 by have h1 := HL1.out; rw [hv.out, List.length_singleton] at h1; rw [List.length_append, List.length_singleton]; omega)
    have HLY := hid (show l1.length ≤ 1000 by have := HL1.out; omega)
    clear HOW HL1
    go_wp2_with (first
     | (go_at_call 117; ((with_reducible refine (HK.out).mono ?_); rintro r X ⟨rfl, b1⟩); have X1 := hid (XV.out.on b1); have K1 := hid (KV.out.trans (KX.of b1 hbs.out)); clear b1; obtain ⟨fv, hf1, hf2⟩ := X1.out.found; have F1 := hid hf1; have F2 := hid hf2; have y0 := (cell_of_row X f 0 _ _ (0, 0) hf1).trans (show _ = some fv from rfl); clear hf1 hf2)
     | (at_builtin
        refine wpList_append_own _ rfl (.tmp 15) (.tmp 17) 44 rfl base 9 i0 _ 1 16 Tryz.underlying44 HI.out HZ0.out HZ1.out HZ2.out rfl (by omega) fv l1.length (sG l1) rfl (F2.out.alloc _) ⟨X.heap.size, 0, none⟩ 1 1 (sG [x]) rfl rfl (news_g X x _) (sG_one _) (by have := HLY.out; unfold maxLen; omega) (by have := HLY.out; omega) (by rw [World.size_alloc]; have := X1.out.lt.2.2.2.2; omega) ?_
        intro v5 w5 o5 h5 _
        obtain ⟨hg5, x5, k5⟩ := X1.out.put F1.out F2.out o5 h5
        have G5 := hid hg5
        have X5 := hid x5
        have K5 := hid (K1.out.trans k5)
        have O5 := hid (own_one o5)
        clear hg5 x5 k5 o5 h5)
     | ((with_reducible show wpList _ _ _ (⟨none, .store 44 _ _, _, _, _, _⟩ :: _) _ _)
        refine wpList_store_oneTo rfl _ (.tmp 1) (.tmp 18) rfl rfl f v5 rfl rfl O5.out _ _ G5.out (by kernel_rfl) ?_
        obtain ⟨w6, hw6⟩ : ∃ w6, w6 = w5.setRow f #[v5] := ⟨_, rfl⟩
        rw [← hw6] at X5 K5 ⊢
        have y1 := X5.out.ce
        have y2 := X5.out.ct
        clear hw6))
    go_region_with (first
     | (go_at_call 243; ((with_reducible refine (HM.out _ X5.out.dr.tab).mono ?_); rintro r Y ⟨u, rfl, m2, b2⟩); have X2 := hid (X5.out.dr.on b2); have K2 := hid (K5.out.trans (KX.of b2 X5.out.lt.2.2.2.2).dr); have N2 := hid (m2.names X2.out); have y3 := X2.out.ce; clear b2 m2)
     | (go_at_call 242; ((with_reducible refine (HH.out _ _ _ X2.out N2.out HLX.out).mono ?_); rintro r Z ⟨rfl, x3, k3⟩); have X3 := hid x3; have K3 := hid (K2.out.trans k3); clear x3 k3))
    all_goals
     go_wp2_with fail
     go_roundw
     case rel => exact ⟨k + 1, by omega, by go_num, hid (by rw [HS2.out, hv.out, ← List.append_assoc]; exact X3.out), K3⟩
     case measure => simp [intOf]; omega
  ·obtain rfl : k = n := by omega
   have k1 : ¬ (k : Int) < k := by omega
   go_wp2_with fail
   go_end0
   exact ⟨rfl, by rw [← HV.out]; exact XV.out, KV.out⟩
theorem expand_all11 (base B f e t : Nat) : ∀ (b : Nat) (M : List ByteArray), (∀ x ∈ M, deepR x < b) → M.length ≤ 8 → ExpC base B f e t (b + 1) M := by
 intro b
 induction b with
 | zero =>
  intro M hM h8
  exact expand_at base B f e t 0 M h8 fun x hx => absurd (hM x hx) (by omega)
 | succ b ih =>
  intro M hM h8
  exact expand_at base B f e t (b + 1) M h8 fun x hx => ih (memR x) (fun y hy => by have := deep_lt hy; have := hM x hx; omega) (mem_le x)
set_option maxRecDepth 100000
open Go.Lib (hid)
open Go.RowKit
set_option linter.unusedVariables false
set_option linter.unusedSimpArgs false
attribute [local go_sem ↓] Go.wp_at_zero Go.wp_at_succ

theorem exp_world (W : World) (s : ByteArray) (B : Nat) (t1 t3 t4 : TypeId) (u : Value) (hT : TabH W B) (hu : u = .func (.func 242) #[] #[.pointer (some ⟨W.heap.size + 1, 0, none⟩), .pointer (some ⟨W.heap.size + 1 + 1, 0, none⟩), .pointer (some ⟨W.heap.size, 0, none⟩)]) :
 XBox ((((W.alloc (.cells #[.slice (some ⟨B + 18, 0, none⟩) 18 18] t1)).alloc (.cells #[.slice none 0 0] 44)).alloc (.cells #[u] t3)).alloc (.cells #[.string s] t4)) (W.heap.size + 1 + 1 + 1 + 1) B (W.heap.size + 1) (W.heap.size + 1 + 1) W.heap.size [] ∧ NamesIn (W.heap.size + 1 + 1 + 1 + 1) (W.heap.size + 1) ((((W.alloc (.cells #[.slice (some ⟨B + 18, 0, none⟩) 18 18] t1)).alloc (.cells #[.slice none 0 0] 44)).alloc (.cells #[u] t3)).alloc (.cells #[.string s] t4)) (.slice (some ⟨W.heap.size + 1 + 1 + 1, 0, none⟩) 1 1) [s] ∧ Below W.heap.size W ((((W.alloc (.cells #[.slice (some ⟨B + 18, 0, none⟩) 18 18] t1)).alloc (.cells #[.slice none 0 0] 44)).alloc (.cells #[u] t3)).alloc (.cells #[.string s] t4)) := by
 obtain ⟨X, hX⟩ : ∃ X, X = W.alloc (.cells #[.slice (some ⟨B + 18, 0, none⟩) 18 18] t1) := ⟨_, rfl⟩
 obtain ⟨Y, hY⟩ : ∃ Y, Y = X.alloc (.cells #[.slice none 0 0] 44) := ⟨_, rfl⟩
 obtain ⟨Z, hZ⟩ : ∃ Z, Z = Y.alloc (.cells #[u] t3) := ⟨_, rfl⟩
 obtain ⟨U, hU⟩ : ∃ U, U = Z.alloc (.cells #[.string s] t4) := ⟨_, rfl⟩
 rw [← hX, ← hY, ← hZ, ← hU]
 have sX : X.heap.size = W.heap.size + 1 := by rw [hX, World.size_alloc]
 have sY : Y.heap.size = W.heap.size + 1 + 1 := by rw [hY, World.size_alloc, sX]
 have sZ : Z.heap.size = W.heap.size + 1 + 1 + 1 := by rw [hZ, World.size_alloc, sY]
 have sU : U.heap.size = W.heap.size + 1 + 1 + 1 + 1 := by rw [hU, World.size_alloc, sZ]
 have b1 : Below W.heap.size W X := by rw [hX]; exact (Below.refl _ W).alloc (Nat.le_refl _) _
 have b2 : Below X.heap.size X Y := by rw [hY]; exact (Below.refl _ X).alloc (Nat.le_refl _) _
 have b3 : Below Y.heap.size Y Z := by rw [hZ]; exact (Below.refl _ Y).alloc (Nat.le_refl _) _
 have b4 : Below Z.heap.size Z U := by rw [hU]; exact (Below.refl _ Z).alloc (Nat.le_refl _) _
 have r1 : X.heap[W.heap.size]? = some (.cells #[.slice (some ⟨B + 18, 0, none⟩) 18 18] t1 (0, 0)) := by rw [hX]; exact heap_alloc_new W _
 have r2 : Y.heap[W.heap.size + 1]? = some (.cells #[.slice none 0 0] 44 (0, 0)) := by rw [hY, ← sX]; exact heap_alloc_new X _
 have r3 : Z.heap[W.heap.size + 1 + 1]? = some (.cells #[u] t3 (0, 0)) := by rw [hZ, ← sY]; exact heap_alloc_new Y _
 have r4 : U.heap[W.heap.size + 1 + 1 + 1]? = some (.cells #[.string s] t4 (0, 0)) := by rw [hU, ← sZ]; exact heap_alloc_new Z _
 have b34 : Below Y.heap.size Y U := thnH b3 b4
 have b24 : Below X.heap.size X U := thnH b2 b34
 have b0 : Below W.heap.size W U := thnH b1 b24
 have hlt := hT.lt
 refine ⟨⟨hT.next b0, by omega, ?_, ?_, .slice none 0 0, (b34.block _ (by omega)).trans r2, World.ownsRow_nil _ _ _ _⟩, ⟨_, _, rfl, fun k x hk => ⟨_, _, rfl, ?_, by omega, by omega⟩⟩, b0⟩
 ·rw [cell_of_row U _ _ _ _ (0, 0) ((b24.block _ (by omega)).trans r1)]; rfl
 ·rw [cell_of_row U _ _ _ _ (0, 0) ((b4.block _ (by omega)).trans r3), hu]; rfl
 ·rw [cell_of_row U _ _ _ _ (0, 0) r4]
  cases k with
  | zero => have := Option.some.inj hk; subst this; rfl
  | succ k => simp at hk
theorem exp_tab : (grpT.all fun e => decide (4 < deepR e.1) || (decide ((isortS ((exF 8 [e.1]).map bL)).Pairwise fun a b => leS a b = true) && decide (Lib.compact (isortS ((exF 8 [e.1]).map bL)) = (expL e.1).map bL) && decide (0 < (exF 8 [e.1]).length) && decide ((exF 8 [e.1]).length ≤ 900))) = true := by kernel_rfl
theorem exp_at {s : ByteArray} (h : memR s ≠ []) (hd : ¬ 4 < deepR s) : Lib.compact (((exF 8 [s]).map bL).mergeSort leS) = (expL s).map bL ∧ 0 < (exF 8 [s]).length ∧ (exF 8 [s]).length ≤ 900 := by
 obtain ⟨e, he, rfl⟩ := mem_some h
 have := List.all_eq_true.1 exp_tab e he
 simp only [Bool.or_eq_true, Bool.and_eq_true, decide_eq_true_eq] at this
 rcases this with h1 | h1
 ·exact absurd h1 hd
 ·rw [sorted_S h1.1.1.1]; exact ⟨h1.1.1.2, h1.1.2, h1.2⟩
theorem KX.below {f base : Nat} {w w' : World} {b : Nat} (h : KX base f w w') (h1 : b ≤ base) (h2 : b ≤ f) : Below b w w' := ⟨h.os, h.tape, h.output, h.size, fun k hk => h.block k (by omega) (by omega)⟩
theorem own_form {w : World} {B n : Nat} {t : TypeId} {v : Value} {xs : List Value} (h : w.ownsRow B t 1 v n xs) (h0 : 0 < n) : ∃ g cap, v = .slice (some ⟨g, 0, none⟩) n cap ∧ n ≤ cap ∧ B ≤ g := by
 rcases h.2 with ⟨_, e⟩ | ⟨g, cap, cur, hv, hg, _, hc, _⟩
 ·omega
 ·exact ⟨g, cap, hv, hc, hg⟩
abbrev Holds11 (V : World) (g : Nat) (s : ByteArray) : Prop := Sort.Holds encStr V g 0 (((exF 8 [s]).map bL).mergeSort leS).toArray
theorem comp_at (s : ByteArray) (hx : Lib.compact (((exF 8 [s]).map bL).mergeSort leS) = (expL s).map bL) (V : World) (B g cap n : Nat) (hn : n = (exF 8 [s]).length) (hH : Holds11 V g s) (hg : B ≤ g) (hV : g < V.heap.size) (hcap : n ≤ cap) (hl : n ≤ 900) :
 Calls Tryz.prog 245 #[.slice (some ⟨g, 0, none⟩) n cap] V fun e w' => ∃ m, e = .returned (.slice (some ⟨g, 0, none⟩) m cap) ∧ StrsAt w' (.slice (some ⟨g, 0, none⟩) m cap) (expL s) ∧ Below B V w' := by
 refine (comp_S V B g cap n (((exF 8 [s]).map bL).mergeSort leS) (by rw [List.length_mergeSort, List.length_map, hn]) hH hg hV hcap (by omega)).mono ?_
 rintro e w' ⟨rfl, hc, b⟩
 rw [hx] at hc
 refine ⟨_, rfl, ⟨_, _, by rw [hx, List.length_map], fun k x hk => ⟨g, 0, rfl, ?_⟩⟩, b⟩
 rw [hc k (bL x) (by rw [List.getElem?_map, hk]; rfl), enc_bL]
theorem deep_pos {s : ByteArray} (h : memR s ≠ []) : 0 < deepR s := by have := dp_at h; omega
end Go.Proofs.YtlenjfodjkhpmaaGreatDoor
