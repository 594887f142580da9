/- The landed calls.Known: is a name one of the table. No condition. -/
import Derived.Test.YtlenjfodjkhpmaaGreatDoorWd
import Derived.Deep.AppendLies
import Derived.Deep.DrawnRows
import Derived.RegionTactic
import Derived.BigRegion
import Derived.Deep.DeepCutAuto
import Derived.Deep.MidRow
import Derived.Deep.QuietTactic
import Derived.BigQuiet
import Derived.Laws.BitsAllLaws
import Derived.WalkSmall
namespace Go.Proofs.YtlenjfodjkhpmaaGreatDoor
set_option maxRecDepth 100000
open Go.Lib (hid)
open Go.RowKit
set_option linter.unusedVariables false
attribute [local go_sem ↓] Go.wp_at_zero Go.wp_at_succ

def callN : List ByteArray := [⟨#[98, 105, 110, 100]⟩, ⟨#[98, 112, 102]⟩, ⟨#[98, 114, 107]⟩, ⟨#[99, 108, 111, 99, 107, 95, 115, 101, 116, 116, 105, 109, 101]⟩, ⟨#[99, 108, 111, 110, 101]⟩, ⟨#[99, 108, 111, 110, 101, 51]⟩, ⟨#[99, 108, 111, 115, 101]⟩, ⟨#[99, 111, 110, 110, 101, 99, 116]⟩, ⟨#[100, 101, 108, 101, 116, 101, 95, 109, 111, 100, 117, 108, 101]⟩, ⟨#[101, 120, 101, 99, 118, 101]⟩, ⟨#[101, 120, 105, 116]⟩, ⟨#[102, 105, 110, 105, 116, 95, 109, 111, 100, 117, 108, 101]⟩, ⟨#[102, 111, 114, 107]⟩, ⟨#[103, 101, 116, 117, 105, 100]⟩, ⟨#[105, 110, 105, 116, 95, 109, 111, 100, 117, 108, 101]⟩, ⟨#[105, 111, 99, 116, 108]⟩, ⟨#[107, 105, 108, 108]⟩, ⟨#[108, 105, 115, 116, 101, 110]⟩, ⟨#[109, 109, 97, 112]⟩, ⟨#[109, 111, 117, 110, 116]⟩, ⟨#[109, 112, 114, 111, 116, 101, 99, 116]⟩, ⟨#[109, 117, 110, 109, 97, 112]⟩, ⟨#[111, 112, 101, 110]⟩, ⟨#[111, 112, 101, 110, 97, 116]⟩, ⟨#[112, 101, 114, 115, 111, 110, 97, 108, 105, 116, 121]⟩, ⟨#[112, 107, 101, 121, 95, 109, 112, 114, 111, 116, 101, 99, 116]⟩, ⟨#[112, 116, 114, 97, 99, 101]⟩, ⟨#[114, 101, 97, 100]⟩, ⟨#[114, 101, 98, 111, 111, 116]⟩, ⟨#[115, 99, 104, 101, 100, 95, 115, 101, 116, 97, 116, 116, 114]⟩, ⟨#[115, 99, 104, 101, 100, 95, 115, 101, 116, 115, 99, 104, 101, 100, 117, 108, 101, 114]⟩, ⟨#[115, 101, 99, 99, 111, 109, 112]⟩, ⟨#[115, 101, 116, 110, 115]⟩, ⟨#[115, 101, 116, 116, 105, 109, 101, 111, 102, 100, 97, 121]⟩, ⟨#[115, 101, 116, 117, 105, 100]⟩, ⟨#[115, 104, 109, 97, 116]⟩, ⟨#[115, 111, 99, 107, 101, 116]⟩, ⟨#[117, 109, 111, 117, 110, 116, 50]⟩, ⟨#[117, 110, 115, 104, 97, 114, 101]⟩, ⟨#[119, 114, 105, 116, 101]⟩]
def callR : List (List Int) := [[49, 361, 1073741873, 282, 200, 200], [321, 357, 1073742145, 386, 280, 280], [12, 45, 1073741836, 45, 214, 214], [227, 264, 1073742051, 262, 112, 112], [56, 120, 1073741880, 120, 220, 220], [435, 435, (-1), 435, 435, 435], [3, 6, 1073741827, 6, 57, 57], [42, 362, 1073741866, 283, 203, 203], [176, 129, 1073742000, 129, 106, 106], [59, 11, 1073742344, 11, 221, 221], [60, 1, 1073741884, 1, 93, 93], [313, 350, 1073742137, 379, 273, 273], [57, 2, 1073741881, 2, (-1), (-1)], [102, 24, 1073741926, 24, 174, 174], [175, 128, (-1), 128, 105, 105], [16, 54, 1073742338, 54, 29, 29], [62, 37, 1073741886, 37, 129, 129], [50, 363, 1073741874, 284, 201, 201], [9, 90, 1073741833, (-1), 222, 222], [165, 21, 1073741989, 21, 40, 40], [10, 125, 1073741834, 125, 226, 226], [11, 91, 1073741835, 91, 215, 215], [2, 5, 1073741826, 5, (-1), (-1)], [257, 295, 1073742081, 322, 56, 56], [135, 136, 1073741959, 136, 92, 92], [329, 380, 1073742153, 394, 288, (-1)], [101, 26, 1073742345, 26, 117, 117], [0, 3, 1073741824, 3, 63, 63], [169, 88, 1073741993, 88, 142, 142], [314, 351, 1073742138, 380, 274, 274], [144, 156, 1073741968, 156, 119, 119], [317, 354, 1073742141, 383, 277, 277], [308, 346, 1073742132, 375, 268, 268], [164, 79, 1073741988, 79, 170, 170], [105, 23, 1073741929, 23, 146, 146], [30, 397, (-1), 305, 196, 196], [41, 359, 1073741865, 281, 198, 198], [166, 52, 1073741990, 52, 39, 39], [272, 310, 1073742096, 337, 97, 97], [1, 4, 1073741825, 4, 64, 64]]
def nmT (j : Nat) : ByteArray := callN.getD j ⟨#[]⟩
def nrT (j i : Nat) : Int := (callR.getD j []).getD i (-1)
def rowT (j : Nat) : Array Value := ((callR.getD j []).map fun x => Value.int .i64 x).toArray
theorem callR_len : ∀ j, j < 40 → (callR.getD j []).length = 6 := by decide +kernel
structure PT (w : World) (k : Nat) (W : World) : Prop where
 size : W.heap.size = w.heap.size + k
 below : Below w.heap.size w W
 rows : ∀ j, j < k → ∀ i, i < 6 → W.cell? ⟨w.heap.size + j, i, none⟩ = some (.int .i64 (nrT j i))
theorem PT.zero (w : World) : PT w 0 w := ⟨rfl, Below.refl _ _, fun j hj => absurd hj (by omega)⟩
theorem rowT_get {j i : Nat} (hj : j < 40) (hi : i < 6) : (rowT j)[i]? = some (.int .i64 (nrT j i)) := by
 have hl := callR_len j hj
 unfold rowT nrT
 rw [List.getElem?_toArray, List.getElem?_map, List.getD_eq_getElem?_getD (l := callR.getD j []), List.getElem?_eq_getElem (by omega)]; rfl
theorem PT.next {w W : World} {k : Nat} (h : PT w k W) (hk : k < 40) (t : TypeId) : PT w (k + 1) (W.alloc (.cells (rowT k) t)) := by
 refine ⟨by rw [World.size_alloc, h.size]; omega, h.below.alloc h.below.size _, fun j hj i hi => ?_⟩
 by_cases e : j = k
 ·subst e
  rw [← h.size, cell_of_row _ _ i _ _ (0, 0) (heap_alloc_new W _)]
  exact rowT_get hk hi
 ·rw [World.cell?_alloc_lt W _ _ (by show w.heap.size + j < _; rw [h.size]; omega)]
  exact h.rows j (by omega) i hi
structure TabAt (w : World) (g B : Nat) : Prop where
 name : ∀ j, j < 40 → w.cell? ⟨g, j * 2, none⟩ = some (.string (nmT j))
 row : ∀ j, j < 40 → w.cell? ⟨g, j * 2 + 1, none⟩ = some (.slice (some ⟨B + j, 0, none⟩) 6 6)
 nr : ∀ j, j < 40 → ∀ i, i < 6 → w.cell? ⟨B + j, i, none⟩ = some (.int .i64 (nrT j i))
 lt : g < w.heap.size ∧ B + 40 ≤ w.heap.size
theorem TabAt.on {w w' : World} {g B : Nat} (h : TabAt w g B) (hb : Below w.heap.size w w') : TabAt w' g B :=
 ⟨fun j hj => (hb.cell (p := ⟨g, j * 2, none⟩) h.lt.1).trans (h.name j hj), fun j hj => (hb.cell (p := ⟨g, j * 2 + 1, none⟩) h.lt.1).trans (h.row j hj),
   fun j hj i hi => (hb.cell (p := ⟨B + j, i, none⟩) (show B + j < _ by have := h.lt.2; omega)).trans (h.nr j hj i hi), by have := hb.size; have := h.lt; omega⟩
set_option maxRecDepth 100000
open Go.Lib (hid)
open Go.RowKit
set_option linter.unusedVariables false
attribute [local go_sem ↓] Go.wp_at_zero Go.wp_at_succ

def firstT (p : Nat → Bool) : Nat → Option Nat
 | 0 => none
 | k + 1 => match firstT p k with | some j => some j | none => if p k = true then some k else none
theorem first_hit {p : Nat → Bool} {k : Nat} (hm : firstT p k = none) (h : p k = true) : ∀ {n : Nat}, k < n → firstT p n = some k
 | n + 1, hn => by
   unfold firstT
   by_cases e : k = n
   ·subst e; rw [hm]; simp [h]
   ·rw [first_hit hm h (n := n) (by omega)]
theorem first_miss {p : Nat → Bool} {k : Nat} (hm : firstT p k = none) (h : p k = false) : firstT p (k + 1) = none := by
 unfold firstT; rw [hm]; simp [h]
def knownR (s : ByteArray) : Bool := (firstT (fun j => decide (nmT j = s)) 40).isSome
theorem list_of_bytes9 {a b : ByteArray} (h : a.toList = b.toList) : a = b := by
 apply ByteArray.ext
 have h2 := congrArg List.toArray h
 simpa [ByteArray.toList_eq] using h2
set_option maxRecDepth 100000
open Go.Lib (hid)
open Go.RowKit
set_option linter.unusedVariables false
attribute [local go_sem ↓] Go.wp_at_zero Go.wp_at_succ

theorem first_some {p : Nat → Bool} : ∀ {n j : Nat}, firstT p n = some j → j < n ∧ p j = true
 | n + 1, j, h => by
   unfold firstT at h
   cases hf : firstT p n with
   | some i =>
    rw [hf] at h
    obtain rfl : i = j := Option.some.inj h
    have := first_some hf
    exact ⟨by omega, this.2⟩
   | none =>
    rw [hf] at h
    by_cases hp : p n = true
    ·simp only [hp, if_true] at h
     obtain rfl : n = j := Option.some.inj h
     exact ⟨by omega, hp⟩
    ·simp only [hp] at h
     cases h
def nrL (j : Nat) : List Value := (callR.getD j []).map fun x => Value.int .i16 (if 1073741824 ≤ x then x - 1073741824 else x)
def rL (j : Nat) : List Value := .string (nmT j) :: nrL j
def tabL9 : List Value := (List.range 40).flatMap rL
def tabV9 : Array Value := tabL9.toArray
def zeroL9 : List Value := (List.range 40).flatMap fun _ => [.string ⟨#[]⟩, .int .i16 0, .int .i16 0, .int .i16 0, .int .i16 0, .int .i16 0, .int .i16 0]
def Z9 : Array Value := zeroL9.toArray
theorem wpList_val9 {ops : Array Oper} {rest : List Oper} {op : Oper} {a : Act} {w : World} {Q : Exit → Act → World → Prop} (hgd : op.guard = none) (v : Value) (hr : (execOp a.eval op).run Tryz.prog w = .ok (.value v) w)
 (h : wpList Tryz.prog ops Q rest (a.put op.dst v) w) : wpList Tryz.prog ops Q (op :: rest) a w :=
 wpList_plain hgd fun _ hK => by unfold Oper.wp; rw [hr]; exact hK _ _ h
theorem wpList_new9 {ops : Array Oper} {rest : List Oper} {op : Oper} {a : Act} {w : World} {Q : Exit → Act → World → Prop} (hgd : op.guard = none) (hr : (execOp a.eval op).run Tryz.prog w = .ok (.value (.pointer (some ⟨w.heap.size, 0, none⟩))) (w.alloc (.cells Z9 256)))
 (h : wpList Tryz.prog ops Q rest (a.put op.dst (.pointer (some ⟨w.heap.size, 0, none⟩))) (w.alloc (.cells Z9 256))) : wpList Tryz.prog ops Q (op :: rest) a w :=
 wpList_plain hgd fun _ hK => by unfold Oper.wp; rw [hr]; exact hK _ _ h
theorem results_row9 {fn : Func} {tmps : Array Value} {w : World} {t : Nat} {ty : TypeId} {p : Addr} {v : Value} (hr : fn.results = #[.cell t ty]) (ha : tmps.getD t undef = .pointer (some p)) (hl : (loadVar ty p).run Tryz.prog w = .ok v w) : (results fn tmps).run Tryz.prog w = .ok v w := by
 have ha' : tmps[t]?.getD undef = .pointer (some p) := by simpa using ha
 simp [results, hr, asAddr, ha', hl]
theorem below_setCells9 {w0 : World} {b : Nat} (hb : w0.heap.size ≤ b) : ∀ (vs : List Value) (o : Nat) (w : World), Below w0.heap.size w0 w → Below w0.heap.size w0 (w.setCells b o vs)
 | [], o, w, h => h
 | v :: vs, o, w, h => below_setCells9 hb vs (o + 1) (w.setCell ⟨b, o, none⟩ v) (h.setCell hb v)
theorem Z9_some : ∀ j, j < 280 → (Z9[j]?).isSome = true := fun j hj => by
 have h : Z9.size = 280 := by kernel_rfl
 rw [Array.getElem?_eq_getElem (by omega)]; rfl
theorem Z9_there (W : World) : (W.alloc (.cells Z9 256)).there W.heap.size 0 280 := fun j hj => by
 refine ⟨?_, frozen_of_row _ _ _ _ _ (heap_alloc_new W _)⟩
 rw [cell_of_row _ _ (0 + j) _ _ (0, 0) (heap_alloc_new W _), Nat.zero_add]
 exact Z9_some j hj
set_option maxHeartbeats 32000000 in
theorem table9 (w : World) : Calls Tryz.prog 201 #[] w fun e w' => e = .returned (.agg tabV9) ∧ Below w.heap.size w w' := by
 have hsz : tabV9.size = 280 := by kernel_rfl
 have hth : (w.alloc (.cells Z9 256)).there w.heap.size 0 tabV9.size := by rw [hsz]; exact Z9_there w
 have hinf : (Tryz.prog.info? 256).map (·.size) = some tabV9.size := by kernel_rfl
 have hone : tabV9.all (·.oneCell') = true := by kernel_rfl
 have hrg := World.rangeAt_setCells_same (w.alloc (.cells Z9 256)) w.heap.size 0 tabV9.toList hth
 have hBl : Below w.heap.size w ((w.alloc (.cells Z9 256)).setCells w.heap.size 0 tabV9.toList) := below_setCells9 (Nat.le_refl _) _ _ _ ((Below.refl _ _).alloc (Nat.le_refl _) _)
 have HTH := hid hth
 have HIN := hid hinf
 have HON := hid hone
 have HRG := hid hrg
 have HBL := hid hBl
 clear hth hinf hone hrg hBl
 go_enter Tryz.func201, Tryz.ntmps201
 go_upto_region 0 with fail
 refine wp_region_lit ?_
 refine wpList_new9 rfl (by kernel_rfl) ?_
 refine wpList_nil ?_
 go_upto_region 1 with fail
 refine wp_region_lit ?_
 refine wpList_val9 rfl (.agg (nrL 0).toArray) (by kernel_rfl) ?_
 refine wpList_val9 rfl (.agg (rL 0).toArray) (by kernel_rfl) ?_
 refine wpList_val9 rfl (.agg (nrL 1).toArray) (by kernel_rfl) ?_
 refine wpList_val9 rfl (.agg (rL 1).toArray) (by kernel_rfl) ?_
 refine wpList_val9 rfl (.agg (nrL 2).toArray) (by kernel_rfl) ?_
 refine wpList_val9 rfl (.agg (rL 2).toArray) (by kernel_rfl) ?_
 refine wpList_val9 rfl (.agg (nrL 3).toArray) (by kernel_rfl) ?_
 refine wpList_val9 rfl (.agg (rL 3).toArray) (by kernel_rfl) ?_
 refine wpList_val9 rfl (.agg (nrL 4).toArray) (by kernel_rfl) ?_
 refine wpList_val9 rfl (.agg (rL 4).toArray) (by kernel_rfl) ?_
 refine wpList_val9 rfl (.agg (nrL 5).toArray) (by kernel_rfl) ?_
 refine wpList_val9 rfl (.agg (rL 5).toArray) (by kernel_rfl) ?_
 refine wpList_val9 rfl (.agg (nrL 6).toArray) (by kernel_rfl) ?_
 refine wpList_val9 rfl (.agg (rL 6).toArray) (by kernel_rfl) ?_
 refine wpList_val9 rfl (.agg (nrL 7).toArray) (by kernel_rfl) ?_
 refine wpList_val9 rfl (.agg (rL 7).toArray) (by kernel_rfl) ?_
 refine wpList_val9 rfl (.agg (nrL 8).toArray) (by kernel_rfl) ?_
 refine wpList_val9 rfl (.agg (rL 8).toArray) (by kernel_rfl) ?_
 refine wpList_val9 rfl (.agg (nrL 9).toArray) (by kernel_rfl) ?_
 refine wpList_val9 rfl (.agg (rL 9).toArray) (by kernel_rfl) ?_
 refine wpList_val9 rfl (.agg (nrL 10).toArray) (by kernel_rfl) ?_
 refine wpList_val9 rfl (.agg (rL 10).toArray) (by kernel_rfl) ?_
 refine wpList_val9 rfl (.agg (nrL 11).toArray) (by kernel_rfl) ?_
 refine wpList_val9 rfl (.agg (rL 11).toArray) (by kernel_rfl) ?_
 refine wpList_val9 rfl (.agg (nrL 12).toArray) (by kernel_rfl) ?_
 refine wpList_val9 rfl (.agg (rL 12).toArray) (by kernel_rfl) ?_
 refine wpList_val9 rfl (.agg (nrL 13).toArray) (by kernel_rfl) ?_
 refine wpList_val9 rfl (.agg (rL 13).toArray) (by kernel_rfl) ?_
 refine wpList_val9 rfl (.agg (nrL 14).toArray) (by kernel_rfl) ?_
 refine wpList_val9 rfl (.agg (rL 14).toArray) (by kernel_rfl) ?_
 refine wpList_val9 rfl (.agg (nrL 15).toArray) (by kernel_rfl) ?_
 refine wpList_val9 rfl (.agg (rL 15).toArray) (by kernel_rfl) ?_
 refine wpList_val9 rfl (.agg (nrL 16).toArray) (by kernel_rfl) ?_
 refine wpList_val9 rfl (.agg (rL 16).toArray) (by kernel_rfl) ?_
 refine wpList_val9 rfl (.agg (nrL 17).toArray) (by kernel_rfl) ?_
 refine wpList_val9 rfl (.agg (rL 17).toArray) (by kernel_rfl) ?_
 refine wpList_val9 rfl (.agg (nrL 18).toArray) (by kernel_rfl) ?_
 refine wpList_val9 rfl (.agg (rL 18).toArray) (by kernel_rfl) ?_
 refine wpList_val9 rfl (.agg (nrL 19).toArray) (by kernel_rfl) ?_
 refine wpList_val9 rfl (.agg (rL 19).toArray) (by kernel_rfl) ?_
 refine wpList_val9 rfl (.agg (nrL 20).toArray) (by kernel_rfl) ?_
 refine wpList_val9 rfl (.agg (rL 20).toArray) (by kernel_rfl) ?_
 refine wpList_val9 rfl (.agg (nrL 21).toArray) (by kernel_rfl) ?_
 refine wpList_val9 rfl (.agg (rL 21).toArray) (by kernel_rfl) ?_
 refine wpList_val9 rfl (.agg (nrL 22).toArray) (by kernel_rfl) ?_
 refine wpList_val9 rfl (.agg (rL 22).toArray) (by kernel_rfl) ?_
 refine wpList_val9 rfl (.agg (nrL 23).toArray) (by kernel_rfl) ?_
 refine wpList_val9 rfl (.agg (rL 23).toArray) (by kernel_rfl) ?_
 refine wpList_val9 rfl (.agg (nrL 24).toArray) (by kernel_rfl) ?_
 refine wpList_val9 rfl (.agg (rL 24).toArray) (by kernel_rfl) ?_
 refine wpList_val9 rfl (.agg (nrL 25).toArray) (by kernel_rfl) ?_
 refine wpList_val9 rfl (.agg (rL 25).toArray) (by kernel_rfl) ?_
 refine wpList_val9 rfl (.agg (nrL 26).toArray) (by kernel_rfl) ?_
 refine wpList_val9 rfl (.agg (rL 26).toArray) (by kernel_rfl) ?_
 refine wpList_val9 rfl (.agg (nrL 27).toArray) (by kernel_rfl) ?_
 refine wpList_val9 rfl (.agg (rL 27).toArray) (by kernel_rfl) ?_
 refine wpList_val9 rfl (.agg (nrL 28).toArray) (by kernel_rfl) ?_
 refine wpList_val9 rfl (.agg (rL 28).toArray) (by kernel_rfl) ?_
 refine wpList_val9 rfl (.agg (nrL 29).toArray) (by kernel_rfl) ?_
 refine wpList_val9 rfl (.agg (rL 29).toArray) (by kernel_rfl) ?_
 refine wpList_val9 rfl (.agg (nrL 30).toArray) (by kernel_rfl) ?_
 refine wpList_val9 rfl (.agg (rL 30).toArray) (by kernel_rfl) ?_
 refine wpList_val9 rfl (.agg (nrL 31).toArray) (by kernel_rfl) ?_
 refine wpList_val9 rfl (.agg (rL 31).toArray) (by kernel_rfl) ?_
 refine wpList_val9 rfl (.agg (nrL 32).toArray) (by kernel_rfl) ?_
 refine wpList_val9 rfl (.agg (rL 32).toArray) (by kernel_rfl) ?_
 refine wpList_val9 rfl (.agg (nrL 33).toArray) (by kernel_rfl) ?_
 refine wpList_val9 rfl (.agg (rL 33).toArray) (by kernel_rfl) ?_
 refine wpList_val9 rfl (.agg (nrL 34).toArray) (by kernel_rfl) ?_
 refine wpList_val9 rfl (.agg (rL 34).toArray) (by kernel_rfl) ?_
 refine wpList_val9 rfl (.agg (nrL 35).toArray) (by kernel_rfl) ?_
 refine wpList_val9 rfl (.agg (rL 35).toArray) (by kernel_rfl) ?_
 refine wpList_val9 rfl (.agg (nrL 36).toArray) (by kernel_rfl) ?_
 refine wpList_val9 rfl (.agg (rL 36).toArray) (by kernel_rfl) ?_
 refine wpList_val9 rfl (.agg (nrL 37).toArray) (by kernel_rfl) ?_
 refine wpList_val9 rfl (.agg (rL 37).toArray) (by kernel_rfl) ?_
 refine wpList_val9 rfl (.agg (nrL 38).toArray) (by kernel_rfl) ?_
 refine wpList_val9 rfl (.agg (rL 38).toArray) (by kernel_rfl) ?_
 refine wpList_val9 rfl (.agg (nrL 39).toArray) (by kernel_rfl) ?_
 refine wpList_val9 rfl (.agg (rL 39).toArray) (by kernel_rfl) ?_
 refine wpList_val9 rfl (.agg tabV9) (by kernel_rfl) ?_
 refine wpList_store_mid rfl 256 (.tmp 0) (.tmp 81) rfl w.heap.size 0 tabV9 (by kernel_rfl) (by kernel_rfl) HTH.out HIN.out HON.out ?_
 generalize hV : (w.alloc (.cells Z9 256)).setCells w.heap.size 0 tabV9.toList = V at HRG HBL ⊢
 clear hV
 rename_i K hK
 show K _ _
 refine hK _ _ ?_
 have hld := run_loadVar_mid (P := Tryz.prog) V w.heap.size 0 256 tabV9.toList _ HRG.out Tryz.underlying256 rfl HIN.out
 refine wp_ret ?_
 exact bodyPost_ret (v := .agg tabV9) (results_row9 Tryz.results201 (by kernel_rfl) hld) (by kernel_rfl) ⟨rfl, HBL.out⟩
theorem run_row9 (k : Nat) (hk : k < 40) (w : World) : (Instr.index 256 (.agg tabV9) (.int .i64 k)).run Tryz.prog w = .ok (.agg (rL k).toArray) w := by
 match k, hk with
 | 0, _ => show _ = _; kernel_rfl
 | 1, _ => show _ = _; kernel_rfl
 | 2, _ => show _ = _; kernel_rfl
 | 3, _ => show _ = _; kernel_rfl
 | 4, _ => show _ = _; kernel_rfl
 | 5, _ => show _ = _; kernel_rfl
 | 6, _ => show _ = _; kernel_rfl
 | 7, _ => show _ = _; kernel_rfl
 | 8, _ => show _ = _; kernel_rfl
 | 9, _ => show _ = _; kernel_rfl
 | 10, _ => show _ = _; kernel_rfl
 | 11, _ => show _ = _; kernel_rfl
 | 12, _ => show _ = _; kernel_rfl
 | 13, _ => show _ = _; kernel_rfl
 | 14, _ => show _ = _; kernel_rfl
 | 15, _ => show _ = _; kernel_rfl
 | 16, _ => show _ = _; kernel_rfl
 | 17, _ => show _ = _; kernel_rfl
 | 18, _ => show _ = _; kernel_rfl
 | 19, _ => show _ = _; kernel_rfl
 | 20, _ => show _ = _; kernel_rfl
 | 21, _ => show _ = _; kernel_rfl
 | 22, _ => show _ = _; kernel_rfl
 | 23, _ => show _ = _; kernel_rfl
 | 24, _ => show _ = _; kernel_rfl
 | 25, _ => show _ = _; kernel_rfl
 | 26, _ => show _ = _; kernel_rfl
 | 27, _ => show _ = _; kernel_rfl
 | 28, _ => show _ = _; kernel_rfl
 | 29, _ => show _ = _; kernel_rfl
 | 30, _ => show _ = _; kernel_rfl
 | 31, _ => show _ = _; kernel_rfl
 | 32, _ => show _ = _; kernel_rfl
 | 33, _ => show _ = _; kernel_rfl
 | 34, _ => show _ = _; kernel_rfl
 | 35, _ => show _ = _; kernel_rfl
 | 36, _ => show _ = _; kernel_rfl
 | 37, _ => show _ = _; kernel_rfl
 | 38, _ => show _ = _; kernel_rfl
 | 39, _ => show _ = _; kernel_rfl
 | k + 40, hk => omega
theorem wpList_row9 {ops : Array Oper} {rest : List Oper} {op : Oper} {a : Act} {w : World} {Q : Exit → Act → World → Prop} (hgd : op.guard = none) (x y : Operand) (ho : op.op = .index 256 x y) (k : Nat) (hk : k < 40)
 (hx : a.eval x = .agg tabV9) (hy : a.eval y = .int .i64 k) (h : wpList Tryz.prog ops Q rest (a.put op.dst (.agg (rL k).toArray)) w) : wpList Tryz.prog ops Q (op :: rest) a w :=
 wpList_plain hgd fun _ hK => by
  unfold Oper.wp execOp
  simp only [ho, hx, hy, Sem.run_bind, Sem.run_pure, Result.andThen_ok, run_row9 k hk w]
  exact hK _ _ h
theorem thn9 {w V W : World} (a : Below w.heap.size w V) (b : Below V.heap.size V W) : Below w.heap.size w W := a.trans (b.mono a.size)
def mN (j i : Nat) : Int := if 1073741824 ≤ nrT j i then nrT j i - 1073741824 else nrT j i
theorem rL_is : ∀ j, j < 40 → rL j = [.string (nmT j), .int .i16 (mN j 0), .int .i16 (mN j 1), .int .i16 (mN j 2), .int .i16 (mN j 3), .int .i16 (mN j 4), .int .i16 (mN j 5)] := by
 intro j hj
 match j, hj with
 | 0, _ => show _ = _; kernel_rfl
 | 1, _ => show _ = _; kernel_rfl
 | 2, _ => show _ = _; kernel_rfl
 | 3, _ => show _ = _; kernel_rfl
 | 4, _ => show _ = _; kernel_rfl
 | 5, _ => show _ = _; kernel_rfl
 | 6, _ => show _ = _; kernel_rfl
 | 7, _ => show _ = _; kernel_rfl
 | 8, _ => show _ = _; kernel_rfl
 | 9, _ => show _ = _; kernel_rfl
 | 10, _ => show _ = _; kernel_rfl
 | 11, _ => show _ = _; kernel_rfl
 | 12, _ => show _ = _; kernel_rfl
 | 13, _ => show _ = _; kernel_rfl
 | 14, _ => show _ = _; kernel_rfl
 | 15, _ => show _ = _; kernel_rfl
 | 16, _ => show _ = _; kernel_rfl
 | 17, _ => show _ = _; kernel_rfl
 | 18, _ => show _ = _; kernel_rfl
 | 19, _ => show _ = _; kernel_rfl
 | 20, _ => show _ = _; kernel_rfl
 | 21, _ => show _ = _; kernel_rfl
 | 22, _ => show _ = _; kernel_rfl
 | 23, _ => show _ = _; kernel_rfl
 | 24, _ => show _ = _; kernel_rfl
 | 25, _ => show _ = _; kernel_rfl
 | 26, _ => show _ = _; kernel_rfl
 | 27, _ => show _ = _; kernel_rfl
 | 28, _ => show _ = _; kernel_rfl
 | 29, _ => show _ = _; kernel_rfl
 | 30, _ => show _ = _; kernel_rfl
 | 31, _ => show _ = _; kernel_rfl
 | 32, _ => show _ = _; kernel_rfl
 | 33, _ => show _ = _; kernel_rfl
 | 34, _ => show _ = _; kernel_rfl
 | 35, _ => show _ = _; kernel_rfl
 | 36, _ => show _ = _; kernel_rfl
 | 37, _ => show _ = _; kernel_rfl
 | 38, _ => show _ = _; kernel_rfl
 | 39, _ => show _ = _; kernel_rfl
 | j + 40, hj => omega
theorem nclos (j : Nat) (hj : j < 40) (s : ByteArray) (b : Nat) (w : World) (hb : w.cell? ⟨b, 0, none⟩ = some (.string s)) : Calls Tryz.prog 172 #[.agg (rL j).toArray, .pointer (some ⟨b, 0, none⟩)] w fun e w' =>
 e = .returned (.bool (decide (nmT j = s))) ∧ Below w.heap.size w w' := by
 rw [rL_is j hj]
 have hv := hid (show decide (nmT j = s) = ((nmT j).toList == s.toList) from by
  rw [Bool.eq_iff_iff, decide_eq_true_iff, beq_iff_eq]
  exact ⟨fun h => by rw [h], list_of_bytes9⟩)
 generalize nmT j = x at hv ⊢
 generalize mN j 0 = n0
 generalize mN j 1 = n1
 generalize mN j 2 = n2
 generalize mN j 3 = n3
 generalize mN j 4 = n4
 generalize mN j 5 = n5
 have hlt : b < w.heap.size := World.block_lt_of_cell? w _ hb
 have hb2 : (w.alloc (.cells #[.string x, .int .i16 n0, .int .i16 n1, .int .i16 n2, .int .i16 n3, .int .i16 n4, .int .i16 n5] 197)).cell? ⟨b, 0, none⟩ = some (.string s) := (World.cell?_alloc_lt w _ _ (by exact hlt)).trans hb
 have hne : b ≠ w.heap.size := by omega
 clear hj
 go_enter Tryz.func172, Tryz.ntmps172
 go_wp2
 go_ret
 exact ⟨by rw [hv.out]; rfl, (Below.refl _ _).alloc (Nat.le_refl _) _⟩
def rowR (p : Nat → Bool) : List Value := match firstT p 40 with | some j => rL j | none => [.string ⟨#[]⟩, .int .i16 0, .int .i16 0, .int .i16 0, .int .i16 0, .int .i16 0, .int .i16 0]
theorem row_there9 {V : World} {g : Nat} (h : V.heap[g]? = some (.cells #[.string ⟨#[]⟩, .int .i16 0, .int .i16 0, .int .i16 0, .int .i16 0, .int .i16 0, .int .i16 0] 197 (0, 0))) : V.there g 0 7 := fun j hj => by
 refine ⟨?_, frozen_of_row _ _ _ _ _ h⟩
 rw [cell_of_row _ _ (0 + j) _ _ (0, 0) h]
 match j, hj with
 | 0, _ => rfl
 | 1, _ => rfl
 | 2, _ => rfl
 | 3, _ => rfl
 | 4, _ => rfl
 | 5, _ => rfl
 | 6, _ => rfl
 | j + 7, hj => omega
theorem one9 (x : ByteArray) (n0 n1 n2 n3 n4 n5 : Int) : (#[.string x, .int .i16 n0, .int .i16 n1, .int .i16 n2, .int .i16 n3, .int .i16 n4, .int .i16 n5] : Array Value).all (·.oneCell') = true := by kernel_rfl
theorem ret9 {w V : World} {g : Nat} (h : V.heap[g]? = some (.cells #[.string ⟨#[]⟩, .int .i16 0, .int .i16 0, .int .i16 0, .int .i16 0, .int .i16 0, .int .i16 0] 197 (0, 0))) (hB : Below w.heap.size w V) (hg : w.heap.size ≤ g) (x : ByteArray) (n0 n1 n2 n3 n4 n5 : Int) :
 (loadVar 197 ⟨g, 0, none⟩).run Tryz.prog (V.setCells g 0 [.string x, .int .i16 n0, .int .i16 n1, .int .i16 n2, .int .i16 n3, .int .i16 n4, .int .i16 n5]) = .ok (.agg #[.string x, .int .i16 n0, .int .i16 n1, .int .i16 n2, .int .i16 n3, .int .i16 n4, .int .i16 n5]) (V.setCells g 0 [.string x, .int .i16 n0, .int .i16 n1, .int .i16 n2, .int .i16 n3, .int .i16 n4, .int .i16 n5]) ∧ Below w.heap.size w (V.setCells g 0 [.string x, .int .i16 n0, .int .i16 n1, .int .i16 n2, .int .i16 n3, .int .i16 n4, .int .i16 n5]) := by
 have hinf : (Tryz.prog.info? 197).map (·.size) = some 7 := by kernel_rfl
 exact ⟨run_loadVar_mid (P := Tryz.prog) _ g 0 197 [.string x, .int .i16 n0, .int .i16 n1, .int .i16 n2, .int .i16 n3, .int .i16 n4, .int .i16 n5] _ (World.rangeAt_setCells_same V g 0 [.string x, .int .i16 n0, .int .i16 n1, .int .i16 n2, .int .i16 n3, .int .i16 n4, .int .i16 n5] (row_there9 h)) Tryz.underlying197 rfl hinf, below_setCells9 hg _ _ _ hB⟩
theorem results_two9 {fn : Func} {tmps : Array Value} {w : World} {t u : Nat} {ty : TypeId} {p : Addr} {v x : Value} (hr : fn.results = #[.cell t ty, .tmp u]) (ha : tmps.getD t undef = .pointer (some p)) (hu : tmps.getD u undef = x) (hl : (loadVar ty p).run Tryz.prog w = .ok v w) : (results fn tmps).run Tryz.prog w = .ok (.tuple #[v, x]) w := by
 have ha' : tmps[t]?.getD undef = .pointer (some p) := by simpa using ha
 have hu' : tmps[u]?.getD undef = x := by simpa using hu
 simp [results, hr, asAddr, ha', hu', hl]
set_option maxHeartbeats 1600000 in
theorem find9_n (p : Nat → Bool) (b : Nat) (w : World) (HP : ∀ (k : Nat) (W : World), k < 40 → Below w.heap.size w W → Calls Tryz.prog 172 #[.agg (rL k).toArray, .pointer (some ⟨b, 0, none⟩)] W fun e w' => e = .returned (.bool (p k)) ∧ Below W.heap.size W w') :
 Calls Tryz.prog 171 #[.func (.func 172) #[] #[.pointer (some ⟨b, 0, none⟩)]] w fun e w' => e = .returned (.tuple #[.agg (rowR p).toArray, .bool (firstT p 40).isSome]) ∧ Below w.heap.size w w' := by
 have HT := hid (fun W => table9 W)
 have HIN := hid (show (Tryz.prog.info? 197).map (·.size) = some 7 from by kernel_rfl)
 have HP := hid HP
 go_enter Tryz.func171, Tryz.ntmps171
 go_wp2_with (go_at_call 201; ((with_reducible refine (HT.out _).mono ?_); rintro e w1 ⟨rfl, b1⟩); have HZ := hid ((b1.block w.heap.size (by rw [World.size_alloc]; exact Nat.lt_succ_self _)).trans (heap_alloc_new w _)); have hlt1 := hid (show w.heap.size < w1.heap.size from Nat.lt_of_lt_of_le (by rw [World.size_alloc]; exact Nat.lt_succ_self _) b1.size); have B1 := hid (thn9 ((Below.refl _ _).alloc (Nat.le_refl _) _) b1); clear b1)
 clear HT
 go_loopw [7] (fun i wr => ∃ k : Nat, k ≤ 40 ∧ i = .int .i64 k ∧ Hid (firstT p k = none) ∧ Hid (Below w1.heap.size w1 wr)) (fun i _ => 40 - (intOf i).toNat)
 case atStart => exact ⟨0, by omega, rfl, hid rfl, hid (Below.refl _ _)⟩
 case round =>
  obtain ⟨k, hk, rfl, hm, hB⟩ := hrel
  have hsz := hB.out.size
  by_cases hlt : k < 40
  ·have k1 : (k : Int) < 40 := by omega
   have k0 : (0 : Int) ≤ k := by omega
   have HK := hid (fun W hb => HP.out k W hlt hb)
   have HH := hid (fun h => (first_hit hm.out h hlt : firstT p 40 = some k))
   have HS := hid (fun h => (first_miss hm.out h : firstT p (k + 1) = none))
   have HQ := hid (show firstT p 40 = some k → rowR p = rL k from fun h => by unfold rowR; rw [h])
   have HR := hid (show (rL k).toArray = #[.string (nmT k), .int .i16 (mN k 0), .int .i16 (mN k 1), .int .i16 (mN k 2), .int .i16 (mN k 3), .int .i16 (mN k 4), .int .i16 (mN k 5)] from by rw [rL_is k hlt])
   rw [HR.out] at HK
   rw [rL_is k hlt] at HQ
   generalize nmT k = x at HR HK HQ
   generalize mN k 0 = n0 at HR HK HQ
   generalize mN k 1 = n1 at HR HK HQ
   generalize mN k 2 = n2 at HR HK HQ
   generalize mN k 3 = n3 at HR HK HQ
   generalize mN k 4 = n4 at HR HK HQ
   generalize mN k 5 = n5 at HR HK HQ
   generalize p k = y at HK HH HS
   clear HP hm
   cases y
   ·have hv := hid (HS.out rfl)
    clear HS HH HQ
    go_wp2_with (first
     | ((with_reducible show wpList _ _ _ (⟨some 9, _, _, _, _, _⟩ :: _) _ _)
        refine wpList_row9 rfl (.tmp 6) (.tmp 7) rfl k hlt rfl rfl ?_
        rw [HR.out])
     | (go_at_call 172; ((with_reducible refine (HK.out _ (thn9 B1.out (hB.out.alloc hsz _))).mono ?_); rintro e w2 ⟨rfl, b2⟩); have B2 := hid (thn9 (hB.out.alloc hsz _) b2)))
    go_roundw
    case rel => exact ⟨k + 1, by omega, by go_num, hv, B2⟩
    case measure => simp [intOf]; omega
   ·have hv := hid (HH.out rfl)
    have hq := hid (HQ.out hv.out)
    clear HS HH HQ
    go_wp2_with (first
     | ((with_reducible show wpList _ _ _ (⟨some 9, _, _, _, _, _⟩ :: _) _ _)
        refine wpList_row9 rfl (.tmp 6) (.tmp 7) rfl k hlt rfl rfl ?_
        rw [HR.out])
     | (go_at_call 172; ((with_reducible refine (HK.out _ (thn9 B1.out (hB.out.alloc hsz _))).mono ?_); rintro e w2 ⟨rfl, b2⟩); have B2 := hid (thn9 (hB.out.alloc hsz _) b2); have hr2 := (b2.block wr.heap.size (by rw [World.size_alloc]; exact Nat.lt_succ_self _)).trans (heap_alloc_new wr _); have c0 := (cell_of_row w2 wr.heap.size 0 _ _ (0, 0) hr2).trans (show _ = some (Value.string x) from rfl); have c1 := (cell_of_row w2 wr.heap.size 1 _ _ (0, 0) hr2).trans (show _ = some (Value.int .i16 n0) from rfl); have c2 := (cell_of_row w2 wr.heap.size 2 _ _ (0, 0) hr2).trans (show _ = some (Value.int .i16 n1) from rfl); have c3 := (cell_of_row w2 wr.heap.size 3 _ _ (0, 0) hr2).trans (show _ = some (Value.int .i16 n2) from rfl); have c4 := (cell_of_row w2 wr.heap.size 4 _ _ (0, 0) hr2).trans (show _ = some (Value.int .i16 n3) from rfl); have c5 := (cell_of_row w2 wr.heap.size 5 _ _ (0, 0) hr2).trans (show _ = some (Value.int .i16 n4) from rfl); have c6 := (cell_of_row w2 wr.heap.size 6 _ _ (0, 0) hr2).trans (show _ = some (Value.int .i16 n5) from rfl); clear hr2)
     | ((with_reducible show wpList _ _ _ (⟨none, .store 197 (.tmp 2) (.tmp 13), _, _, _, _⟩ :: _) _ _)
        have hz2 := (B2.out.block w.heap.size hlt1.out).trans HZ.out
        obtain ⟨hl, hb3⟩ := ret9 hz2 (thn9 B1.out B2.out) (Nat.le_refl _) x n0 n1 n2 n3 n4 n5
        refine wpList_store_mid rfl 197 (.tmp 2) (.tmp 13) rfl w.heap.size 0 #[.string x, .int .i16 n0, .int .i16 n1, .int .i16 n2, .int .i16 n3, .int .i16 n4, .int .i16 n5] rfl rfl (row_there9 hz2) HIN.out (one9 x n0 n1 n2 n3 n4 n5) ?_
        show wpList _ _ _ _ _ (w2.setCells w.heap.size 0 [.string x, .int .i16 n0, .int .i16 n1, .int .i16 n2, .int .i16 n3, .int .i16 n4, .int .i16 n5])
        generalize w2.setCells w.heap.size 0 [.string x, .int .i16 n0, .int .i16 n1, .int .i16 n2, .int .i16 n3, .int .i16 n4, .int .i16 n5] = w3 at hl hb3 ⊢))
    rw [hv.out, hq.out]
    exact bodyPost_ret (v := .tuple #[.agg #[.string x, .int .i16 n0, .int .i16 n1, .int .i16 n2, .int .i16 n3, .int .i16 n4, .int .i16 n5], .bool true]) (results_two9 Tryz.results171 rfl rfl hl) rfl ⟨rfl, hb3⟩
  ·obtain rfl : k = 40 := by omega
   have hq := hid (show rowR p = [.string ⟨#[]⟩, .int .i16 0, .int .i16 0, .int .i16 0, .int .i16 0, .int .i16 0, .int .i16 0] from by unfold rowR; rw [hm.out])
   have hz2 := (hB.out.block w.heap.size hlt1.out).trans HZ.out
   obtain ⟨hl, hb3⟩ := ret9 hz2 (thn9 B1.out hB.out) (Nat.le_refl _) ⟨#[]⟩ 0 0 0 0 0 0
   go_wp2_with ((with_reducible show wpList _ _ _ (⟨none, .store 197 (.tmp 2) (.tmp 15), _, _, _, _⟩ :: _) _ _)
                refine wpList_store_mid rfl 197 (.tmp 2) (.tmp 15) rfl w.heap.size 0 #[.string ⟨#[]⟩, .int .i16 0, .int .i16 0, .int .i16 0, .int .i16 0, .int .i16 0, .int .i16 0] rfl rfl (row_there9 hz2) HIN.out (one9 ⟨#[]⟩ 0 0 0 0 0 0) ?_
                show wpList _ _ _ _ _ (wr.setCells w.heap.size 0 [.string ⟨#[]⟩, .int .i16 0, .int .i16 0, .int .i16 0, .int .i16 0, .int .i16 0, .int .i16 0])
                generalize wr.setCells w.heap.size 0 [.string ⟨#[]⟩, .int .i16 0, .int .i16 0, .int .i16 0, .int .i16 0, .int .i16 0, .int .i16 0] = w3 at hl hb3 ⊢)
   rw [hm.out, hq.out]
   exact bodyPost_ret (v := .tuple #[.agg #[.string ⟨#[]⟩, .int .i16 0, .int .i16 0, .int .i16 0, .int .i16 0, .int .i16 0, .int .i16 0], .bool false]) (results_two9 Tryz.results171 rfl rfl hl) rfl ⟨rfl, hb3⟩
theorem rowR_is (p : Nat → Bool) : ∃ x n0 n1 n2 n3 n4 n5, rowR p = [.string x, .int .i16 n0, .int .i16 n1, .int .i16 n2, .int .i16 n3, .int .i16 n4, .int .i16 n5] := by
 unfold rowR
 cases h : firstT p 40 with
 | none => exact ⟨_, _, _, _, _, _, _, rfl⟩
 | some j => exact ⟨_, _, _, _, _, _, _, rL_is j (first_some h).1⟩
def nameP (s : ByteArray) (j : Nat) : Bool := decide (nmT j = s)
set_option maxHeartbeats 1600000 in
theorem named9 (s : ByteArray) (w : World) : Calls Tryz.prog 151 #[.string s] w fun e w' => e = .returned (.tuple #[.agg (rowR (nameP s)).toArray, .bool (firstT (nameP s) 40).isSome]) ∧ Below w.heap.size w w' := by
 have HF := hid (find9_n (nameP s) w.heap.size ((w.alloc (.cells #[.string s] 9)).alloc (.cells #[.string ⟨#[]⟩, .int .i16 0, .int .i16 0, .int .i16 0, .int .i16 0, .int .i16 0, .int .i16 0] 197)) fun k W hk hb => nclos k hk s w.heap.size W (by
  rw [hb.cell (p := ⟨w.heap.size, 0, none⟩) (by rw [World.size_alloc, World.size_alloc]; show w.heap.size < _; omega), World.cell?_alloc_lt _ _ _ (by rw [World.size_alloc]; exact Nat.lt_succ_self _), cell_of_row _ _ _ _ _ (0, 0) (heap_alloc_new w _)]; rfl))
 obtain ⟨x, n0, n1, n2, n3, n4, n5, hx⟩ := rowR_is (nameP s)
 rw [hx] at HF ⊢
 generalize (firstT (nameP s) 40).isSome = y at HF ⊢
 have HIN := hid (show (Tryz.prog.info? 197).map (·.size) = some 7 from by kernel_rfl)
 have HA1 := hid (show ((w.alloc (.cells #[.string s] 9)).alloc (.cells #[.string ⟨#[]⟩, .int .i16 0, .int .i16 0, .int .i16 0, .int .i16 0, .int .i16 0, .int .i16 0] 197)).heap[w.heap.size + 1]? = some (.cells #[.string ⟨#[]⟩, .int .i16 0, .int .i16 0, .int .i16 0, .int .i16 0, .int .i16 0, .int .i16 0] 197 (0, 0)) from by
  rw [show w.heap.size + 1 = (w.alloc (.cells #[.string s] 9)).heap.size from (World.size_alloc _ _).symm]; exact heap_alloc_new _ _)
 have HS1 := hid (show w.heap.size + 1 < ((w.alloc (.cells #[.string s] 9)).alloc (.cells #[.string ⟨#[]⟩, .int .i16 0, .int .i16 0, .int .i16 0, .int .i16 0, .int .i16 0, .int .i16 0] 197)).heap.size from by rw [World.size_alloc, World.size_alloc]; exact Nat.lt_succ_self _)
 clear hx
 go_enter Tryz.func151, Tryz.ntmps151
 go_wp2_with (first
  | (go_at_call 171; ((with_reducible refine (HF.out).mono ?_); rintro e w1 ⟨rfl, b1⟩); have hz := (b1.block (w.heap.size + 1) HS1.out).trans HA1.out; have B1 := hid (thn9 (((Below.refl w.heap.size w).alloc (Nat.le_refl _) (.cells #[.string s] 9)).alloc (by rw [World.size_alloc]; exact Nat.le_succ _) (.cells #[.string ⟨#[]⟩, .int .i16 0, .int .i16 0, .int .i16 0, .int .i16 0, .int .i16 0, .int .i16 0] 197)) b1); clear b1)
  | ((with_reducible show wpList _ _ _ (⟨none, .store 197 (.tmp 2) (.tmp 6), _, _, _, _⟩ :: _) _ _)
     obtain ⟨hl, hb3⟩ := ret9 hz B1.out (Nat.le_succ _) x n0 n1 n2 n3 n4 n5
     refine wpList_store_mid rfl 197 (.tmp 2) (.tmp 6) rfl (w.heap.size + 1) 0 #[.string x, .int .i16 n0, .int .i16 n1, .int .i16 n2, .int .i16 n3, .int .i16 n4, .int .i16 n5] rfl rfl (row_there9 hz) HIN.out (one9 x n0 n1 n2 n3 n4 n5) ?_
     show wpList _ _ _ _ _ (w1.setCells (w.heap.size + 1) 0 [.string x, .int .i16 n0, .int .i16 n1, .int .i16 n2, .int .i16 n3, .int .i16 n4, .int .i16 n5])
     generalize w1.setCells (w.heap.size + 1) 0 [.string x, .int .i16 n0, .int .i16 n1, .int .i16 n2, .int .i16 n3, .int .i16 n4, .int .i16 n5] = w3 at hl hb3 ⊢))
 exact bodyPost_ret (v := .tuple #[.agg #[.string x, .int .i16 n0, .int .i16 n1, .int .i16 n2, .int .i16 n3, .int .i16 n4, .int .i16 n5], .bool y]) (results_two9 Tryz.results151 rfl rfl hl) rfl ⟨rfl, hb3⟩
theorem known9 (s : ByteArray) (w : World) : Calls Tryz.prog 117 #[.string s] w fun e w' => e = .returned (.bool (knownR s)) ∧ Below w.heap.size w w' := by
 have HF := hid (fun W => named9 s W)
 rw [show knownR s = (firstT (nameP s) 40).isSome from rfl]
 obtain ⟨x, n0, n1, n2, n3, n4, n5, hx⟩ := rowR_is (nameP s)
 rw [hx] at HF
 generalize (firstT (nameP s) 40).isSome = y at HF ⊢
 clear hx
 go_enter Tryz.func117, Tryz.ntmps117
 go_wp2_with (go_at_call 151; ((with_reducible refine (HF.out _).mono ?_); rintro e w1 ⟨rfl, b1⟩))
 go_ret
 exact ⟨rfl, b1.alloc b1.size _⟩
end Go.Proofs.YtlenjfodjkhpmaaGreatDoor
