/- The library's Index, Contains, IndexFunc, Insert at numbers; what stays of memory. Conditions: at most 100,000 numbers. -/
import Derived.Test.YtlenjfodjkhpmaaGreatDoorF2
import Derived.Test.YtlenjfodjkhpmaaGreatDoorD2
import Derived.Maps.AppendAt
import Derived.Deep.QuietTactic
import Derived.BigQuiet
namespace Go.Proofs.YtlenjfodjkhpmaaGreatDoor
set_option maxRecDepth 100000
open Go.Lib (hid)
open Go.RowKit
set_option linter.unusedVariables false
set_option linter.unusedSimpArgs false
attribute [local go_sem ↓] Go.wp_at_zero Go.wp_at_succ

def KeepT (T : TypeId) (w w' : World) : Prop := ∀ (g : Nat) (cs : Array Value) (t : TypeId) (fz : Nat × Nat), t ≠ T → w.heap[g]? = some (.cells cs t fz) → w'.heap[g]? = some (.cells cs t fz)
theorem KeepT.refl (T : TypeId) (w : World) : KeepT T w w := fun _ _ _ _ _ h => h
theorem KeepT.trans {T : TypeId} {u v w : World} (h : KeepT T u v) (k : KeepT T v w) : KeepT T u w := fun g cs t fz ht hg => k g cs t fz ht (h g cs t fz ht hg)
theorem KeepT.below {T : TypeId} {w w' : World} (b : Below w.heap.size w w') : KeepT T w w' := fun g cs t fz _ h => (b.block g (Array.getElem?_eq_some_iff.1 h).1).trans h
theorem KeepT.grown {T : TypeId} {w w' : World} {g : Nat} {cur : Array Value} {fz : Nat × Nat} (hg : w.heap[g]? = some (.cells cur T fz)) (h : w.grownBy w' (some g)) : KeepT T w w' := fun k cs t fz2 ht hk =>
 (h.block k (Array.getElem?_eq_some_iff.1 hk).1 (fun e => ne_type16 hk hg ht (Option.some.inj e))).trans hk
theorem KeepT.grown0 {T : TypeId} {w w' : World} (h : w.grownBy w' none) : KeepT T w w' := fun k cs t fz2 ht hk => (h.block k (Array.getElem?_eq_some_iff.1 hk).1 (fun e => by cases e)).trans hk
theorem KeepT.own {T : TypeId} {w w' : World} (k : KeepT T w w') {B s n : Nat} {t : TypeId} {v : Value} {xs : List Value} (ht : t ≠ T) (h : w.ownsRow B t s v n xs) : w'.ownsRow B t s v n xs := owns_same16 h fun g cs fz _ hg => k g cs t fz ht hg
theorem below_grown18 {B : Nat} {w w' : World} {r : Option Nat} (h : w.grownBy w' r) (hB : B ≤ w.heap.size) (hr : ∀ k, r = some k → B ≤ k) : Below B w w' := (Below.refl B w).grown h hB hr
theorem own_cur18 {T : TypeId} {W : World} {B g n c : Nat} {xs : List Value} (h : W.ownsRow B T 1 (.slice (some ⟨g, 0, none⟩) n c) n xs) : ∃ cur : List Value, B ≤ g ∧ W.heap[g]? = some (.cells cur.toArray T (0, 0)) ∧ n ≤ c ∧ c ≤ maxLen ∧ cur.length = c ∧ cur.take n = xs := by
 rcases h.2 with ⟨h', _⟩ | ⟨g', cap', cur, h', hb, hg, h1, h2, h3, h4⟩
 ·cases h'
 ·injection h' with e1 e2 e3
  injection e1 with e1
  injection e1 with e1 _ _
  subst e1 e3
  exact ⟨cur.toList, hb, by simpa using hg, h1, h2, by simpa using h3, by simpa using h4⟩
theorem own_set18 {T : TypeId} {W : World} {B g m c : Nat} {cur new ys : List Value} (hg : W.heap[g]? = some (.cells cur.toArray T (0, 0))) (hb : B ≤ g) (hm : m ≤ c) (hc : c ≤ maxLen) (hs : new.length = c) (ht : new.take m = ys) :
 (W.setRow g new.toArray).ownsRow B T 1 (.slice (some ⟨g, 0, none⟩) m c) m ys :=
 ⟨by rw [← ht, List.length_take, hs, Nat.min_eq_left (by omega), Nat.mul_one], .inr ⟨g, c, new.toArray, rfl, hb, setRow_heap W g _ _ _ _ hg, hm, hc, by simpa using hs, by simpa using ht⟩⟩
theorem cells_at18 {T : TypeId} {W : World} {g : Nat} {cur : List Value} (hg : W.heap[g]? = some (.cells cur.toArray T (0, 0))) {k : Nat} {cs : List Value} (h : ∀ j u, cs[j]? = some u → cur[k + j]? = some u) : ∀ j u, cs[j]? = some u → W.cell? ((⟨g, k, none⟩ : Addr).add j) = some u := fun j u hu => by
 rw [Addr.add_lit, cell_of_row W g _ _ _ (0, 0) hg]
 simpa using h j u hu
theorem row_at18 {cur xs : List Value} {n : Nat} (h : cur.take n = xs) (k : Nat) : ∀ j u, (xs.drop k)[j]? = some u → cur[k + j]? = some u := fun j u hu => by
 rw [List.getElem?_drop, ← h, List.getElem?_take] at hu
 split at hu
 ·exact hu
 ·cases hu
theorem ins_shift18 {cur xs : List Value} {v : Value} {n c i : Nat} (hn : n = xs.length) (hc : n + 1 ≤ c) (hs : cur.length = c) (ht : cur.take n = xs) (hi : i ≤ n) {E F : List Value}
 (hE : E = cur.take (i + 1) ++ xs.drop i ++ cur.drop (i + 1 + (xs.drop i).length)) (hF : F = E.take i ++ [v] ++ E.drop (i + ([v] : List Value).length)) :
 E.length = c ∧ F.length = c ∧ F.take (n + 1) = xs.take i ++ v :: xs.drop i := by
 have hr : (xs.drop i).length = n - i := by rw [List.length_drop, hn]
 have hil : (cur.take (i + 1)).length = i + 1 := by rw [List.length_take, hs, Nat.min_eq_left (by omega)]
 have hEl : E.length = c := by rw [hE]; simp only [List.length_append, List.length_drop, hil]; omega
 have hEt : E.take i = xs.take i := by
  rw [hE, List.append_assoc, List.take_append_of_le_length (by rw [hil]; omega), List.take_take, Nat.min_eq_left (by omega), ← ht, List.take_take, Nat.min_eq_left (by omega)]
 have hEd : E.drop (i + ([v] : List Value).length) = xs.drop i ++ cur.drop (i + 1 + (xs.drop i).length) := by
  rw [hE, List.append_assoc, show i + ([v] : List Value).length = i + 1 from rfl]
  exact List.drop_left' hil
 have hEtl : (E.take i).length = i := by rw [List.length_take, hEl, Nat.min_eq_left (by omega)]
 refine ⟨hEl, ?_, ?_⟩
 ·rw [hF, List.length_append, List.length_append, hEtl, List.length_drop, hEl]; show i + 1 + (c - (i + 1)) = c; omega
 ·rw [hF, hEd, hEt, show xs.take i ++ [v] ++ (xs.drop i ++ cur.drop (i + 1 + (xs.drop i).length)) = (xs.take i ++ v :: xs.drop i) ++ cur.drop (i + 1 + (xs.drop i).length) by simp]
  exact List.take_left' (by rw [List.length_append, List.length_cons, List.length_take, List.length_drop, ← hn, Nat.min_eq_left hi]; omega)
theorem ins_grow18 {cur xs : List Value} {v : Value} {n c i : Nat} (hn : n = xs.length) (hc : n + 1 ≤ c) (hs : cur.length = c) (ht : cur.take i = xs.take i) (hi : i ≤ n) {E F : List Value}
 (hE : E = cur.take i ++ [v] ++ cur.drop (i + ([v] : List Value).length)) (hF : F = E.take (i + 1) ++ xs.drop i ++ E.drop (i + 1 + (xs.drop i).length)) :
 E.length = c ∧ F.length = c ∧ F.take (n + 1) = xs.take i ++ v :: xs.drop i := by
 have hr : (xs.drop i).length = n - i := by rw [List.length_drop, hn]
 have hil : (cur.take i).length = i := by rw [List.length_take, hs, Nat.min_eq_left (by omega)]
 have hEl : E.length = c := by rw [hE, List.length_append, List.length_append, hil, List.length_drop, hs]; show i + 1 + (c - (i + 1)) = c; omega
 have hEt : E.take (i + 1) = xs.take i ++ [v] := by
  rw [hE, ht]
  exact List.take_left' (by rw [List.length_append, ← ht, hil]; rfl)
 have hEtl : (E.take (i + 1)).length = i + 1 := by rw [List.length_take, hEl, Nat.min_eq_left (by omega)]
 refine ⟨hEl, ?_, ?_⟩
 ·rw [hF]; simp only [List.length_append, List.length_drop, hEtl]; omega
 ·rw [hF, hEt, show xs.take i ++ [v] ++ xs.drop i ++ E.drop (i + 1 + (xs.drop i).length) = (xs.take i ++ v :: xs.drop i) ++ E.drop (i + 1 + (xs.drop i).length) by simp]
  exact List.take_left' (by rw [List.length_append, List.length_cons, List.length_take, List.length_drop, ← hn, Nat.min_eq_left hi]; omega)
theorem arr18 (l : List Value) (A B : Array Value) : l.toArray ++ A ++ B = (l ++ A.toList ++ B.toList).toArray := by
 apply Array.ext'
 simp
theorem setRow_new18 {W W' : World} {r : Option Nat} {g : Nat} {new : Array Value} (h : W.grownBy W' r) (hg : W.heap.size ≤ g) : W.grownBy (W'.setRow g new) r :=
 ⟨h.os, h.tape, h.output, by rw [show (W'.setRow g new).heap.size = W'.heap.size by simp [World.setRow]]; exact h.size, fun k hk hne => by
   rw [setRow_other _ _ _ _ (show k ≠ g by omega)]; exact h.block k hk hne⟩
theorem nums_one18 (k : IntKind) (l : List Int) : ∀ v ∈ l.map (Value.int k), v.oneCell' = true := fun v hv => by
 obtain ⟨x, _, rfl⟩ := List.mem_map.1 hv
 rfl
theorem zero_len18 (k : IntKind) (n : Nat) : (Builtin.zeroCells (Value.int k 0).cells n).toList.length = n := by
 rw [Array.length_toList, size_zeroCells]; exact Nat.mul_one n
theorem zero_one18 (k : IntKind) (n : Nat) : ∀ v ∈ (Builtin.zeroCells (Value.int k 0).cells n).toList, v.oneCell' = true := fun v hv => by
 unfold Builtin.zeroCells at hv
 rw [Array.toList_map, List.mem_map] at hv
 obtain ⟨i, _, rfl⟩ := hv
 rcases (by omega : i % 1 = 0) with e
 show ((#[.int k 0] : Array Value)[i % 1]!).oneCell' = true
 rw [e]; rfl
def ix18 (p : Int → Bool) (l : List Int) : Int := match l.findIdx? p with | some k => (k : Int) | none => -1
theorem ix_hit18 {p : Int → Bool} {l : List Int} {k : Nat} {y : Int} (hk : l[k]? = some y) (hp : p y = true) (hm : ∀ j x, j < k → l[j]? = some x → p x = false) : ix18 p l = k := by
 unfold ix18
 have : l.findIdx? p = some k := List.findIdx?_eq_some_iff_getElem.2 ⟨(List.getElem?_eq_some_iff.1 hk).1, by rw [(List.getElem?_eq_some_iff.1 hk).2]; exact hp, fun j hj => by
  have hjl : j < l.length := Nat.lt_trans hj (List.getElem?_eq_some_iff.1 hk).1
  rw [hm j l[j] hj (List.getElem?_eq_getElem hjl)]; exact Bool.noConfusion⟩
 rw [this]
theorem ix_miss18 {p : Int → Bool} {l : List Int} {n : Nat} (hn : n = l.length) (hm : ∀ j x, j < n → l[j]? = some x → p x = false) : ix18 p l = -1 := by
 unfold ix18
 have : l.findIdx? p = none := List.findIdx?_eq_none_iff.2 fun x hx => by
  obtain ⟨j, hj⟩ := List.getElem?_of_mem hx
  exact hm j x (by rw [hn]; exact (List.getElem?_eq_some_iff.1 hj).1) hj
 rw [this]
theorem ix_some18 {p : Int → Bool} {l : List Int} {k : Nat} (h : l.findIdx? p = some k) : ix18 p l = k := by unfold ix18; rw [h]
theorem ix_none18 {p : Int → Bool} {l : List Int} (h : l.findIdx? p = none) : ix18 p l = -1 := by unfold ix18; rw [h]
theorem ix_mem18 {x : Int} {l : List Int} : decide (0 ≤ ix18 (fun y => x == y) l) = decide (x ∈ l) := by
 cases h : l.findIdx? (fun y => x == y) with
 | none =>
  rw [ix_none18 h, decide_eq_false (show ¬ x ∈ l from fun hx => by have := List.findIdx?_eq_none_iff.1 h x hx; simp at this)]
  rfl
 | some k =>
  obtain ⟨h1, h2, _⟩ := List.findIdx?_eq_some_iff_getElem.1 h
  rw [ix_some18 h, decide_eq_true (show (0 : Int) ≤ k by omega), decide_eq_true (show x ∈ l by rw [eq_of_beq h2]; exact List.getElem_mem h1)]
set_option maxRecDepth 100000
open Go.Lib (hid)
open Go.RowKit
set_option linter.unusedVariables false
set_option linter.unusedSimpArgs false
attribute [local go_sem ↓] Go.wp_at_zero Go.wp_at_succ

set_option maxHeartbeats 4000000 in
theorem index_i18 (q : Option Addr) (n c : Nat) (L : List Int) (x : Int) (w : World) (hl : n = L.length) (hn : n ≤ 100000) (h : NumsAt .i64 w q L) : Calls Tryz.prog 211 #[.slice q n c, .int .i64 x] w fun e w' => e = .returned (.int .i64 (ix18 (fun y => x == y) L)) ∧ Below w.heap.size w w' := by
 have HN := hid (fun (W : World) (b : Below w.heap.size w W) => h.on b)
 have HL := hid hl
 obtain ⟨r, hr⟩ : ∃ r, r = ix18 (fun y => x == y) L := ⟨_, rfl⟩
 rw [← hr]
 have HR := hid hr
 skip
 clear h hl hr
 go_enter Tryz.func211, Tryz.ntmps211
 go_wp2
 go_loopw [8] (fun v8 wr => ∃ k : Nat, k ≤ n ∧ v8 = .int .i64 k ∧ Hid (∀ j y, j < k → L[j]? = some y → (fun y => x == y) y = false) ∧ Hid (Below w.heap.size w wr)) (fun v8 _ => n - (intOf v8).toNat)
 case atStart => exact ⟨0, Nat.zero_le _, rfl, hid (fun j y hj _ => absurd hj (by omega)), hid (Below.refl _ _)⟩
 case round =>
  obtain ⟨k, hk, rfl, HM, HB⟩ := hrel
  obtain ⟨V, rfl⟩ : ∃ wo : World, wo = wr := ⟨_, rfl⟩
  by_cases hlt : k < n
  ·obtain ⟨y, hy⟩ : ∃ y, L[k]? = some y := ⟨L[k]'(by rw [← HL.out]; exact hlt), List.getElem?_eq_getElem _⟩
   obtain ⟨g, o, rfl, hc⟩ := HN.out V HB.out k y hy
   have k1 : (k : Int) < n := by omega
   have k0 : (0 : Int) ≤ k := by omega
   have HHIT := hid (fun (e : (fun y => x == y) y = true) => HR.out.trans (ix_hit18 (p := (fun y => x == y)) hy e HM.out))
   have HMS := hid (fun (e : (fun y => x == y) y = false) => (fun j z hj hz => by
    by_cases ej : j = k
    ·subst ej; rw [hy] at hz; injection hz with hz; rw [← hz]; exact e
    ·exact HM.out j z (by omega) hz : ∀ j z, j < k + 1 → L[j]? = some z → (fun y => x == y) z = false))
   cases hxy : (x == y) with
   | true =>
    have hv := hid (HHIT.out hxy)
    clear HHIT HMS hy
    go_wp2
    go_ret
    exact ⟨by rw [hv.out]; rfl, HB.out⟩
   | false =>
    have hm := hid (HMS.out hxy)
    clear HHIT HMS hy
    go_wp2
    go_roundw
    case rel => exact ⟨k + 1, by omega, by go_num, hm, HB⟩
    case measure => first | (simp [intOf]; done) | (simp [intOf]; omega)
  ·obtain rfl : k = n := by omega
   have k1 : ¬ (k : Int) < (k : Nat) := by omega
   have hv := hid (HR.out.trans (ix_miss18 HL.out HM.out))
   go_wp2
   go_ret
   exact ⟨by rw [hv.out]; rfl, HB.out⟩
set_option maxHeartbeats 4000000 in
theorem contains_i18 (q : Option Addr) (n c : Nat) (L : List Int) (x : Int) (w : World) (hl : n = L.length) (hn : n ≤ 100000) (h : NumsAt .i64 w q L) : Calls Tryz.prog 184 #[.slice q n c, .int .i64 x] w fun e w' => e = .returned (.bool (decide (x ∈ L))) ∧ Below w.heap.size w w' := by
 have HI := hid (index_i18 q n c L x w hl hn h)
 rw [← ix_mem18]
 generalize ix18 (fun y => x == y) L = r at HI ⊢
 clear hl hn h
 go_enter Tryz.func184, Tryz.ntmps184
 go_wp2_with (go_at_call 211; ((with_reducible refine (HI.out).mono ?_); rintro e w1 ⟨rfl, b1⟩))
 go_ret
 exact ⟨rfl, b1⟩
set_option maxHeartbeats 4000000 in
theorem indexf_i18 (q : Option Addr) (n c : Nat) (L : List Int) (p : Int → Bool) (b : Nat) (w : World) (hl : n = L.length) (hn : n ≤ 100000) (h : NumsAt .i64 w q L) (HP : ∀ (y : Int) (W : World), Below w.heap.size w W → Calls Tryz.prog 186 #[.int .i64 y, .pointer (some ⟨b, 0, none⟩)] W fun e w' => e = .returned (.bool (p y)) ∧ Below W.heap.size W w') : Calls Tryz.prog 185 #[.slice q n c, .func (.func 186) #[] #[.pointer (some ⟨b, 0, none⟩)]] w fun e w' => e = .returned (.int .i64 (ix18 p L)) ∧ Below w.heap.size w w' := by
 have HN := hid (fun (W : World) (b : Below w.heap.size w W) => h.on b)
 have HL := hid hl
 obtain ⟨r, hr⟩ : ∃ r, r = ix18 p L := ⟨_, rfl⟩
 rw [← hr]
 have HR := hid hr
 have HP := hid HP
 clear h hl hr
 go_enter Tryz.func185, Tryz.ntmps185
 go_wp2
 go_loopw [8] (fun v8 wr => ∃ k : Nat, k ≤ n ∧ v8 = .int .i64 k ∧ Hid (∀ j y, j < k → L[j]? = some y → p y = false) ∧ Hid (Below w.heap.size w wr)) (fun v8 _ => n - (intOf v8).toNat)
 case atStart => exact ⟨0, Nat.zero_le _, rfl, hid (fun j y hj _ => absurd hj (by omega)), hid (Below.refl _ _)⟩
 case round =>
  obtain ⟨k, hk, rfl, HM, HB⟩ := hrel
  obtain ⟨V, rfl⟩ : ∃ wo : World, wo = wr := ⟨_, rfl⟩
  by_cases hlt : k < n
  ·obtain ⟨y, hy⟩ : ∃ y, L[k]? = some y := ⟨L[k]'(by rw [← HL.out]; exact hlt), List.getElem?_eq_getElem _⟩
   obtain ⟨g, o, rfl, hc⟩ := HN.out V HB.out k y hy
   have k1 : (k : Int) < n := by omega
   have k0 : (0 : Int) ≤ k := by omega
   have HHIT := hid (fun (e : p y = true) => HR.out.trans (ix_hit18 (p := p) hy e HM.out))
   have HMS := hid (fun (e : p y = false) => (fun j z hj hz => by
    by_cases ej : j = k
    ·subst ej; rw [hy] at hz; injection hz with hz; rw [← hz]; exact e
    ·exact HM.out j z (by omega) hz : ∀ j z, j < k + 1 → L[j]? = some z → p z = false))
   have HK := hid (HP.out y V HB.out)
   generalize p y = z at HK HHIT HMS
   cases z with
   | true =>
    have hv := hid (HHIT.out rfl)
    clear HHIT HMS hy HP
    go_wp2_with (go_at_call 186; ((with_reducible refine (HK.out).mono ?_); rintro e w1 ⟨rfl, b1⟩); have B1 := hid (thn16 HB.out b1))
    go_ret
    exact ⟨by rw [hv.out]; rfl, B1.out⟩
   | false =>
    have hm := hid (HMS.out rfl)
    clear HHIT HMS hy
    go_wp2_with (go_at_call 186; ((with_reducible refine (HK.out).mono ?_); rintro e w1 ⟨rfl, b1⟩); have B1 := hid (thn16 HB.out b1))
    go_roundw
    case rel => exact ⟨k + 1, by omega, by go_num, hm, B1⟩
    case measure => first | (simp [intOf]; done) | (simp [intOf]; omega)
  ·obtain rfl : k = n := by omega
   have k1 : ¬ (k : Int) < (k : Nat) := by omega
   have hv := hid (HR.out.trans (ix_miss18 HL.out HM.out))
   go_wp2
   go_ret
   exact ⟨by rw [hv.out]; rfl, HB.out⟩
set_option maxHeartbeats 4000000 in
theorem index_u18 (q : Option Addr) (n c : Nat) (L : List Int) (x : Int) (w : World) (hl : n = L.length) (hn : n ≤ 100000) (h : NumsAt .u32 w q L) : Calls Tryz.prog 235 #[.slice q n c, .int .u32 x] w fun e w' => e = .returned (.int .i64 (ix18 (fun y => x == y) L)) ∧ Below w.heap.size w w' := by
 have HN := hid (fun (W : World) (b : Below w.heap.size w W) => h.on b)
 have HL := hid hl
 obtain ⟨r, hr⟩ : ∃ r, r = ix18 (fun y => x == y) L := ⟨_, rfl⟩
 rw [← hr]
 have HR := hid hr
 skip
 clear h hl hr
 go_enter Tryz.func235, Tryz.ntmps235
 go_wp2
 go_loopw [8] (fun v8 wr => ∃ k : Nat, k ≤ n ∧ v8 = .int .i64 k ∧ Hid (∀ j y, j < k → L[j]? = some y → (fun y => x == y) y = false) ∧ Hid (Below w.heap.size w wr)) (fun v8 _ => n - (intOf v8).toNat)
 case atStart => exact ⟨0, Nat.zero_le _, rfl, hid (fun j y hj _ => absurd hj (by omega)), hid (Below.refl _ _)⟩
 case round =>
  obtain ⟨k, hk, rfl, HM, HB⟩ := hrel
  obtain ⟨V, rfl⟩ : ∃ wo : World, wo = wr := ⟨_, rfl⟩
  by_cases hlt : k < n
  ·obtain ⟨y, hy⟩ : ∃ y, L[k]? = some y := ⟨L[k]'(by rw [← HL.out]; exact hlt), List.getElem?_eq_getElem _⟩
   obtain ⟨g, o, rfl, hc⟩ := HN.out V HB.out k y hy
   have k1 : (k : Int) < n := by omega
   have k0 : (0 : Int) ≤ k := by omega
   have HHIT := hid (fun (e : (fun y => x == y) y = true) => HR.out.trans (ix_hit18 (p := (fun y => x == y)) hy e HM.out))
   have HMS := hid (fun (e : (fun y => x == y) y = false) => (fun j z hj hz => by
    by_cases ej : j = k
    ·subst ej; rw [hy] at hz; injection hz with hz; rw [← hz]; exact e
    ·exact HM.out j z (by omega) hz : ∀ j z, j < k + 1 → L[j]? = some z → (fun y => x == y) z = false))
   cases hxy : (x == y) with
   | true =>
    have hv := hid (HHIT.out hxy)
    clear HHIT HMS hy
    go_wp2
    go_ret
    exact ⟨by rw [hv.out]; rfl, HB.out⟩
   | false =>
    have hm := hid (HMS.out hxy)
    clear HHIT HMS hy
    go_wp2
    go_roundw
    case rel => exact ⟨k + 1, by omega, by go_num, hm, HB⟩
    case measure => first | (simp [intOf]; done) | (simp [intOf]; omega)
  ·obtain rfl : k = n := by omega
   have k1 : ¬ (k : Int) < (k : Nat) := by omega
   have hv := hid (HR.out.trans (ix_miss18 HL.out HM.out))
   go_wp2
   go_ret
   exact ⟨by rw [hv.out]; rfl, HB.out⟩
set_option maxHeartbeats 4000000 in
theorem contains_u18 (q : Option Addr) (n c : Nat) (L : List Int) (x : Int) (w : World) (hl : n = L.length) (hn : n ≤ 100000) (h : NumsAt .u32 w q L) : Calls Tryz.prog 217 #[.slice q n c, .int .u32 x] w fun e w' => e = .returned (.bool (decide (x ∈ L))) ∧ Below w.heap.size w w' := by
 have HI := hid (index_u18 q n c L x w hl hn h)
 rw [← ix_mem18]
 generalize ix18 (fun y => x == y) L = r at HI ⊢
 clear hl hn h
 go_enter Tryz.func217, Tryz.ntmps217
 go_wp2_with (go_at_call 235; ((with_reducible refine (HI.out).mono ?_); rintro e w1 ⟨rfl, b1⟩))
 go_ret
 exact ⟨rfl, b1⟩
set_option maxHeartbeats 4000000 in
theorem indexf_u18 (q : Option Addr) (n c : Nat) (L : List Int) (p : Int → Bool) (b : Nat) (w : World) (hl : n = L.length) (hn : n ≤ 100000) (h : NumsAt .u32 w q L) (HP : ∀ (y : Int) (W : World), Below w.heap.size w W → Calls Tryz.prog 219 #[.int .u32 y, .pointer (some ⟨b, 0, none⟩)] W fun e w' => e = .returned (.bool (p y)) ∧ Below W.heap.size W w') : Calls Tryz.prog 218 #[.slice q n c, .func (.func 219) #[] #[.pointer (some ⟨b, 0, none⟩)]] w fun e w' => e = .returned (.int .i64 (ix18 p L)) ∧ Below w.heap.size w w' := by
 have HN := hid (fun (W : World) (b : Below w.heap.size w W) => h.on b)
 have HL := hid hl
 obtain ⟨r, hr⟩ : ∃ r, r = ix18 p L := ⟨_, rfl⟩
 rw [← hr]
 have HR := hid hr
 have HP := hid HP
 clear h hl hr
 go_enter Tryz.func218, Tryz.ntmps218
 go_wp2
 go_loopw [8] (fun v8 wr => ∃ k : Nat, k ≤ n ∧ v8 = .int .i64 k ∧ Hid (∀ j y, j < k → L[j]? = some y → p y = false) ∧ Hid (Below w.heap.size w wr)) (fun v8 _ => n - (intOf v8).toNat)
 case atStart => exact ⟨0, Nat.zero_le _, rfl, hid (fun j y hj _ => absurd hj (by omega)), hid (Below.refl _ _)⟩
 case round =>
  obtain ⟨k, hk, rfl, HM, HB⟩ := hrel
  obtain ⟨V, rfl⟩ : ∃ wo : World, wo = wr := ⟨_, rfl⟩
  by_cases hlt : k < n
  ·obtain ⟨y, hy⟩ : ∃ y, L[k]? = some y := ⟨L[k]'(by rw [← HL.out]; exact hlt), List.getElem?_eq_getElem _⟩
   obtain ⟨g, o, rfl, hc⟩ := HN.out V HB.out k y hy
   have k1 : (k : Int) < n := by omega
   have k0 : (0 : Int) ≤ k := by omega
   have HHIT := hid (fun (e : p y = true) => HR.out.trans (ix_hit18 (p := p) hy e HM.out))
   have HMS := hid (fun (e : p y = false) => (fun j z hj hz => by
    by_cases ej : j = k
    ·subst ej; rw [hy] at hz; injection hz with hz; rw [← hz]; exact e
    ·exact HM.out j z (by omega) hz : ∀ j z, j < k + 1 → L[j]? = some z → p z = false))
   have HK := hid (HP.out y V HB.out)
   generalize p y = z at HK HHIT HMS
   cases z with
   | true =>
    have hv := hid (HHIT.out rfl)
    clear HHIT HMS hy HP
    go_wp2_with (go_at_call 219; ((with_reducible refine (HK.out).mono ?_); rintro e w1 ⟨rfl, b1⟩); have B1 := hid (thn16 HB.out b1))
    go_ret
    exact ⟨by rw [hv.out]; rfl, B1.out⟩
   | false =>
    have hm := hid (HMS.out rfl)
    clear HHIT HMS hy
    go_wp2_with (go_at_call 219; ((with_reducible refine (HK.out).mono ?_); rintro e w1 ⟨rfl, b1⟩); have B1 := hid (thn16 HB.out b1))
    go_roundw
    case rel => exact ⟨k + 1, by omega, by go_num, hm, B1⟩
    case measure => first | (simp [intOf]; done) | (simp [intOf]; omega)
  ·obtain rfl : k = n := by omega
   have k1 : ¬ (k : Int) < (k : Nat) := by omega
   have hv := hid (HR.out.trans (ix_miss18 HL.out HM.out))
   go_wp2
   go_ret
   exact ⟨by rw [hv.out]; rfl, HB.out⟩
set_option maxHeartbeats 4000000 in
theorem indexf_ur18 (q : Option Addr) (n c : Nat) (L : List Int) (p : Int → Bool) (b : Nat) (w : World) (hl : n = L.length) (hn : n ≤ 100000) (h : NumsAt .u32 w q L) (HP : ∀ (y : Int) (W : World), Below w.heap.size w W → Calls Tryz.prog 216 #[.int .u32 y, .pointer (some ⟨b, 0, none⟩)] W fun e w' => e = .returned (.bool (p y)) ∧ Below W.heap.size W w') : Calls Tryz.prog 218 #[.slice q n c, .func (.func 216) #[] #[.pointer (some ⟨b, 0, none⟩)]] w fun e w' => e = .returned (.int .i64 (ix18 p L)) ∧ Below w.heap.size w w' := by
 have HN := hid (fun (W : World) (b : Below w.heap.size w W) => h.on b)
 have HL := hid hl
 obtain ⟨r, hr⟩ : ∃ r, r = ix18 p L := ⟨_, rfl⟩
 rw [← hr]
 have HR := hid hr
 have HP := hid HP
 clear h hl hr
 go_enter Tryz.func218, Tryz.ntmps218
 go_wp2
 go_loopw [8] (fun v8 wr => ∃ k : Nat, k ≤ n ∧ v8 = .int .i64 k ∧ Hid (∀ j y, j < k → L[j]? = some y → p y = false) ∧ Hid (Below w.heap.size w wr)) (fun v8 _ => n - (intOf v8).toNat)
 case atStart => exact ⟨0, Nat.zero_le _, rfl, hid (fun j y hj _ => absurd hj (by omega)), hid (Below.refl _ _)⟩
 case round =>
  obtain ⟨k, hk, rfl, HM, HB⟩ := hrel
  obtain ⟨V, rfl⟩ : ∃ wo : World, wo = wr := ⟨_, rfl⟩
  by_cases hlt : k < n
  ·obtain ⟨y, hy⟩ : ∃ y, L[k]? = some y := ⟨L[k]'(by rw [← HL.out]; exact hlt), List.getElem?_eq_getElem _⟩
   obtain ⟨g, o, rfl, hc⟩ := HN.out V HB.out k y hy
   have k1 : (k : Int) < n := by omega
   have k0 : (0 : Int) ≤ k := by omega
   have HHIT := hid (fun (e : p y = true) => HR.out.trans (ix_hit18 (p := p) hy e HM.out))
   have HMS := hid (fun (e : p y = false) => (fun j z hj hz => by
    by_cases ej : j = k
    ·subst ej; rw [hy] at hz; injection hz with hz; rw [← hz]; exact e
    ·exact HM.out j z (by omega) hz : ∀ j z, j < k + 1 → L[j]? = some z → p z = false))
   have HK := hid (HP.out y V HB.out)
   generalize p y = z at HK HHIT HMS
   cases z with
   | true =>
    have hv := hid (HHIT.out rfl)
    clear HHIT HMS hy HP
    go_wp2_with (go_at_call 216; ((with_reducible refine (HK.out).mono ?_); rintro e w1 ⟨rfl, b1⟩); have B1 := hid (thn16 HB.out b1))
    go_ret
    exact ⟨by rw [hv.out]; rfl, B1.out⟩
   | false =>
    have hm := hid (HMS.out rfl)
    clear HHIT HMS hy
    go_wp2_with (go_at_call 216; ((with_reducible refine (HK.out).mono ?_); rintro e w1 ⟨rfl, b1⟩); have B1 := hid (thn16 HB.out b1))
    go_roundw
    case rel => exact ⟨k + 1, by omega, by go_num, hm, B1⟩
    case measure => first | (simp [intOf]; done) | (simp [intOf]; omega)
  ·obtain rfl : k = n := by omega
   have k1 : ¬ (k : Int) < (k : Nat) := by omega
   have hv := hid (HR.out.trans (ix_miss18 HL.out HM.out))
   go_wp2
   go_ret
   exact ⟨by rw [hv.out]; rfl, HB.out⟩
end Go.Proofs.YtlenjfodjkhpmaaGreatDoor
