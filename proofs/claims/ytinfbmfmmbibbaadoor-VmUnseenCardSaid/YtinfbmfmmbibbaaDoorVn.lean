/- The statement VmUnseen holds: instructions that aren't done change nothing of what is told; so the data that isn't loaded. No condition. -/
import Derived.Test.YtinfbmfmmbibbaaDoorRows
import Derived.Test.YtinfbmfmmbibbaaDoorCards
import Derived.Test.YtinfbmfmmbibbaaDoorTie
import Derived.SevenTiedAt
import Derived.Test.YtinfbmfmmbibbaaDoorFr
import Derived.Test.YtinfbmfmmbibbaaDoorLw
import Derived.Test.YtinfbmfmmbibbaaDoorNp
import Derived.Test.YtinfbmfmmbibbaaDoorVi
import Derived.Test.YtinfbmfmmbibbaaDoorDd
import Derived.Test.YtinfbmfmmbibbaaDoorId
import Derived.Deep.RegionHeld3
import Derived.BigQuiet
import Derived.Deep.QuietTactic
import Derived.Test.YtinfbmfmmbibbaaDoorTc
import Derived.Deep.MidRow
import Derived.Laws.CopyOwn
import Derived.Deep.DeepCutAuto
namespace Go.Proofs.YtinfbmfmmbibbaaDoor.vmUnseen
open Go.ChangeShapes Go.WideShapes Go.ChangeAt Go.RowKit
open Go.ChangeMaps (open_string shut_string)
set_option linter.unusedVariables false
attribute [local go_sem ↓] Go.wp_at_zero Go.wp_at_succ

/-- 'copy(q, p)' into a row of as many elements, of whatever size. -/
theorem run_copy_whole (w : World) (dT sT ty elem : TypeId) (g n dCap : Nat) (sp : Option Addr) (sCap s : Nat) (cur : Array Value) (t : TypeId) (cs : List Value)
    (hu : Tryd.prog.underlying dT = some (.slice elem)) (hs : (Tryd.prog.info? elem).map (·.size) = some s)
    (hg : w.heap[g]? = some (.cells cur t (0, 0))) (hn : cs.length = n * s) (hcur : cur.size = n * s)
    (hsrc : 0 < n → ∃ a, sp = some a ∧ ∀ j v, cs[j]? = some v → w.cell? (a.add j) = some v) (h1 : ∀ v ∈ cs, v.oneCell' = true) :
    (Builtin.copy_ #[dT, sT] ty #[.slice (some ⟨g, 0, none⟩) n dCap, .slice sp n sCap]).run Tryd.prog w = .ok (goInt n) (w.setRow g cs.toArray) := by
  have hst := run_storeCells_at Tryd.prog g 0 t cs 0 cur w hg (by omega) h1
  have e : (cur.toList.take (0 + 0) ++ cs ++ cur.toList.drop (0 + 0 + cs.length)).toArray = cs.toArray := by
    rw [List.drop_of_length_le (by rw [Array.length_toList]; omega)]; simp
  rw [e] at hst
  cases hq : Tryd.prog.info? elem with
  | none => simp [hq] at hs
  | some i =>
    have hi : i.size = s := by simpa [hq] using hs
    by_cases h0 : 0 < n
    · obtain ⟨a, rfl, ha⟩ := hsrc h0
      have hl := run_loadCells_list (P := Tryd.prog) w a cs ha
      rw [hn] at hl
      simp [Builtin.copy_, run_underlying hu, Builtin.lenOf, Builtin.firstCells, sizeOf, typeInfo, hq, hi, hl, hst]
    · obtain rfl : n = 0 := by omega
      obtain rfl : cs = [] := List.eq_nil_of_length_eq_zero (by omega)
      have hl : ∀ (x : Addr), (loadCells x 0).run Tryd.prog w = .ok #[] w := fun x => by simpa using run_loadCells_list (P := Tryd.prog) w x [] (by simp)
      cases sp <;> simp [Builtin.copy_, run_underlying hu, Builtin.lenOf, Builtin.firstCells, sizeOf, typeInfo, hq, hl, hst]
theorem wpList_copy_whole {w : World} {ops : Array Oper} {rest : List Oper} {o : Oper} {a : Act} {Q : Exit → Act → World → Prop} (hgd : o.guard = none) (d s : Operand) (dT sT : TypeId)
    (ho : o.op = .call { callee := .builtin .copy, args := #[d, s], argTypes := #[dT, sT] }) (elem : TypeId) (g n dCap : Nat) (sp : Option Addr) (sCap sz : Nat) (cur : Array Value) (t : TypeId) (cs : List Value)
    (hu : Tryd.prog.underlying dT = some (.slice elem)) (hs : (Tryd.prog.info? elem).map (·.size) = some sz) (hd : a.eval d = .slice (some ⟨g, 0, none⟩) n dCap) (he : a.eval s = .slice sp n sCap)
    (hg : w.heap[g]? = some (.cells cur t (0, 0))) (hn : cs.length = n * sz) (hcur : cur.size = n * sz)
    (hsrc : 0 < n → ∃ a, sp = some a ∧ ∀ j v, cs[j]? = some v → w.cell? (a.add j) = some v) (h1 : ∀ v ∈ cs, v.oneCell' = true)
    (h : wpList Tryd.prog ops Q rest (a.put o.dst (goInt n)) (w.setRow g cs.toArray)) : wpList Tryd.prog ops Q (o :: rest) a w := by
  refine wpList_plain hgd fun K hK => ?_
  have hrun := run_copy_whole w dT sT o.type elem g n dCap sp sCap sz cur t cs hu hs hg hn hcur hsrc h1
  unfold Oper.wp
  simp [execOp, ho, resolve, invoke, builtin, hd, he, hrun, Result.andThen]
  exact hK _ _ h
theorem own4_heap {w : World} {base g n : Nat} {e : TypeId} {xs : List Value} (h : w.ownsRow base e 4 (.slice (some ⟨g, 0, none⟩) n n) n xs) : w.heap[g]? = some (.cells xs.toArray e (0, 0)) := by
  rcases h.2 with ⟨h', _⟩ | ⟨g', cap', cur, h', _, hg, _, _, hcs, htake⟩
  · simp at h'
  · simp only [Value.slice.injEq, Option.some.injEq, Addr.mk.injEq, and_true, true_and] at h'
    obtain ⟨rfl, rfl⟩ := h'
    rw [List.take_of_length_le (by rw [Array.length_toList, hcs]; exact Nat.le_refl _)] at htake
    rw [hg, ← htake]
theorem own4_of_heap {w : World} {base g n : Nat} {e : TypeId} {xs : List Value} (h : w.heap[g]? = some (.cells xs.toArray e (0, 0))) (hn : xs.length = n * 4) (hb : base ≤ g) (hm : n ≤ maxLen) :
    w.ownsRow base e 4 (.slice (some ⟨g, 0, none⟩) n n) n xs :=
  ⟨by omega, .inr ⟨g, n, xs.toArray, rfl, hb, h, Nat.le_refl _, hm, by simp; omega, by rw [List.take_of_length_le (by simp; omega)]⟩⟩
theorem progC_set : ∀ (l : List Ins) (i : Nat) (c jt jf k : Int), i < l.length → ((((progC l).set (i * 4) (.int .u16 c)).set (i * 4 + 1) (.int .u8 jt)).set (i * 4 + 2) (.int .u8 jf)).set (i * 4 + 3) (.int .u32 k) = progC (l.set i ⟨c, jt, jf, k⟩)
  | [], i, c, jt, jf, k, h => absurd h (by simp)
  | a :: r, 0, c, jt, jf, k, h => rfl
  | a :: r, i + 1, c, jt, jf, k, h => by
    have ih := progC_set r i c jt jf k (by simpa using h)
    show ((((insC a ++ progC r).set ((i + 1) * 4) (.int .u16 c)).set ((i + 1) * 4 + 1) (.int .u8 jt)).set ((i + 1) * 4 + 2) (.int .u8 jf)).set ((i + 1) * 4 + 3) (.int .u32 k) = insC a ++ progC (r.set i ⟨c, jt, jf, k⟩)
    have hl : (insC a).length = 4 := rfl
    rw [List.set_append_right _ _ (by rw [hl]; omega), List.set_append_right _ _ (by rw [hl]; omega), List.set_append_right _ _ (by rw [hl]; omega), List.set_append_right _ _ (by rw [hl]; omega), hl,
      show (i + 1) * 4 - 4 = i * 4 by omega, show (i + 1) * 4 + 1 - 4 = i * 4 + 1 by omega, show (i + 1) * 4 + 2 - 4 = i * 4 + 2 by omega, show (i + 1) * 4 + 3 - 4 = i * 4 + 3 by omega, ih]
theorem OkL.set_ {l : List Ins} (h : OkL l) (n : Nat) {i : Ins} (hi : i.Ok) : OkL (l.set n i) := fun x hx => by
  rcases List.mem_or_eq_of_mem_set hx with h1 | h1
  · exact h x h1
  · rw [h1]; exact hi
/-- An instruction in the place of another one. -/
theorem put_at {v : World} {g : Nat} {l : List Ins} (h : v.heap[g]? = some (.cells (progC l).toArray 40 (0, 0))) {n : Nat} (hn : n < l.length) (i : Ins) :
    (v.setCells g (n * 4) [.int .u16 i.c, .int .u8 i.jt, .int .u8 i.jf, .int .u32 i.k]).heap[g]? = some (.cells (progC (l.set n i)).toArray 40 (0, 0)) := by
  have h1 := heap_setCell_same v g (n * 4) _ _ (.int .u16 i.c) h
  have h2 := heap_setCell_same _ g (n * 4 + 1) _ _ (.int .u8 i.jt) h1
  have h3 := heap_setCell_same _ g (n * 4 + 1 + 1) _ _ (.int .u8 i.jf) h2
  have h4 := heap_setCell_same _ g (n * 4 + 1 + 1 + 1) _ _ (.int .u32 i.k) h3
  have e := progC_set l n i.c i.jt i.jf i.k hn
  refine h4.trans ?_
  simp only [List.setIfInBounds_toArray]
  rw [show n * 4 + 1 + 1 = n * 4 + 2 from rfl, show n * 4 + 2 + 1 = n * 4 + 3 from rfl, e]
theorem at_there {v : World} {g : Nat} {l : List Ins} (h : v.heap[g]? = some (.cells (progC l).toArray 40 (0, 0))) {n : Nat} (hn : n < l.length) : v.there g (n * 4) 4 := fun j hj => by
  have hl := progC_length l
  refine ⟨?_, frozen_of_row _ _ _ _ _ h⟩
  rw [cell_of_row v g (n * 4 + j) _ _ (0, 0) h, List.getElem?_toArray, List.getElem?_eq_getElem (by omega)]; rfl
theorem insn_size4 : (Tryd.prog.info? 40).map (·.size) = some 4 := by kernel_rfl
theorem plV_get {l : List Nat} {i : Nat} (h : i < l.length) : (plV l)[i]? = some (.int .i64 ((l.getD i 0 : Nat) : Int)) := by
  unfold plV
  rw [List.getElem?_map, List.getD_eq_getElem?_getD, List.getElem?_eq_getElem h]; rfl
/-- The slice's cells are the places. -/
theorem pl_cells {w : World} {B c : Nat} {q : Option Addr} {l : List Nat} (h : w.ownsRow B 3 1 (.slice q l.length c) l.length (plV l)) (h0 : 0 < l.length) : ∃ g, q = some ⟨g, 0, none⟩ ∧ ∀ i, i < l.length → w.cell? ⟨g, i, none⟩ = some (.int .i64 ((l.getD i 0 : Nat) : Int)) := by
  obtain ⟨g, c', e⟩ := own_some h h0
  injection e with e1 e2 e3
  subst e1
  refine ⟨g, rfl, fun i hi => ?_⟩
  rw [h.cellAt i (by omega)]
  exact plV_get hi
theorem prog_news {w : World} {B : Nat} {p : Option Addr} {l : List Ins} (h : RdI w B p l) {n : Nat} (hn : l.length = n) (h0 : 0 < n) : ∃ a, p = some a ∧ ∀ j v, (progC l)[j]? = some v → w.cell? (a.add j) = some v := by
  obtain ⟨b, o, rfl, _, hc⟩ := h (by omega)
  refine ⟨_, rfl, fun j v hv => ?_⟩
  have hj : j < (progC l).length := (List.getElem?_eq_some_iff.1 hv).1
  rw [progC_length] at hj
  obtain ⟨i, r, rfl, hr⟩ : ∃ i r, j = i * 4 + r ∧ r < 4 := ⟨j / 4, j % 4, by omega, by omega⟩
  have hi : i < l.length := by omega
  have h := hc i hi
  rw [progC_get hi r hr] at hv
  rw [Addr.add_mid]
  match r, hr with
  | 0, _ => rw [show o + (i * 4 + 0) = o + i * 4 by omega]; exact h.a0.trans hv
  | 1, _ => rw [show o + (i * 4 + 1) = o + i * 4 + 1 by omega]; exact h.a1.trans hv
  | 2, _ => rw [show o + (i * 4 + 2) = o + i * 4 + 2 by omega]; exact h.a2.trans hv
  | 3, _ => rw [show o + (i * 4 + 3) = o + i * 4 + 3 by omega]; exact h.a3.trans hv
  | r + 4, hr => omega
/-- Is a place among those that were done? -/
def doneB (l : List Nat) (a : Int) : Bool := decide (∃ j ∈ l, (j : Int) = a)
theorem doneB_step {l : List Nat} {k : Nat} (hk : k < l.length) (a : Int) : doneB (l.take (k + 1)) a = (doneB (l.take k) a || ((l.getD k 0 : Nat) : Int) == a) := by
  have e : l.take (k + 1) = l.take k ++ [l.getD k 0] := by
    rw [List.take_add_one, List.getD_eq_getElem?_getD, List.getElem?_eq_getElem hk]; rfl
  rw [e]
  unfold doneB
  by_cases h1 : ∃ j ∈ l.take k, (j : Int) = a
  · rw [decide_eq_true h1, decide_eq_true (by obtain ⟨j, hj, e⟩ := h1; exact ⟨j, List.mem_append_left _ hj, e⟩)]; rfl
  · rw [decide_eq_false h1]
    by_cases h2 : ((l.getD k 0 : Nat) : Int) = a
    · rw [decide_eq_true ⟨_, List.mem_append_right _ (List.mem_singleton.2 rfl), h2⟩, beq_iff_eq.2 h2]; rfl
    · rw [decide_eq_false (fun ⟨j, hj, e⟩ => by
        rcases List.mem_append.1 hj with hj | hj
        · exact h1 ⟨j, hj, e⟩
        · rw [List.mem_singleton.1 hj] at e; exact h2 e), beq_eq_false_iff_ne.2 h2]
      rfl
/-- Does an instruction load a half of the argument? -/
def loadsI (a : Int) (i : Ins) : Prop := i.c = 32 ∧ 0 ≤ a ∧ a < 6 ∧ i.k / 8 = 2 + a
instance (a : Int) (i : Ins) : Decidable (loadsI a i) := by unfold loadsI; infer_instance
def loadsB (l : List Ins) (a : Int) : Bool := decide (∃ i ∈ l, loadsI a i)
theorem loadsB_step {l : List Ins} {k : Nat} (hk : k < l.length) (a : Int) : loadsB (l.take (k + 1)) a = (loadsB (l.take k) a || decide (loadsI a l[k])) := by
  have e : l.take (k + 1) = l.take k ++ [l[k]] := by rw [List.take_add_one, List.getElem?_eq_getElem hk]; rfl
  rw [e]
  unfold loadsB
  by_cases h1 : ∃ i ∈ l.take k, loadsI a i
  · rw [decide_eq_true h1, decide_eq_true (by obtain ⟨j, hj, e⟩ := h1; exact ⟨j, List.mem_append_left _ hj, e⟩)]; rfl
  · rw [decide_eq_false h1, Bool.false_or]
    refine decide_eq_decide.2 ⟨fun ⟨j, hj, e⟩ => ?_, fun h => ⟨_, List.mem_append_right _ (List.mem_singleton.2 rfl), h⟩⟩
    rcases List.mem_append.1 hj with hj | hj
    · exact absurd ⟨j, hj, e⟩ h1
    · rw [List.mem_singleton.1 hj] at e; exact e
/-- A program in which an instruction that isn't done is another one; data in which an argument that isn't loaded is another one. -/
theorem unseen {p q : List Ins} {d d' : Dat} {a b y : Int} {i : Ins} (hp : OkL p) (hq : q = p ∨ (q = p.set a.toNat i ∧ 0 ≤ a ∧ doneB (runL p d).pl a = false))
    (hd : d' = d ∨ (∃ k : Nat, b = k ∧ k < 6 ∧ d' = d.setArg k y ∧ loadsB p b = false)) : runL q d' = runL p d := by
  refine runL_unseen ?_ fun j hj => ⟨?_, fun x hx h32 => ?_⟩
  · rcases hq with rfl | ⟨rfl, _, _⟩
    · rfl
    · rw [List.length_set]
  · rcases hq with rfl | ⟨rfl, h0, h1⟩
    · rfl
    · have hne : a.toNat ≠ j := fun e => by
        have := of_decide_eq_false h1
        exact this ⟨j, hj, by omega⟩
      rw [List.getElem?_set_ne hne]
  · rcases hd with rfl | ⟨k, rfl, hk, rfl, h1⟩
    · rfl
    · refine wordV_set d k y ?_ ?_
      · exact (hp x (List.mem_of_getElem? hx)).k0
      · intro e
        have := of_decide_eq_false h1
        exact this ⟨x, List.mem_of_getElem? hx, h32, by omega, by omega, e⟩
theorem setArg_ok {d : Dat} (h : d.Ok) {k : Nat} {y : Int} (hk : k < 6) (h0 : 0 ≤ y) (h1 : y < 18446744073709551616) : (d.setArg k y).Ok := by
  match k, hk with
  | 0, _ => exact { h with a00 := h0, a01 := h1 }
  | 1, _ => exact { h with a10 := h0, a11 := h1 }
  | 2, _ => exact { h with a20 := h0, a21 := h1 }
  | 3, _ => exact { h with a30 := h0, a31 := h1 }
  | 4, _ => exact { h with a40 := h0, a41 := h1 }
  | 5, _ => exact { h with a50 := h0, a51 := h1 }
  | k + 6, hk => omega
theorem BoxD.setArg {w : World} {b : Nat} {d : Dat} (h : BoxD w b d) {k : Nat} {y : Int} (hk : k < 6) : BoxD (w.setCell ⟨b, 3 + k, none⟩ (.int .u64 y)) b (d.setArg k y) := by
  have := heap_setCell_same w b (3 + k) _ _ (.int .u64 y) h
  unfold BoxD
  rw [this]
  match k, hk with
  | 0, _ => rfl
  | 1, _ => rfl
  | 2, _ => rfl
  | 3, _ => rfl
  | 4, _ => rfl
  | 5, _ => rfl
  | k + 6, hk => omega
set_option maxRecDepth 100000 in
set_option maxHeartbeats 16000000 in
theorem walk {G : World → Prop} (HC : VmC G) (a0 : Option Addr) (len0 cap0 : Nat) (z0 : List Ins) (a1 : Dat) (a2 : Int) (a3 : Ins) (a4 : Int) (a5 : Int) (w : World) (hG : G w) (w0 : IsInsns w a0 len0 cap0 z0) (w1 : a1.Ok) (w2 : (Lit.int .i64 a2).wf = true) (w3 : a3.Ok) (w4 : (Lit.int .i64 a4).wf = true) (w5 : (Lit.int .u64 a5).wf = true) :
    Calls Tryd.prog 6 #[.slice a0 len0 cap0, datV a1, .int .i64 a2, .agg #[.int .u16 a3.c, .int .u8 a3.jt, .int .u8 a3.jf, .int .u32 a3.k], .int .i64 a4, .int .u64 a5] w fun e w' => e = .returned (.bool true) ∧ Below w.heap.size w w' := by
  obtain ⟨W0, hW0⟩ : ∃ W, W = (w.alloc (.cells (datC a1) 27)).alloc (.cells #[.int .u16 a3.c, .int .u8 a3.jt, .int .u8 a3.jf, .int .u32 a3.k] 40) := ⟨_, rfl⟩
  have bx : BoxD W0 w.heap.size a1 := by rw [hW0]; exact (BoxD.new w a1).alloc _
  have bi : BoxI W0 (w.heap.size + 1) a3.c a3.jt a3.jf a3.k := by
    have h := heap_alloc_new (w.alloc (.cells (datC a1) 27)) (.cells #[.int .u16 a3.c, .int .u8 a3.jt, .int .u8 a3.jf, .int .u32 a3.k] 40)
    rw [World.size_alloc] at h
    rw [hW0]; exact h
  have B0 : Below w.heap.size w W0 := by rw [hW0]; exact ((Below.refl _ _).alloc (Nat.le_refl _) _).alloc (by simp) _
  have hz0 : W0.heap.size = w.heap.size + 2 := by rw [hW0]; simp
  have HG0 := Lib.hid (HC.on hG B0)
  have HGw := Lib.hid hG
  have HA := Lib.hid (awake4_any HC W0 HG0.out)
  have HON := Lib.hid (fun (w w' : World) => HC.on (w := w) (w' := w'))
  have R0 := Lib.hid ((w0.rd.keep (w' := W0) fun q hq => B0.cell hq).more B0.size)
  by_cases hbig : (300 : Int) < len0
  · clear HC w1 hG w0 w3 R0 bx bi
    have HB0 := Lib.hid B0
    clear B0 hz0
    unfold datV at *
    unfold datC at *
    subst hW0
    go_enter Tryd.func6, Tryd.ntmps6
    go_wp2_with (go_at_call 13; ((with_reducible refine (HA.out).mono ?_); rintro e v1 ⟨rfl, b1⟩))
    go_ret
    exact ⟨rfl, HB0.out.trans (b1.mono HB0.out.size)⟩
  · have HX := Lib.hid (fun (W : World) (g : G W) (h : RdI W W.heap.size a0 z0) => HC.run a0 len0 cap0 z0 a1 W g w0.size (by omega) w0.ok w1 w0.fits w0.most w0.nil h)
    have HT := Lib.hid (fun (W : World) (g : G W) (h : RdI W W.heap.size a0 z0) => HC.trace a0 len0 cap0 z0 a1 W g w0.size (by omega) w0.ok w1 w0.fits w0.most w0.nil h)
    have HQ := Lib.hid (fun (W : World) (g : Nat) (z : List Ins) (d : Dat) (hG : G W) (hz : z.length = len0) (ok : OkL z) (hd : d.Ok) (h : RdI W W.heap.size (some ⟨g, 0, none⟩) z) => HC.run (some ⟨g, 0, none⟩) len0 len0 z d W hG hz (by omega) ok hd (Nat.le_refl _) (by unfold maxLen; omega) (fun h => by cases h) h)
    have good := runL_good z0 a1
    have hpn := rise_bound z0.length good.rise good.below
    have hsz := w0.size
    have HOK := Lib.hid (And.intro w0.ok (And.intro w0.size (And.intro w1 w3)))
    have HUN := Lib.hid (fun (q : List Ins) (d' : Dat) => unseen (q := q) (d' := d') (d := a1) (a := a2) (b := a4) (y := a5) (i := a3) w0.ok)
    obtain ⟨r, hr⟩ : ∃ r, r = runL z0 a1 := ⟨_, rfl⟩
    rw [← hr] at HX HT hpn HUN
    obtain ⟨ans, steps, pl, err⟩ := r
    unfold RunV at HX HQ
    unfold TraceV at HT
    simp only at HX HT hpn HUN
    obtain ⟨m, hm⟩ : ∃ m, m = pl.length := ⟨_, rfl⟩
    rw [← hm] at hpn HT
    have HM := Lib.hid hm
    have k1 : (m : Int) ≤ 300 := by omega
    have k2 : (len0 : Int) ≤ 300 := by omega
    have t6 : decide ((300 : Int) < len0) = false := decide_eq_false hbig
    obtain ⟨i0, ki, kz0, kz1, kz2⟩ := info_parts insn_info
    have KI := Lib.hid ki
    have K0 := Lib.hid kz0
    have K1 := Lib.hid kz1
    have hm0 : i0.bytes * len0 ≤ 281474976710656 := by rw [kz2]; omega
    have hm1 : len0 ≤ maxLen := by unfold maxLen; omega
    have HB0 := Lib.hid (And.intro B0 hz0)
    clear HC good hr w1 hG w0 w3 hm hpn hsz ki kz0 kz1 kz2 B0 hz0
    obtain ⟨x0, x1, x2, x3, x4, x5, x6, x7, x8⟩ := bx.cells
    unfold datV at *
    unfold datC at *
    go_enter Tryd.func6, Tryd.ntmps6
    go_wp2_with fail
    rw [← hW0]
    clear hW0
    go_wp2_with (first
      | (go_at_call 13; ((with_reducible refine (HA.out).mono ?_); rintro e v1 ⟨rfl, b1⟩); have G1 := HON.out _ _ HG0.out b1; have R1 := R0.out.on b1; have B1 := Lib.hid (thn HB0.out.1 b1); have bx1 := BoxD.on bx b1; have bi1 := bi.on b1; clear x0 x1 x2 x3 x4 x5 x6 x7 x8; obtain ⟨x0, x1, x2, x3, x4, x5, x6, x7, x8⟩ := bx1.cells)
      | (go_at_call 9; ((with_reducible refine (HX.out _ G1 R1).mono ?_); rintro e v2 ⟨rfl, b2⟩); have G2 := HON.out _ _ G1 b2; have R2 := R1.on b2; have B2 := Lib.hid (thn B1.out b2); have bx2 := bx1.on b2; have bi2 := bi1.on b2; clear x0 x1 x2 x3 x4 x5 x6 x7 x8; obtain ⟨x0, x1, x2, x3, x4, x5, x6, x7, x8⟩ := bx2.cells)
      | (go_at_call 10; ((with_reducible refine (HT.out _ G2 R2).mono ?_); rintro e v3 ⟨q, c, rfl, o3, b3⟩); have G3 := HON.out _ _ G2 b3; have R3 := R2.on b3; have B3 := Lib.hid (thn B2.out b3); have bx3 := Lib.hid (bx2.on b3); have bi3 := Lib.hid (bi2.on b3); have HO := Lib.hid o3; clear o3 x0 x1 x2 x3 x4 x5 x6 x7 x8)
      | (at_make
         refine wpList_make_full _ rfl _ _ 22 rfl v3.heap.size 40 i0 _ 4 Tryd.underlying22 KI.out K0.out K1.out .i64 .i64 len0 len0 len0 rfl rfl rfl rfl hm0 hm1 (Nat.le_refl _) ?_
         intro v4 o4 g4
         have b4 : Below v3.heap.size v3 v4 := (Below.refl _ _).grown g4 (Nat.le_refl _) (by intro k hk; cases hk)
         have R4 := R3.on b4
         have hh4 := Lib.hid (own4_heap o4)
         have hl4 := Lib.hid o4.1
         have hz4 := Lib.hid (o4.lt v3.heap.size rfl)
         clear o4 g4)
      | ((with_reducible show wpList _ _ _ (⟨some 45, _, _, _, _, _⟩ :: _) _ _)
         refine wpList_copy_whole (o := ⟨some 45, _, _, _, _, _⟩) rfl (.tmp 43) (.tmp 44) 22 22 rfl 40 v3.heap.size len0 len0 a0 cap0 4 _ 40 (progC z0) Tryd.underlying22 insn_size4 rfl rfl hh4.out (by rw [progC_length, HOK.out.2.1]) (by have := hl4.out; simp at this ⊢; omega) (fun h => prog_news R4 HOK.out.2.1 h) (progC_one _) ?_
         obtain ⟨v5, hv5⟩ : ∃ v5, v5 = v4.setRow v3.heap.size (progC z0).toArray := ⟨_, rfl⟩
         rw [← hv5]
         have h5 := Lib.hid (show v5.heap[v3.heap.size]? = some (.cells (progC z0).toArray 40 (0, 0)) by rw [hv5]; exact setRow_heap v4 _ _ _ _ _ hh4.out)
         have b5 : Below v3.heap.size v3 v5 := by rw [hv5]; exact below_setRow b4 (Nat.le_refl _) _
         have hz5 : v3.heap.size < v5.heap.size := by rw [hv5]; have := hz4.out.2; simpa [World.setRow] using this
         clear hh4 hl4 hz4 hv5 b4 R4))
    have HO5 := Lib.hid (own_on HO.out b5)
    have HV3 := Lib.hid (And.intro R3 (And.intro bx3.out (And.intro bi3.out B3.out)))
    have BB5 := Lib.hid b5
    have HZ5 := Lib.hid hz5
    have hb3 := Lib.hid (show w.heap.size + 2 ≤ v3.heap.size by have := bi3.out; have := lt_of_block this; omega)
    clear G1 G2 G3 R1 R2 R3 bx bx1 bx2 bx3 bi bi1 bi2 bi3 HA HX HT HG0 R0 B1 B2 B3 b1 b2 b3 b5 hz5 KI K0 K1 hm0 HO i0
    go_loop [18, 19] (fun v18 v19 => ∃ k : Nat, k ≤ m ∧ v19 = .int .i64 k ∧ v18 = .bool (doneB (pl.take k) a2)) (fun _ v19 => m - (intOf v19).toNat)
    case atStart => exact ⟨0, Nat.zero_le _, rfl, rfl⟩
    case round =>
      obtain ⟨k, hk, rfl, rfl⟩ := hrel
      by_cases hlt : k < m
      · have how := HO5.out
        rw [HM.out] at how
        obtain ⟨g, hq, hc⟩ := pl_cells how (by have := HM.out; omega)
        subst hq
        have c1 := hc k (by have := HM.out; omega)
        have hst := Lib.hid (doneB_step (l := pl) (k := k) (by have := HM.out; omega) a2)
        obtain ⟨x, hx⟩ : ∃ x : Int, x = ((pl.getD k 0 : Nat) : Int) := ⟨_, rfl⟩
        rw [← hx] at c1 hst
        have l1 : (k : Int) < m := by omega
        have l2 : (0 : Int) ≤ k := by omega
        clear hx hc how
        cases hd : doneB (pl.take k) a2 with
        | true =>
          rw [hd] at hst
          clear hd
          go_wp2_with fail
          go_round
          case rel => exact ⟨k + 1, by omega, by go_num, by rw [hst.out]; rfl⟩
          case measure => simp [intOf]; omega
        | false =>
          rw [hd] at hst
          clear hd
          go_wp2_with fail
          go_round
          case rel => exact ⟨k + 1, by omega, by go_num, by rw [hst.out]; rfl⟩
          case measure => simp [intOf]; omega
      · obtain rfl : k = m := by omega
        have e : pl.take k = pl := List.take_of_length_le (by rw [← HM.out]; exact Nat.le_refl _)
        rw [e]
        clear e hlt hk
        go_upto_region 14 with fail
        obtain ⟨dn, hdn⟩ : ∃ b, b = doneB pl a2 := ⟨_, rfl⟩
        rw [← hdn]
        have HDN := Lib.hid hdn
        clear hdn
        go_cut [72] from 61 to 72 (fun c wx => c = .bool (decide (0 ≤ a2 ∧ a2 < len0 ∧ dn = false)) ∧ wx = v5)
        case first =>
          by_cases h1 : 0 ≤ a2
          · by_cases h2 : a2 < (len0 : Int)
            · cases dn with
              | true =>
                go_wp2_with fail
                go_meet
                case rel => exact ⟨congrArg Value.bool (decide_eq_false (fun h => by cases h.2.2)).symm, rfl⟩
              | false =>
                go_wp2_with fail
                go_meet
                case rel => exact ⟨congrArg Value.bool (decide_eq_true ⟨h1, h2, by simp⟩).symm, rfl⟩
            · go_wp2_with fail
              go_meet
              case rel => exact ⟨congrArg Value.bool (decide_eq_false (fun h => by have := h.2.1; omega)).symm, rfl⟩
          · go_wp2_with fail
            go_meet
            case rel => exact ⟨congrArg Value.bool (decide_eq_false (fun h => by have := h.1; omega)).symm, rfl⟩
        case rest =>
          obtain ⟨rfl, rfl⟩ := hcut
          obtain ⟨pb, hpb⟩ : ∃ b, b = decide (0 ≤ a2 ∧ a2 < (len0 : Int) ∧ dn = false) := ⟨_, rfl⟩
          rw [← hpb]
          have HPB := Lib.hid hpb
          clear hpb
          go_upto_if 72 with fail
          go_cut [] from 25 (fun wx => ∃ z : List Ins, Hid (z.length = len0 ∧ OkL z ∧ (z = z0 ∨ (z = z0.set a2.toNat a3 ∧ 0 ≤ a2 ∧ dn = false))) ∧ Hid (wx.heap[v3.heap.size]? = some (.cells (progC z).toArray 40 (0, 0))) ∧ Hid (Below v3.heap.size v3 wx))
          case first =>
            cases pb with
            | false =>
              go_wp2_with fail
              go_meet
              case rel => exact ⟨z0, Lib.hid ⟨HOK.out.2.1, HOK.out.1, Or.inl rfl⟩, h5, BB5⟩
            | true =>
              obtain ⟨p1, p2, p3⟩ := of_decide_eq_true HPB.out.symm
              clear HPB
              obtain ⟨n, rfl⟩ := Int.eq_ofNat_of_zero_le p1
              have hn : n < z0.length := by rw [HOK.out.2.1]; omega
              obtain ⟨s0, s1, s2, s3⟩ := (HV3.out.2.2.1.on BB5.out).cells
              have HTH := Lib.hid (at_there h5.out hn)
              have HP := Lib.hid (put_at h5.out hn a3)
              have HOC : Hid ((#[Value.int .u16 a3.c, .int .u8 a3.jt, .int .u8 a3.jf, .int .u32 a3.k] : Array Value).all (·.oneCell') = true) := Lib.hid (by kernel_rfl)
              have HBB := Lib.hid (below_setCells (Nat.le_refl _) [.int .u16 a3.c, .int .u8 a3.jt, .int .u8 a3.jf, .int .u32 a3.k] (n * 4) _ BB5.out)
              have HD := Lib.hid p3
              have HN := Lib.hid hn
              clear hn p3
              go_wp2_with ((with_reducible show wpList _ _ _ (⟨none, .store 40 (.tmp 76) (.tmp 75), _, _, _, _⟩ :: _) _ _)
                           refine wpList_store_mid rfl 40 (.tmp 76) (.tmp 75) rfl v3.heap.size (n * 4) #[.int .u16 a3.c, .int .u8 a3.jt, .int .u8 a3.jf, .int .u32 a3.k] rfl rfl HTH.out insn_size4 HOC.out ?_)
              go_meet
              case rel =>
                refine ⟨z0.set n a3, Lib.hid ⟨by rw [List.length_set]; exact HOK.out.2.1, OkL.set_ HOK.out.1 n HOK.out.2.2.2, Or.inr ⟨rfl, p1, HD.out⟩⟩, HP, HBB⟩
          case rest =>
            obtain ⟨z, HZ, HH, HBw⟩ := hcut
            obtain ⟨W, rfl⟩ : ∃ wo : World, wo = wc := ⟨_, rfl⟩
            clear HPB h5 BB5 HO5 HZ5
            go_wp2_with fail
            have HR := Lib.hid (HV3.out.1.on HBw.out)
            go_loop [20, 21] (fun v20 v21 => ∃ k : Nat, k ≤ len0 ∧ v21 = .int .i64 k ∧ v20 = .bool (loadsB (z0.take k) a4)) (fun _ v21 => len0 - (intOf v21).toNat)
            case atStart => exact ⟨0, Nat.zero_le _, rfl, rfl⟩
            case round =>
              obtain ⟨k', hk, rfl, rfl⟩ := hrel
              by_cases hlt : k' < len0
              · have hkl : k' < z0.length := by rw [HOK.out.2.1]; exact hlt
                have hst := Lib.hid (loadsB_step hkl a4)
                obtain ⟨b, o, rfl, hbB, hc⟩ := HR.out (by omega)
                obtain ⟨q0, q1, q2, q3⟩ := hc k' hkl
                have HIK := Lib.hid (HOK.out.1.get hkl)
                obtain ⟨i, hi⟩ : ∃ i, i = z0[k'] := ⟨_, rfl⟩
                rw [← hi] at hst q0 q1 q2 q3 HIK
                have HK8 := Lib.hid (show i.k.tdiv 8 % 4294967296 = i.k / 8 by have := HIK.out.k0; have := HIK.out.k1; rw [Int.tdiv_eq_ediv_of_nonneg HIK.out.k0]; omega)
                have l1 : (k' : Int) < len0 := by omega
                have l2 : (0 : Int) ≤ k' := by omega
                clear hi hc hkl
                cases hd : loadsB (z0.take k') a4 with
                | true =>
                  rw [hd] at hst
                  clear hd
                  go_wp2_with fail
                  go_round
                  case rel => exact ⟨k' + 1, by omega, by go_num, by rw [hst.out]; rfl⟩
                  case measure => simp [intOf]; omega
                | false =>
                  rw [hd, Bool.false_or] at hst
                  clear hd
                  by_cases h1 : i.c = 32
                  · by_cases h2 : 0 ≤ a4
                    · by_cases h3 : a4 < 6
                      · have h4 : IntKind.u32.wrap (2 + a4) = 2 + a4 := by rw [IntKind.wrap_u32]; omega
                        have h5 : (i.c == 32) = true := beq_iff_eq.2 h1
                        have HH4 := Lib.hid (show decide (loadsI a4 i) = (i.k / 8 == 2 + a4) by by_cases e : i.k / 8 = 2 + a4 <;> simp [loadsI, h1, h2, h3, e])
                        go_wp2_with fail
                        go_round
                        case rel => exact ⟨k' + 1, by omega, by go_num, by rw [hst.out, HH4.out, HK8.out]⟩
                        case measure => simp [intOf]; omega
                      · have HH4 := Lib.hid (show decide (loadsI a4 i) = false from decide_eq_false (fun h => h3 h.2.2.1))
                        have h5 : (i.c == 32) = true := beq_iff_eq.2 h1
                        go_wp2_with fail
                        go_round
                        case rel => exact ⟨k' + 1, by omega, by go_num, by rw [hst.out, HH4.out]⟩
                        case measure => simp [intOf]; omega
                    · have HH4 := Lib.hid (show decide (loadsI a4 i) = false from decide_eq_false (fun h => h2 h.2.1))
                      have h5 : (i.c == 32) = true := beq_iff_eq.2 h1
                      go_wp2_with fail
                      go_round
                      case rel => exact ⟨k' + 1, by omega, by go_num, by rw [hst.out, HH4.out]⟩
                      case measure => simp [intOf]; omega
                  · have HH4 := Lib.hid (show decide (loadsI a4 i) = false from decide_eq_false (fun h => h1 h.1))
                    have h5 : (i.c == 32) = false := beq_eq_false_iff_ne.2 h1
                    go_wp2_with fail
                    go_round
                    case rel => exact ⟨k' + 1, by omega, by go_num, by rw [hst.out, HH4.out]⟩
                    case measure => simp [intOf]; omega
              · obtain rfl : len0 = k' := by omega
                have e : z0.take len0 = z0 := List.take_of_length_le (by rw [HOK.out.2.1]; exact Nat.le_refl _)
                rw [e]
                clear e hlt hk
                go_upto_region 21 with fail
                obtain ⟨lb, hlb⟩ : ∃ b, b = loadsB z0 a4 := ⟨_, rfl⟩
                rw [← hlb]
                have HLB := Lib.hid hlb
                clear hlb
                obtain ⟨s0, s1, s2, s3⟩ := (HV3.out.2.2.1.on HBw.out).cells
                have i0 : (0 : Int) ≤ len0 := by omega
                go_cut [139] from 112 to 139 (fun c wx => c = .bool (decide (0 ≤ a4 ∧ a4 < 6 ∧ lb = false ∧ (a2 < 0 ∨ (len0 : Int) ≤ a2 ∨ dn = true ∨ a3.c ≠ 32))) ∧ wx = W)
                case first =>
                  by_cases h1 : 0 ≤ a4
                  · by_cases h2 : a4 < 6
                    · cases lb with
                      | true =>
                        go_wp2_with fail
                        go_meet
                        case rel => exact ⟨congrArg Value.bool (decide_eq_false (fun h => by simp at h)).symm, rfl⟩
                      | false =>
                        by_cases g1 : a2 < 0
                        · go_wp2_with fail
                          go_meet
                          case rel => exact ⟨congrArg Value.bool (decide_eq_true ⟨h1, h2, by simp, Or.inl g1⟩).symm, rfl⟩
                        · by_cases g2 : (len0 : Int) ≤ a2
                          · go_wp2_with fail
                            go_meet
                            case rel => exact ⟨congrArg Value.bool (decide_eq_true ⟨h1, h2, by simp, Or.inr (Or.inl g2)⟩).symm, rfl⟩
                          · cases dn with
                            | true =>
                              go_wp2_with fail
                              go_meet
                              case rel => exact ⟨congrArg Value.bool (decide_eq_true ⟨h1, h2, by simp, Or.inr (Or.inr (Or.inl (by simp)))⟩).symm, rfl⟩
                            | false =>
                              by_cases g3 : a3.c = 32
                              · have g4 : (a3.c != 32) = false := by simp [g3]
                                have HG3 := Lib.hid g3
                                clear g3
                                go_wp2_with fail
                                go_meet
                                case rel => exact ⟨congrArg Value.bool (decide_eq_false (fun h => by have h5 := h.2.2.2; have h6 := HG3.out; simp at h5; omega)).symm, rfl⟩
                              · have g4 : (a3.c != 32) = true := by simp [g3]
                                go_wp2_with fail
                                go_meet
                                case rel => exact ⟨congrArg Value.bool (decide_eq_true ⟨h1, h2, by simp, Or.inr (Or.inr (Or.inr g3))⟩).symm, rfl⟩
                    · go_wp2_with fail
                      go_meet
                      case rel => exact ⟨congrArg Value.bool (decide_eq_false (fun h => by have := h.2.1; omega)).symm, rfl⟩
                  · go_wp2_with fail
                    go_meet
                    case rel => exact ⟨congrArg Value.bool (decide_eq_false (fun h => by have := h.1; omega)).symm, rfl⟩
                case rest =>
                  obtain ⟨rfl, rfl⟩ := hcut
                  obtain ⟨W, rfl⟩ : ∃ wo : World, wo = wc := ⟨_, rfl⟩
                  obtain ⟨sb, hsb⟩ : ∃ b, b = decide (0 ≤ a4 ∧ a4 < 6 ∧ lb = false ∧ (a2 < 0 ∨ (len0 : Int) ≤ a2 ∨ dn = true ∨ a3.c ≠ 32)) := ⟨_, rfl⟩
                  rw [← hsb]
                  have HSB := Lib.hid hsb
                  clear hsb s0 s1 s2 s3
                  go_upto_if 139 with fail
                  go_cut [] from 25 (fun wx => ∃ d' : Dat, Hid (d'.Ok ∧ (d' = a1 ∨ ∃ k : Nat, a4 = k ∧ k < 6 ∧ d' = a1.setArg k a5 ∧ lb = false)) ∧ Hid (wx.heap[v3.heap.size]? = some (.cells (progC z).toArray 40 (0, 0))) ∧ Hid (BoxD wx w.heap.size d') ∧ Hid (Below w.heap.size w wx))
                  case first =>
                    cases sb with
                    | false =>
                      go_wp2_with fail
                      go_meet
                      case rel => exact ⟨a1, Lib.hid ⟨HOK.out.2.2.1, Or.inl rfl⟩, HH, Lib.hid (HV3.out.2.1.on HBw.out), Lib.hid (thn HV3.out.2.2.2 HBw.out)⟩
                    | true =>
                      obtain ⟨h1, h2, h3, h4⟩ := of_decide_eq_true HSB.out.symm
                      obtain ⟨n, rfl⟩ := Int.eq_ofNat_of_zero_le h1
                      obtain ⟨y0, y1⟩ := bounds_u64 w5
                      have h6 : n < 6 := by omega
                      have HBX := Lib.hid (HV3.out.2.1.on HBw.out)
                      have s3 := HBX.out.arg h6
                      have sf : ∀ j, W.frozen? ⟨w.heap.size, j, none⟩ = false := fun j => frozen_of_row W _ j _ _ HBX.out
                      have HSA := Lib.hid (BoxD.setArg (y := a5) HBX.out h6)
                      have HOK2 := Lib.hid (setArg_ok HOK.out.2.2.1 h6 y0 (by omega))
                      have HLB3 := Lib.hid h3
                      have HN6 := Lib.hid h6
                      have HRW := Lib.hid (show (W.setCell ⟨w.heap.size, 3 + n, none⟩ (.int .u64 a5)).heap[v3.heap.size]? = some (.cells (progC z).toArray 40 (0, 0)) from (heap_setCell_other W _ _ _ (by have := hb3.out; show v3.heap.size ≠ w.heap.size; omega)).trans HH.out)
                      have HBL := Lib.hid ((thn HV3.out.2.2.2 HBw.out).setCell (p := ⟨w.heap.size, 3 + n, none⟩) (Nat.le_refl _) (.int .u64 a5))
                      clear HSB h3 h4 h6 y0 y1
                      go_wp2_with fail
                      go_meet
                      case rel => exact ⟨a1.setArg n a5, Lib.hid ⟨HOK2.out, Or.inr ⟨n, rfl, HN6.out, rfl, HLB3.out⟩⟩, HRW, HSA, HBL⟩
                  case rest =>
                    obtain ⟨d', HD', HH', HBX', HBL'⟩ := hcut
                    obtain ⟨W', rfl⟩ : ∃ wo : World, wo = wc := ⟨_, rfl⟩
                    have HE := Lib.hid (HUN.out z d' (by rcases HZ.out.2.2 with e | ⟨e1, e2, e3⟩; exact Or.inl e; exact Or.inr ⟨e1, e2, by rw [← HDN.out]; exact e3⟩) (by rcases HD'.out.2 with e | ⟨k, e1, e2, e3, e4⟩; exact Or.inl e; exact Or.inr ⟨k, e1, e2, e3, by rw [← HLB.out]; exact e4⟩))
                    have HRI := Lib.hid (show RdI W' W'.heap.size (some ⟨v3.heap.size, 0, none⟩) z by
                      have ho := own4_of_heap (base := v3.heap.size) HH'.out (by rw [progC_length, HZ.out.1]) (Nat.le_refl _) hm1
                      obtain ⟨_, _, hv, h2, _⟩ := own_shapeI ho
                      injection hv with h1 _ _
                      rw [h1]; exact h2)
                    have HQ2 := Lib.hid (HQ.out W' v3.heap.size z d' (HON.out _ _ HGw.out HBL'.out) HZ.out.1 HZ.out.2.1 HD'.out.1 HRI.out)
                    rw [HE.out] at HQ2
                    obtain ⟨x0, x1, x2, x3, x4, x5, x6, x7, x8⟩ := HBX'.out.cells
                    clear HQ HZ HH HH' HSB HD' HE HRI HUN
                    go_wp2_with (go_at_call 9; ((with_reducible refine (HQ2.out).mono ?_); rintro e w6 ⟨rfl, b6⟩))
                    go_ret
                    exact ⟨rfl, thn HBL'.out b6⟩

set_option maxRecDepth 100000 in
theorem lifted (HC : VmC GW) (os : Os) (started : os.Started) (H : Type) (enc : TypeId × Value → H) :
    ReturnsInHanded {} Tryd.checked os 6 .any (fun w args => (Rows.vmUnseenSpec.pre enc Tryd.prog Tryd.f6 [] false w args ∧ laidMetH Tryd.prog listed w) ∧ sizedMet enc Tryd.prog Tryd.f6 (OpenSpec.ofChange Rows.vmUnseenSpec) false w args)
      (Rows.vmUnseenSpec.post enc Tryd.prog Tryd.f6 false true false false) := by
  refine returnsInHanded_of_change_and (C := Tryd.checked) (X := fun w _ => laidMetH Tryd.prog listed w) (fun _ _ _ hh h => h.of_heap hh) ownKnob_none started (by kernel_rfl) Tryd.func6
    (ChangeSpec.witness_shaped (enc := enc) (C := Tryd.checked) (os := os) (X := fun w _ => laidMetH Tryd.prog listed w) false (World.doorLaid Tryd.prog 400 os) #[.slice none 0 0, .agg #[.int .u32 0, .int .u32 0, .int .u64 0, .int .u64 0, .int .u64 0, .int .u64 0, .int .u64 0, .int .u64 0, .int .u64 0], .int .i64 0, .agg #[.int .u16 0, .int .u8 0, .int .u8 0, .int .u32 0], .int .i64 0, .int .u64 0] 8 rfl (World.shaped_of_RefB (by kernel_rfl) (by kernel_rfl)) (by kernel_rfl) (by kernel_rfl) (by kernel_rfl) (door_met os _)) ?_
  intro W base args ds gs before hval0 hW _ _ hL _
  have hG : GW W := of_laid hL
  have hval : ∀ (j : Nat) t v, Tryd.f6.params[j]? = some t → args[j]? = some v → Value.okWide Tryd.prog W .any base t v := hval0
  have hW' := hW
  obtain ⟨p, q, hA0, hV, rfl, hfz, hnd⟩ := hW
  have hA : DataW.TrodAll enc Tryd.prog W 0 (fun _ => true) true Tryd.f6.params.toList args.toList ds p := hA0
  rw [Tryd.params6] at hA hval
  obtain ⟨v0, vs0, d0, ds0, p0, q0, hargs, rfl, rfl, h0, r0⟩ := trodAll_cons hA
  obtain ⟨v1, vs1, d1, ds1, p1, q1, rfl, rfl, rfl, h1, r1⟩ := trodAll_cons r0
  obtain ⟨v2, vs2, d2, ds2, p2, q2, rfl, rfl, rfl, h2, r2⟩ := trodAll_cons r1
  obtain ⟨v3, vs3, d3, ds3, p3, q3, rfl, rfl, rfl, h3, r3⟩ := trodAll_cons r2
  obtain ⟨v4, vs4, d4, ds4, p4, q4, rfl, rfl, rfl, h4, r4⟩ := trodAll_cons r3
  obtain ⟨v5, vs5, d5, ds5, p5, q5, rfl, rfl, rfl, h5, r5⟩ := trodAll_cons r4
  obtain ⟨rfl, rfl, rfl⟩ := trodAll_nil r5
  obtain rfl : args = #[v0, v1, v2, v3, v4, v5] := by cases args; simp_all
  obtain ⟨rfl, rfl⟩ := trodVars_none hV
  obtain ⟨a0, len0, cap0, rfl⟩ := okWide_slice Tryd.underlying22 (hval 0 22 v0 rfl rfl)
  have k0 := h0
  have lt0 : ∀ x ∈ p0, x.block < W.heap.size := by obtain ⟨m, hm⟩ := k0; exact DataW.trod_lt m _ _ _ hm
  obtain ⟨z0, w0⟩ := insns_open h0 lt0
  have k1 := h1
  have lt1 : ∀ x ∈ p1, x.block < W.heap.size := by obtain ⟨m, hm⟩ := k1; exact DataW.trod_lt m _ _ _ hm
  obtain ⟨a1, w1, rfl⟩ := data_open (hval 1 27 v1 rfl rfl) h1
  obtain ⟨a2, rfl, rfl, rfl, w2⟩ := open_int Tryd.underlying3 (hval 2 3 v2 rfl rfl) h2
  have k3 := h3
  have lt3 : ∀ x ∈ p3, x.block < W.heap.size := by obtain ⟨m, hm⟩ := k3; exact DataW.trod_lt m _ _ _ hm
  obtain ⟨a3, w3, rfl⟩ := insn_open (hval 3 40 v3 rfl rfl) h3
  obtain ⟨a4, rfl, rfl, rfl, w4⟩ := open_int Tryd.underlying3 (hval 4 3 v4 rfl rfl) h4
  obtain ⟨a5, rfl, rfl, rfl, w5⟩ := open_int Tryd.underlying24 (hval 5 24 v5 rfl rfl) h5
  clear hA0 hval0
  refine (walk HC a0 len0 cap0 z0 a1 a2 a3 a4 a5 W hG w0 w1 w2 w3 w4 w5).mono fun e W' ⟨he, bel⟩ => ?_
  subst he
  exact ⟨_, rfl, _, _, _, [], _, [], hW', trodAll_mk1 (shut_bool Tryd.underlying4 _), (trodAll_cons_mk (Below.trod laidOut (by kernel_rfl) (of_decide_eq_true (by kernel_rfl)) k0 bel lt0) (trodAll_cons_mk (Below.trod laidOut (by kernel_rfl) (of_decide_eq_true (by kernel_rfl)) k1 bel lt1) (trodAll_cons_mk (shut_int Tryd.underlying3 w2) (trodAll_cons_mk (Below.trod laidOut (by kernel_rfl) (of_decide_eq_true (by kernel_rfl)) k3 bel lt3) (trodAll_cons_mk (shut_int Tryd.underlying3 w4) (trodAll_cons_mk (shut_int Tryd.underlying24 w5) trodAll_mk0)))))), rfl, bel.frame _, fun h => by cases h⟩

theorem over (HC : VmC GW) : Rows.vmUnseenRow.holds Tryd.pinned (OpenSpec.ofChange Rows.vmUnseenSpec) :=
  OpenClaim.holds_of_wide 6 Tryd.f6 rfl rfl rfl rfl rfl rfl rfl ⟨rfl, rfl, rfl, rfl, rfl⟩ rfl rfl rfl rfl rfl (by kernel_rfl) Tryd.func6 (by kernel_rfl)
    (of_decide_eq_true (by kernel_rfl)) (by unfold Func.isWrapper; first | (rw [if_pos (by decide +kernel)]; kernel_rfl) | (rw [if_neg (by decide +kernel)]; exact ⟨rfl, rfl⟩))
    (fun os started H enc _ => lifted HC os started H enc)

/-- The row's statement. -/
theorem row_holds : Rows.VmUnseenSaid := over vmC
/-- The statement: the row, its table tied to the program's text. -/
theorem proved : Rows.VmUnseenCardSaid :=
  Claim7.holds_tied_plain_at .later [] [.data] true Rows.vmUnseenCard.stood.harness Rows.vmUnseenCard.stood.looks
    row_holds (fun _ h => by cases h) (by kernel_rfl) (fun _ h => by cases h) vmUnseen_row_tie rfl ⟨rfl, rfl⟩ (by kernel_rfl) rfl
    (fun f fn hf hfn => by
      obtain rfl : f = 6 := Option.some.inj ((show Tryd.prog.funcNamed "vestibule/vestibulelaw04.VmUnseen" = some 6 by kernel_rfl).symm.trans hf) |>.symm
      obtain rfl : fn = Tryd.f6 := (Option.some.inj (Tryd.func6.symm.trans hfn)).symm
      exact ⟨by kernel_rfl, fun j t ht => by
        have hm : t ∈ Tryd.f6.params.toList := by simpa using Array.mem_of_getElem? ht
        have hall : (Tryd.f6.params.toList.all fun u => !Tryd.prog.wantsStandIn u) = true := by kernel_rfl
        exact (show Tryd.prog.wantsStandIn t = false by simpa using List.all_eq_true.1 hall t hm)⟩)
    (by kernel_rfl)
#print axioms proved

end Go.Proofs.YtinfbmfmmbibbaaDoor.vmUnseen
