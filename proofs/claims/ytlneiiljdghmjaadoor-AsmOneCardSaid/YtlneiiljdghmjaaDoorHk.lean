/- Which places a program's jumps lead to, marked in a row of truths; the iterator over a text's lines: what the landed call returns. Conditions: the program can be written; the table of codes lies in its variable. -/
import Derived.Test.YtlneiiljdghmjaaDoorHi
import Derived.Test.YtlneiiljdghmjaaDoorHj
import Derived.Laws.EntriesVeiled
namespace Go.Proofs.YtlneiiljdghmjaaDoor
open Go.RowKit Go.Shelf
set_option linter.unusedVariables false
set_option linter.unusedSimpArgs false
attribute [local go_sem ↓] Go.wp_at_zero Go.wp_at_succ

/-- A row of truths. -/
def rowT (n : Nat) (f : Nat → Bool) : List Value := (List.range n).map (fun j => Value.bool (f j))
theorem rowT_length (n : Nat) (f : Nat → Bool) : (rowT n f).length = n := by simp [rowT]
theorem rowT_get {n : Nat} (f : Nat → Bool) {j : Nat} (h : j < n) : (rowT n f)[j]? = some (.bool (f j)) := by
  unfold rowT
  rw [List.getElem?_map, List.getElem?_range h]; rfl
theorem rowT_congr {n : Nat} {f g : Nat → Bool} (h : ∀ j, j < n → f j = g j) : rowT n f = rowT n g := by
  unfold rowT
  exact List.map_congr_left fun j hj => by rw [h j (List.mem_range.1 hj)]
theorem rowT_set (n x : Nat) (f : Nat → Bool) : (rowT n f).set x (.bool true) = rowT n (fun j => f j || j == x) := by
  apply List.ext_getElem?
  intro j
  by_cases hj : j < n
  · rw [List.getElem?_set, rowT_get _ hj]
    by_cases e : x = j
    · subst e; rw [if_pos rfl, if_pos (by rw [rowT_length]; exact hj), rowT_get _ hj, beq_self_eq_true, Bool.or_true]
    · rw [if_neg e, rowT_get _ hj, beq_eq_false_iff_ne.2 (fun h => e h.symm), Bool.or_false]
  · rw [List.getElem?_eq_none (by rw [List.length_set, rowT_length]; omega), List.getElem?_eq_none (by rw [rowT_length]; omega)]
theorem made_trues (n : Nat) : (madeCells (Value.bool false).cells (n * 1)).toList = rowT n (fun _ => false) := by
  apply List.ext_getElem?
  intro j
  by_cases hj : j < n
  · rw [rowT_get _ hj]
    unfold madeCells
    rw [Array.getElem?_toList, Array.getElem?_map, Array.getElem?_range, if_pos (by omega)]
    show some ((#[Value.bool false] : Array Value)[j % 1]!) = _
    rw [Nat.mod_one]; rfl
  · rw [List.getElem?_eq_none (by simp [madeCells]; omega), List.getElem?_eq_none (by rw [rowT_length]; omega)]
theorem true_info : (Tryd.prog.info? 4).map (fun i => (i.zero, i.size, i.bytes)) = some (some (.bool false), 1, 1) := by kernel_rfl
theorem goes_targ {x : Ins} (h : plainI x = true) (k y : Int) : goesI x k y = (targL x k).contains y := by
  have hkn := plain_known h
  have hf := forks_shape hkn
  have hj := ja_shape hkn
  unfold goesI targL
  rw [← hj, hf]
  by_cases h5 : x.c = 5
  · have h2 : shapeI x.c = 2 := by
      have := hj
      rw [beq_iff_eq.2 h5] at this
      exact beq_iff_eq.1 this.symm
    rw [if_pos h5, beq_iff_eq.2 h5, Bool.true_and, h2, decide_eq_false (show ¬ (2 : Int) < 2 by omega), Bool.false_and, Bool.or_false]
    rw [Bool.eq_iff_iff]
    simp
    exact eq_comm
  · rw [if_neg h5, beq_eq_false_iff_ne.2 h5, Bool.false_and, Bool.false_or]
    by_cases h3 : 2 < shapeI x.c
    · rw [decide_eq_true h3, Bool.true_and, if_pos rfl]
      rw [Bool.eq_iff_iff]
      simp
      exact or_congr eq_comm eq_comm
    · rw [decide_eq_false h3, Bool.false_and, if_neg Bool.false_ne_true]; rfl
theorem ledTo_at {p : List Ins} {k : Nat} {x : Ins} (hx : p[k]? = some x) (h : plainI x = true) (y : Int) : ledTo p y (k + 1) = (ledTo p y k || (targL x k).contains y) := by
  show (ledTo p y k || _) = _
  rw [hx]
  show (ledTo p y k || goesI x k y) = _
  rw [goes_targ h]
/-- No place leads back. -/
theorem ledTo_all {p : List Ins} (h : canL p = true) (ho : OkL p) {y : Nat} : ∀ (d : Nat), y + d ≤ p.length → ledTo p y (y + d) = ledB p y
  | 0, _ => rfl
  | d + 1, hd => by
    have hx : p[y + d]? = some (p[y + d]'(by omega)) := List.getElem?_eq_getElem (by omega)
    obtain ⟨hp, ht⟩ := can_targ h ho (show y + d < p.length by omega) hx
    rw [show y + (d + 1) = (y + d) + 1 by omega, ledTo_at hx hp, ledTo_all h ho d (by omega)]
    have e : (targL (p[y + d]'(by omega)) ((y + d : Nat) : Int)).contains (y : Int) = false := by
      cases hc : (targL (p[y + d]'(by omega)) ((y + d : Nat) : Int)).contains (y : Int) with
      | false => rfl
      | true => have := (ht _ (List.contains_iff_mem.1 hc)).1; omega
    rw [e, Bool.or_false]
theorem take_has {l : List Int} {k : Nat} (h : k < l.length) (j : Int) : (l.take (k + 1)).contains j = ((l.take k).contains j || j == l[k]) := by
  rw [List.take_succ_eq_append_getElem h, Bool.eq_iff_iff, List.contains_iff_mem, Bool.or_eq_true, List.contains_iff_mem, beq_iff_eq, List.mem_append, List.mem_singleton]
/-- Between two rounds: the box of the program's slice, the row of marks, its box. -/
def LinesAt (w : World) (B3 : Nat) (a0 : Option Addr) (n cap : Nat) (f : Nat → Bool) (V : World) : Prop :=
  Boxed V w.heap.size 22 (.slice a0 n cap) ∧ Boxed V B3 77 (.slice (some ⟨w.heap.size + 1, 0, none⟩) n n) ∧
  V.ownsRow (w.heap.size + 1) 4 1 (.slice (some ⟨w.heap.size + 1, 0, none⟩) n n) n (rowT n f) ∧ Below w.heap.size w V
theorem LinesAt.on {w V V' : World} {B3 n cap : Nat} {a0 : Option Addr} {f : Nat → Bool} (h : LinesAt w B3 a0 n cap f V) (b : Below V.heap.size V V') : LinesAt w B3 a0 n cap f V' :=
  ⟨(b.block _ (Array.getElem?_eq_some_iff.1 h.1).1).trans h.1, (b.block _ (Array.getElem?_eq_some_iff.1 h.2.1).1).trans h.2.1, own_below h.2.2.1 b, h.2.2.2.trans (b.mono h.2.2.2.size)⟩
theorem LinesAt.congr {w V : World} {B3 n cap : Nat} {a0 : Option Addr} {f g : Nat → Bool} (h : LinesAt w B3 a0 n cap f V) (hg : ∀ j, j < n → f j = g j) : LinesAt w B3 a0 n cap g V :=
  ⟨h.1, h.2.1, by rw [← rowT_congr hg]; exact h.2.2.1, h.2.2.2⟩
theorem LinesAt.mark {w V : World} {B3 n cap x : Nat} {a0 : Option Addr} {f : Nat → Bool} (h : LinesAt w B3 a0 n cap f V) (hB : w.heap.size + 1 < B3) : LinesAt w B3 a0 n cap (fun j => f j || j == x) (V.setCell ⟨w.heap.size + 1, x, none⟩ (.bool true)) := by
  refine ⟨?_, ?_, ?_, h.2.2.2.setCell (p := ⟨w.heap.size + 1, x, none⟩) (Nat.le_succ _) _⟩
  · exact (heap_setCell_other V _ w.heap.size _ (show w.heap.size ≠ w.heap.size + 1 by omega)).trans h.1
  · exact (heap_setCell_other V _ B3 _ (show B3 ≠ w.heap.size + 1 by omega)).trans h.2.1
  · have o := (h.2.2.1.stored x (.bool true)).1
    rw [rowT_set] at o
    exact o
theorem U64s.set_ {V : World} {B R x : Nat} {q : Option Addr} {l : List Int} {v : Value} (h : U64s V B q l) (hR : R < B) : U64s (V.setCell ⟨R, x, none⟩ v) B q l := fun h0 => by
  obtain ⟨g, cs, fz, e, hB, hg, hc⟩ := h h0
  exact ⟨g, cs, fz, e, hB, (heap_setCell_other V _ g _ (show g ≠ R by omega)).trans hg, hc⟩
/-- What lines has to return. -/
def LinesTo (a0 : Option Addr) (n cap : Nat) (p : List Ins) (w : World) (e : Ending) (w' : World) : Prop :=
  ∃ B3, e = .returned (.func (.func 38) #[] #[.pointer (some ⟨w.heap.size, 0, none⟩), .pointer (some ⟨B3, 0, none⟩)]) ∧ w.heap.size + 1 < B3 ∧ LinesAt w B3 a0 n cap (ledB p) w'
set_option maxRecDepth 100000 in
set_option maxHeartbeats 8000000 in
theorem lines_call (a0 : Option Addr) (n cap : Nat) (p : List Ins) (w : World) (hG : GA w) (hl : p.length = n) (hok : OkL p) (h1 : n ≤ 4096) (hcan : canL p = true) (hR : RdI w w.heap.size a0 p) :
    Calls Tryd.prog 21 #[.slice a0 n cap] w (LinesTo a0 n cap p w) := by
  obtain ⟨i0, hi, hz0, hz1, hz2⟩ := info_parts true_info
  have HI := Lib.hid hi
  have H0 := Lib.hid hz0
  have H1 := Lib.hid hz1
  have hm0 : i0.bytes * n ≤ 281474976710656 := by rw [hz2]; omega
  have hm1 : n ≤ maxLen := by unfold maxLen; omega
  have HL := Lib.hid hl
  have HP := Lib.hid hok
  have HR := Lib.hid hR
  have HG := Lib.hid hG
  have HCT := Lib.hid (fun k x (hk : k < p.length) (hx : p[k]? = some x) => can_targ hcan hok hk hx)
  have HST := Lib.hid (fun k x (hx : p[k]? = some x) (h : plainI x = true) (y : Int) => ledTo_at hx h y)
  have HEND := Lib.hid (fun y (hy : y < n) => show ledTo p (y : Int) n = ledB p y from by
    have := ledTo_all hcan hok (y := y) (n - y) (by omega)
    rw [show y + (n - y) = n by omega] at this
    exact this)
  rw [hl] at HCT
  unfold LinesTo
  obtain ⟨F, hF⟩ : ∃ F, F = fun (k y : Nat) => ledTo p (y : Int) k := ⟨_, rfl⟩
  have HF := Lib.hid (fun k y => congrFun (congrFun hF k) y)
  have HF0 := Lib.hid (show ∀ y, F 0 y = false from fun y => by rw [hF]; rfl)
  have n4 : (n : Int) ≤ 4096 := by omega
  clear hi hz0 hz1 hz2 hl hok hR hG h1 hcan hF
  go_enter Tryd.func21, Tryd.ntmps21
  go_wp2_with (first
    | (at_make
       refine wpList_make_full _ rfl _ _ 77 rfl (w.heap.size + 1) 4 i0 _ 1 Tryd.underlying77 HI.out H0.out H1.out .i64 .i64 n n n rfl rfl rfl rfl hm0 hm1 (by simp) ?_
       intro w1 o1 g1
       rw [World.size_alloc] at o1
       rw [made_trues] at o1
       have b1 : Below (w.heap.size + 1) (w.alloc (.cells #[.slice a0 n cap] 22)) w1 := (Below.refl _ _).grown g1 (by simp) (by intro k hk; cases hk)
       have B1 := Lib.hid b1
       have hlt : w.heap.size + 1 < w1.heap.size := (o1.lt _ rfl).2
       have LA : Hid (LinesAt w w1.heap.size a0 n cap (F 0) (w1.alloc (.cells #[.slice (some ⟨w.heap.size + 1, 0, none⟩) n n] 77))) :=
         Lib.hid ⟨(show Boxed w1 w.heap.size 22 (.slice a0 n cap) from (b1.block _ (Nat.lt_succ_self _)).trans (Boxed.new w _ _)).alloc _, Boxed.new w1 _ _, by rw [rowT_congr (g := fun _ => false) (fun j _ => HF0.out j)]; exact o1.alloc _, ((ball w _).trans (b1.mono (Nat.le_succ _))).alloc (by omega) _⟩
       have hlt0 : w.heap.size < w1.heap.size := by omega
       have c0 : w1.cell? ⟨w.heap.size, 0, none⟩ = some (.slice a0 n cap) := (show Boxed w1 w.heap.size 22 (.slice a0 n cap) from (b1.block _ (Nat.lt_succ_self _)).trans (Boxed.new w _ _)).cell
       clear o1 g1 b1))
  go_loopw [13] (fun v13 wr => ∃ k : Nat, k ≤ n ∧ v13 = .int .i64 k ∧ Hid (LinesAt w w1.heap.size a0 n cap (F k) wr)) (fun v13 _ => n - (intOf v13).toNat)
  case atStart => exact ⟨0, Nat.zero_le _, rfl, LA⟩
  case round =>
    clear LA B1 c0
    obtain ⟨k, hk, rfl, HA⟩ := hrel
    obtain ⟨W, rfl⟩ : ∃ wo : World, wo = wr := ⟨_, rfl⟩
    by_cases hlt2 : k < n
    · have hkl : k < p.length := by rw [HL.out]; exact hlt2
      have i1 : (k : Int) < n := by omega
      have i2 : (0 : Int) ≤ k := by omega
      obtain ⟨b, o, hao, hbB, hcs⟩ := HR.out (by omega)
      subst hao
      have hat := hcs k hkl
      obtain ⟨x, hx⟩ : ∃ x, x = p[k] := ⟨_, rfl⟩
      have hxk : p[k]? = some x := by rw [hx]; exact List.getElem?_eq_getElem hkl
      have hxo := HP.out.get hkl
      rw [← hx] at hat hxo
      have PB := Lib.hid HA.out.2.2.2
      obtain ⟨q0, q1, q2, q3⟩ := hat.keep (w' := W) fun q hq => PB.out.cell (by omega)
      obtain ⟨hpl, htb⟩ := HCT.out k x hlt2 hxk
      have HS := Lib.hid (HST.out k x hxk hpl)
      have HBX := Lib.hid (ball W (.cells #[.int .u16 x.c, .int .u8 x.jt, .int .u8 x.jf, .int .u32 x.k] 33))
      have HG1 := Lib.hid ((HG.out.on (PB.out.trans (HBX.out.mono PB.out.size))).rows)
      have HT := Lib.hid (fun V (g : GW V) => targets_call x hxo k (by omega) V g)
      unfold TargTo at HT
      have htl := targ_le x k
      obtain ⟨T, hT⟩ : ∃ T, T = targL x k := ⟨_, rfl⟩
      rw [← hT] at HS HT htl htb
      have HTB := Lib.hid htb
      obtain ⟨tn, htn⟩ : ∃ tn, tn = T.length := ⟨_, rfl⟩
      rw [← htn] at HT htl
      have HTN := Lib.hid htn
      have hWR : w.heap.size + 1 < W.heap.size := (HA.out.2.2.1.lt _ rfl).2
      clear hat hx hkl hcs htb hpl hxk hxo hT htn
      obtain ⟨c, jt, jf, kk⟩ := x
      simp only at q0 q1 q2 q3 HG1 HBX HT
      go_wp2_with (go_at_call 25; ((with_reducible refine (HT.out _ HG1.out).mono ?_); rintro e w2 ⟨q, cc, rfl, u2, b2⟩); have U2 := Lib.hid u2; have A2 := Lib.hid (HA.out.on (th2 HBX.out b2)); clear u2)
      rw [World.size_alloc] at U2
      go_loopw [22] (fun v22 wr => ∃ j : Nat, j ≤ tn ∧ v22 = .int .i64 j ∧ Hid (LinesAt w w1.heap.size (some ⟨b, o, none⟩) n cap (fun y => F k y || (T.take j).contains (y : Int)) wr) ∧ Hid (U64s wr (W.heap.size + 1) q T)) (fun v22 _ => tn - (intOf v22).toNat)
      case atStart => exact ⟨0, Nat.zero_le _, rfl, Lib.hid (A2.out.congr fun j _ => by simp), U2⟩
      case round =>
        clear A2 U2
        obtain ⟨j, hj, rfl, HA2, HU⟩ := hrel
        obtain ⟨V, rfl⟩ : ∃ wo : World, wo = wr := ⟨_, rfl⟩
        by_cases hlj : j < tn
        · have hjT : j < T.length := by rw [← HTN.out]; exact hlj
          have hxT : T[j]? = some T[j] := List.getElem?_eq_getElem hjT
          obtain ⟨g, hq, hcell⟩ := HU.out.cell hxT
          have hb := HTB.out T[j] (List.getElem_mem hjT)
          have HTK := Lib.hid (fun y => take_has hjT y)
          obtain ⟨m, hm⟩ : ∃ m : Nat, T[j] = m := ⟨(T[j]).toNat, by omega⟩
          rw [hm] at hcell hb HTK
          have hmn : m < n := by omega
          have m1 : (m : Int) < n := by omega
          have m2 : (0 : Int) ≤ m := by omega
          have j1 : (j : Int) < tn := by omega
          have j2 : (0 : Int) ≤ j := by omega
          have c3 := HA2.out.2.1.cell
          have s2 := (HA2.out.2.2.1.cellAt m (by omega)).trans (rowT_get _ hmn)
          have f2 := HA2.out.2.2.1.frozenAt m
          have HA3 := Lib.hid (HA2.out.mark (x := m) hlt)
          have HU3 := Lib.hid (HU.out.set_ (R := w.heap.size + 1) (x := m) (v := .bool true) (by omega))
          subst hq
          clear hm hb hxT hjT HA2 HU
          go_wp2
          go_roundw
          case rel =>
            refine ⟨j + 1, by omega, by go_num, Lib.hid (HA3.out.congr fun y _ => ?_), HU3⟩
            rw [HTK.out, Bool.or_assoc]
            congr 2
            rw [Bool.eq_iff_iff, beq_iff_eq, beq_iff_eq]
            omega
          case measure => simp [intOf]; omega
        · obtain rfl : j = tn := by omega
          have j1 : ¬ (j : Int) < j := by omega
          have HA3 := Lib.hid (HA2.out.congr (g := F (k + 1)) fun y _ => by
            rw [HF.out, HF.out, HS.out, HTN.out, List.take_length])
          clear HA2
          go_wp2
          go_roundw
          case rel => exact ⟨k + 1, by omega, by go_num, HA3⟩
          case measure => simp [intOf]; omega
    · obtain rfl : k = n := by omega
      have i1 : ¬ (k : Int) < k := by omega
      have HA3 := Lib.hid (HA.out.congr (g := ledB p) fun y hy => by rw [HF.out]; exact HEND.out y hy)
      go_wp2
      go_ret
      exact ⟨_, rfl, hlt, HA3.out⟩
end Go.Proofs.YtlneiiljdghmjaaDoor
