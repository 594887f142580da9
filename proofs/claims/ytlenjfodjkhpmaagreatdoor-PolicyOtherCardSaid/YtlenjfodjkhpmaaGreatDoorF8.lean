/- The landed fold's notes, kinds of values, modes, effects. No condition. What the walk of the landed fold's Step needs: words by their reading; the state when the list's own row changes. No condition. The landed fold's Step, of a list that may not be, and of a value without words. Conditions: lists of at most 100,000 calls, values of at most 1,000 bytes. -/
import Derived.Test.YtlenjfodjkhpmaaGreatDoorTq
import Derived.Test.YtlenjfodjkhpmaaGreatDoorG7
import Derived.Laws.EntriesVeiled
import Derived.Deep.MidRow
namespace Go.Proofs.YtlenjfodjkhpmaaGreatDoor
set_option maxRecDepth 100000
open Go.Lib (hid)
open Go.RowKit
set_option linter.unusedVariables false
set_option linter.unusedSimpArgs false
attribute [local go_sem ↓] Go.wp_at_zero Go.wp_at_succ

theorem step_bound (sfx : Bool) (v : ByteArray) (m : Nat) (L : List Cl) (hv : v.size ≤ 1000) (hL : L.length ≤ 100) : (stepA sfx v (m, L)).1.2.length ≤ 100 ∧ (stepA sfx v (m, L)).2.length ≤ 1000 := by
 unfold stepA
 by_cases h : mayR knownR m L = true
 ·rw [if_pos h]
  have := okl_le (step_ok grpX_known sfx v (s := (m, L)) (may_iff.1 h))
  exact ⟨by omega, stepC_nts_le sfx v _ hv⟩
 ·rw [if_neg h]
  exact ⟨hL, Nat.zero_le _⟩
theorem blk_lt {w : World} {k : Nat} {o : Obj} (h : w.heap[k]? = some o) : k < w.heap.size := (Array.getElem?_eq_some_iff.1 h).1
theorem blk_on {w w' : World} {k : Nat} {o : Obj} (h : w.heap[k]? = some o) (b : Below w.heap.size w w') : w'.heap[k]? = some o := (b.block k (blk_lt h)).trans h
theorem great16 (m : Nat) (q : Option Addr) (n c : Nat) (w : World) : Calls Tryz.prog 33 #[lsV m q n c] w fun e w' => e = .returned (.bool (decide (100 < n))) ∧ Below w.heap.size w w' := by
 unfold lsV
 obtain ⟨mi, hmi⟩ : ∃ x : Int, x = (m : Nat) := ⟨_, rfl⟩
 rw [← hmi]
 clear hmi
 by_cases h : 100 < n
 ·rw [decide_eq_true h]
  have h1 : (100 : Int) < n := by omega
  clear h
  go_enter Tryz.func33, Tryz.ntmps33
  go_wp2
  go_ret
  exact ⟨rfl, (Below.refl _ _).alloc (Nat.le_refl _) _⟩
 ·rw [decide_eq_false h]
  have h1 : ¬ (100 : Int) < n := by omega
  clear h
  go_enter Tryz.func33, Tryz.ntmps33
  go_wp2
  go_ret
  exact ⟨rfl, (Below.refl _ _).alloc (Nat.le_refl _) _⟩
set_option maxRecDepth 100000
open Go.Lib (hid)
open Go.RowKit
set_option linter.unusedVariables false
set_option linter.unusedSimpArgs false
attribute [local go_sem ↓] Go.wp_at_zero Go.wp_at_succ

set_option maxRecDepth 100000
open Go.Lib (hid)
open Go.RowKit Go.Shelf
set_option linter.unusedVariables false
set_option linter.unusedSimpArgs false
attribute [local go_sem ↓] Go.wp_at_zero Go.wp_at_succ

set_option maxHeartbeats 8000000 in
theorem note_c (E : Int) (x : ByteArray) (w : World) (hx : x.size ≤ 1000000) : Calls Tryz.prog 177 #[.int .i64 E, .string x] w fun e w' => e = .returned (.agg #[.string ⟨#[]⟩, .int .i64 0, .int .i64 E, .string (bs (x.data.toList.take 60))]) ∧ Below w.heap.size w w' := by
 obtain ⟨k, hk⟩ : ∃ k, k = min x.size 60 := ⟨_, rfl⟩
 have HT := hid (show x.extract 0 k = bs (x.data.toList.take 60) by
  have h : x.size = x.data.toList.length := rfl
  rw [← bs_self x, bs_subV, bs_list, List.drop_zero, Nat.sub_zero]
  congr 1
  rw [List.take_eq_take_iff]
  omega)
 have hmin : min (x.size : Int) 60 = k := by omega
 have k0 : (0 : Int) ≤ k := by omega
 have k1 : (k : Int) ≤ x.size := by omega
 clear hk hx
 go_enter Tryz.func177, Tryz.ntmps177
 go_wp2
 refine bodyPost_ret (v := .agg #[.string ⟨#[]⟩, .int .i64 0, .int .i64 E, .string (x.extract 0 k)]) (by simp [results, Tryz.results177, go_sem]) rfl ⟨by rw [HT.out], (Below.refl _ _).alloc (Nat.le_refl _) _⟩
theorem turn_le (s : ByteArray) : (turnR s).1.size ≤ s.size := by
 unfold turnR
 split
 ·show (bs (s.data.toList.drop 1)).size ≤ s.size
  rw [bs_size, List.length_drop]
  have : s.data.toList.length = s.size := by simp
  omega
 ·exact Nat.le_refl _
set_option maxHeartbeats 8000000 in
theorem kind_c (s : ByteArray) (w : World) (hs : s.size ≤ 1000000) : Calls Tryz.prog 174 #[.string s] w fun e w' => ∃ q c, e = .returned (.tuple #[.int .i64 (if (turnR s).2 = true then 1 else 0), .slice q (wdL (turnR s).1.data.toList).length c]) ∧ w'.ownsRow w.heap.size 9 1 (.slice q (wdL (turnR s).1.data.toList).length c) (wdL (turnR s).1.data.toList).length (sL (wdL (turnR s).1.data.toList)) ∧ Below w.heap.size w w' := by
 have HT := hid (fun (W : World) => turned15 s W)
 have HW := hid (fun (W : World) => words_c (turnR s).1 W (Nat.le_trans (turn_le s) hs))
 generalize wdL (turnR s).1.data.toList = L at HW ⊢
 obtain ⟨X, hX⟩ : ∃ X, X = (turnR s).1 := ⟨_, rfl⟩
 rw [← hX] at HT HW
 clear hs hX
 cases ht : (turnR s).2 with
 | true =>
  rw [ht] at HT
  rw [if_pos rfl]
  clear ht
  go_enter Tryz.func174, Tryz.ntmps174
  go_wp2_with (first
   | (go_at_call 188; ((with_reducible refine (HT.out _).mono ?_); rintro e w1 ⟨rfl, b1⟩))
   | (go_at_call 154; ((with_reducible refine (HW.out _).mono ?_); rintro e w2 ⟨q, c, rfl, o2, b2⟩)))
  go_ret2
  exact ⟨q, c, rfl, owns_low16 o2 b1.size, thn16 b1 b2⟩
 | false =>
  rw [ht] at HT
  rw [if_neg Bool.noConfusion]
  clear ht
  go_enter Tryz.func174, Tryz.ntmps174
  go_wp2_with (first
   | (go_at_call 188; ((with_reducible refine (HT.out _).mono ?_); rintro e w1 ⟨rfl, b1⟩))
   | (go_at_call 154; ((with_reducible refine (HW.out _).mono ?_); rintro e w2 ⟨q, c, rfl, o2, b2⟩)))
  go_ret2
  exact ⟨q, c, rfl, owns_low16 o2 b1.size, thn16 b1 b2⟩
theorem begun_c (m : Nat) (t : Bool) (w : World) : Calls Tryz.prog 175 #[.int .u8 (m : Nat), .int .i64 (if t = true then 1 else 0)] w fun e w' => e = .returned (.int .u8 (modeF m t : Nat)) ∧ w = w' := by
 unfold modeF
 by_cases h : m = 0
 ·subst h
  rw [if_pos rfl]
  cases t with
  | true =>
   rw [if_pos rfl, if_pos rfl]
   go_enter Tryz.func175, Tryz.ntmps175
   go_wp2
   go_ret
   exact ⟨rfl, rfl⟩
  | false =>
   rw [if_neg Bool.noConfusion, if_neg Bool.noConfusion]
   go_enter Tryz.func175, Tryz.ntmps175
   go_wp2
   go_ret
   exact ⟨rfl, rfl⟩
 ·rw [if_neg h]
  have h1 : ((m : Int) != 0) = true := bne_iff_ne.2 (by omega)
  obtain ⟨mi, hmi⟩ : ∃ x : Int, x = (m : Nat) := ⟨_, rfl⟩
  rw [← hmi] at h1 ⊢
  clear h hmi
  generalize (if t = true then (1 : Int) else 0) = kk
  go_enter Tryz.func175, Tryz.ntmps175
  go_wp2
  go_ret
  exact ⟨rfl, rfl⟩
def putV (b : Nat) : Value := .func (.func 204) #[] #[.pointer (some ⟨b, 0, none⟩)]
def woV : Value := .func (.func 206) #[] #[]
def effT (b : Nat) (has : Bool) : Value := .agg #[.nilFunc, .nilFunc, putV b, if has = true then putV b else woV, woV, putV b]
def putB (m : Nat) (t has : Bool) : Bool := (decide (m = 1) && (!t || has)) || (decide (m = 2) && t)
def chgV (b m : Nat) (t has : Bool) : Value := if putB m t has = true then putV b else woV
theorem run_eff (b : Nat) (has : Bool) (m : Nat) (t : Bool) (hm : m = 1 ∨ m = 2) : ∃ R, (∀ w, (Instr.index 228 (effT b has) (.int .u8 (m : Nat))).run Tryz.prog w = .ok R w) ∧ ∀ w, (Instr.index 227 R (.int .i64 (if t = true then 1 else 0))).run Tryz.prog w = .ok (chgV b m t has) w := by
 rcases hm with rfl | rfl <;> cases t <;> cases has
 ·exact ⟨.agg #[putV b, woV], fun w => by kernel_rfl, fun w => by kernel_rfl⟩
 ·exact ⟨.agg #[putV b, putV b], fun w => by kernel_rfl, fun w => by kernel_rfl⟩
 ·exact ⟨.agg #[putV b, woV], fun w => by kernel_rfl, fun w => by kernel_rfl⟩
 ·exact ⟨.agg #[putV b, putV b], fun w => by kernel_rfl, fun w => by kernel_rfl⟩
 ·exact ⟨.agg #[woV, putV b], fun w => by kernel_rfl, fun w => by kernel_rfl⟩
 ·exact ⟨.agg #[woV, putV b], fun w => by kernel_rfl, fun w => by kernel_rfl⟩
 ·exact ⟨.agg #[woV, putV b], fun w => by kernel_rfl, fun w => by kernel_rfl⟩
 ·exact ⟨.agg #[woV, putV b], fun w => by kernel_rfl, fun w => by kernel_rfl⟩
set_option maxHeartbeats 8000000 in
theorem effects_c (nm : ByteArray) (ai : Int) (has : Bool) (w : World) : Calls Tryz.prog 178 #[.agg #[.string nm, .int .u32 ai, .bool has]] w fun e w' => e = .returned (effT w.heap.size has) ∧ w'.heap[w.heap.size]? = some (.cells #[.string nm, .int .u32 ai, .bool has] 151 (0, 0)) ∧ Below w.heap.size w w' := by
 cases has with
 | true =>
  go_enter Tryz.func178, Tryz.ntmps178
  go_wp2
  refine bodyPost_ret (v := effT w.heap.size true) (by simp [results, Tryz.results178, go_sem, effT, putV, woV]) rfl ⟨rfl, ?_, ((Below.refl _ _).alloc (Nat.le_refl _) _).alloc (by rw [World.size_alloc]; omega) _⟩
  exact heap_old16 w _ _
 | false =>
  go_enter Tryz.func178, Tryz.ntmps178
  go_wp2
  refine bodyPost_ret (v := effT w.heap.size false) (by simp [results, Tryz.results178, go_sem, effT, putV, woV]) rfl ⟨rfl, ?_, ((Below.refl _ _).alloc (Nat.le_refl _) _).alloc (by rw [World.size_alloc]; omega) _⟩
  exact heap_old16 w _ _
set_option maxHeartbeats 8000000 in
theorem eff1_c (W : World) (B : Nat) (v : Value) (n : Nat) (L : List Cl) (s nm : ByteArray) (a : Nat) (has : Bool) (b : Nat) (hb : W.heap[b]? = some (.cells #[.string nm, .int .u32 (a : Nat), .bool has] 151 (0, 0))) (hO : W.ownsRow B 67 2 v n (rowC encC L)) (hn : n = L.length) (hA : Asc16 L) (hl : n ≤ 100000) (hBW : B ≤ W.heap.size) :
 Calls Tryz.prog 204 #[v, .string s, .pointer (some ⟨b, 0, none⟩)] W fun e w' => ∃ v' n', e = .returned v' ∧ n' = (putC L s a).length ∧ w'.ownsRow B 67 2 v' n' (rowC encC (putC L s a)) ∧ W.grownBy w' v.ownBlock ∧ ∀ k, v'.ownBlock = some k → v.ownBlock = some k ∨ W.heap.size ≤ k := by
 have HW := hid (with_c W B v n L s a hO hn hA hl hBW)
 obtain ⟨ai, hai⟩ : ∃ x : Int, x = (a : Nat) := ⟨_, rfl⟩
 rw [← hai] at HW hb
 obtain ⟨R, hR⟩ : ∃ R, R = putC L s a := ⟨_, rfl⟩
 rw [← hR] at HW ⊢
 have c1 := (cell_of_row W b 1 _ _ (0, 0) hb).trans (show _ = some (Value.int .u32 ai) from rfl)
 clear hb hO hn hA hl hBW hai hR
 go_enter Tryz.func204, Tryz.ntmps204
 go_wp2_with (go_at_call 205; ((with_reducible refine (HW.out).mono ?_); rintro e w1 ⟨v1, n1, rfl, h1, h2, h3, h4⟩))
 go_ret
 exact ⟨v1, n1, rfl, h1, h2, h3, h4⟩
set_option maxRecDepth 100000
open Go.Lib (hid)
open Go.RowKit Go.Shelf
set_option linter.unusedVariables false
set_option linter.unusedSimpArgs false

theorem word_read (sfx T : Bool) (x : List UInt8) : wordF knownR grpX sfx T x = (if (readF (sfx && T) (bs x)).2.2 ≠ 0 then [((readF (sfx && T) (bs x)).2.2, bs (x.take 60))] else [], (readF (sfx && T) (bs x)).2.1.map fun t => (t, (readF (sfx && T) (bs x)).1.has, (readF (sfx && T) (bs x)).1.act)) := by
 have hr : rdE (bs x) = rdL x := by unfold rdE; rw [bs_list]
 have hb : ((rdL x).1.has && !(sfx && T)) = ((rdL x).1.has && (!sfx || !T)) := by cases sfx <;> cases T <;> rfl
 unfold wordF readF
 rw [hr, hb]
 by_cases h1 : (rdL x).2 ≠ 0
 ·simp only [if_pos h1, List.map_nil]
 ·by_cases h2 : (namesF knownR grpX (rdL x).1.nm).1 ≠ 0
  ·simp only [if_neg h1, if_pos h2, List.map_nil]
  ·by_cases h3 : ((rdL x).1.has && (!sfx || !T)) = true
   ·simp only [if_neg h1, if_neg h2, if_pos h3]
    rw [if_pos (by decide)]
   ·simp only [if_neg h1, if_neg h2, if_neg h3]
    rw [if_neg (by decide)]
theorem read_le (b : Bool) (x : ByteArray) : (readF b x).2.1.length ≤ 100 := by
 unfold readF
 split
 ·exact Nat.zero_le _
 ·split
  ·exact Nat.zero_le _
  ·split
   ·exact names_le _
   ·exact names_le _
theorem op_put (m : Nat) (T has : Bool) (t : ByteArray) (a : Nat) : opF m T (t, has, a) = if putB m T has = true then (t, some a) else (t, none) := by
 unfold opF putB
 simp only
 by_cases h1 : m = 1
 ·subst h1
  cases T <;> cases has <;> rfl
 ·by_cases h2 : m = 2
  ·subst h2
   cases T <;> rfl
  ·rw [if_neg (by rintro (⟨h, _⟩ | ⟨h, _⟩); exact h1 h; exact h2 h), decide_eq_false h1, decide_eq_false h2]
   rfl
theorem newS_on {B : Nat} {W W' : World} {v : Value} {l : List ByteArray} (h : NewS B W v l) (b : Below W.heap.size W W') : NewS B W' v l := ⟨h.1.on b, h.2⟩
theorem newS_grown {B : Nat} {W W' : World} {v : Value} {l : List ByteArray} {r : Option Nat} (h : NewS B W v l) (hg : W.grownBy W' r) (hn : ∀ g, v.ownBlock = some g → r ≠ some g) : NewS B W' v l := by
 obtain ⟨⟨q, c, e, hr⟩, hb⟩ := h
 refine ⟨⟨q, c, e, fun k s hk => ?_⟩, hb⟩
 obtain ⟨g, o, e2, hc⟩ := hr k s hk
 exact ⟨g, o, e2, hg.cell hc (fun e3 => hn g (by rw [e, e2]; rfl) e3.symm)⟩
theorem newS_set {B b o : Nat} {W : World} {v u : Value} {l : List ByteArray} (h : NewS B W v l) (hb : b < B) : NewS B (W.setCell ⟨b, o, none⟩ u) v l := by
 obtain ⟨⟨q, c, e, hr⟩, hn⟩ := h
 refine ⟨⟨q, c, e, fun k s hk => ?_⟩, hn⟩
 obtain ⟨g, i, e2, hc⟩ := hr k s hk
 have := hn g (by rw [e, e2]; rfl)
 exact ⟨g, i, e2, (World.cell?_of_block (heap_setCell_other W ⟨b, o, none⟩ g u (show g ≠ b by omega))).trans hc⟩
abbrev NoI : Option Addr → Nat → Nat → List Cl → Prop := fun _ _ _ _ => False
section
variable {w : World} {mF : Nat} {vW : Value} {nW : Nat} {WL : List (List UInt8)} {L : List Cl} {q : Option Addr} {n c : Nat} {N : List Nte} {vN : Value} {W : World}
theorem SWrow (h : SW NoI w mF vW nW WL L q n c N vN W) : W.ownsRow w.heap.size 67 2 (.slice q n c) n (rowC encC L) := h.cur.resolve_left (fun e => e.1)
theorem SWkeep (h : SW NoI w mF vW nW WL L q n c N vN W) {wA : World} (hg : W.grownBy wA (Value.slice q n c).ownBlock) {k : Nat} {cs : Array Value} {t : TypeId} {fz : Nat × Nat} (hk : W.heap[k]? = some (.cells cs t fz)) (ht : t ≠ 67) : wA.heap[k]? = some (.cells cs t fz) := by
 refine (hg.block k (Array.getElem?_eq_some_iff.1 hk).1 (fun e => ?_)).trans hk
 rcases (SWrow h).2 with ⟨hv, _⟩ | ⟨g, cap, cur, hv, hB, hg2, _⟩
 ·rw [hv] at e; cases e
 ·rw [hv] at e
  have e2 : k = g := Option.some.inj e
  subst e2
  rw [hk] at hg2
  injection hg2 with hg2
  injection hg2 with _ e3 _
  exact ht e3
theorem SWcalls (h : SW NoI w mF vW nW WL L q n c N vN W) {wA : World} {q' : Option Addr} {n' c' : Nat} {L' : List Cl} (hg : W.grownBy wA (Value.slice q n c).ownBlock) (hl : n' = L'.length) (hO : wA.ownsRow w.heap.size 67 2 (.slice q' n' c') n' (rowC encC L')) :
 wA.heap[w.heap.size]? = some (.cells #[.int .u8 (mF : Nat), .slice q n c] 27 (0, 0)) ∧ SW NoI w mF vW nW WL L' q' n' c' N vN (wA.setCell ⟨w.heap.size, 1, none⟩ (.slice q' n' c')) := by
 have hb := SWkeep h hg h.box (by decide)
 have off : ∀ {k : Nat} {cs : Array Value} {t : TypeId} {fz : Nat × Nat}, wA.heap[k]? = some (.cells cs t fz) → t ≠ 27 → (wA.setCell ⟨w.heap.size, 1, none⟩ (.slice q' n' c')).heap[k]? = some (.cells cs t fz) := fun {k cs t fz} hk ht =>
  (heap_setCell_other wA ⟨w.heap.size, 1, none⟩ k _ (ne_type16 hk hb ht)).trans hk
 have hlt := h.lt
 refine ⟨hb, ⟨(h.bel.grown hg (by omega) (fun k e => ((SWrow h).lt k e).1)).setCell (p := ⟨w.heap.size, 1, none⟩) (Nat.le_refl _) _, ?_, ?_, hl, Or.inr (owns_same16 hO fun g cs fz _ hk => off hk (by decide)), ?_, ?_⟩⟩
 ·simp [World.setCell, Array.getElem?_modify, hb]
 ·exact (heap_setCell_other wA ⟨w.heap.size, 1, none⟩ (w.heap.size + 1) _ (by show w.heap.size + 1 ≠ w.heap.size; omega)).trans (SWkeep h hg h.res (by decide))
 ·exact owns_same16 h.nts fun g cs fz _ hk => off (SWkeep h hg hk (by decide)) (by decide)
 ·exact owns_same16 h.wds fun g cs fz _ hk => off (SWkeep h hg hk (by decide)) (by decide)
end
theorem set_box0 {V : World} {b : Nat} {x y u z : Value} {t : TypeId} (h : V.heap[b]? = some (.cells #[x, y] t (0, 0))) : (V.setCells b 0 [u, z]).heap[b]? = some (.cells #[u, z] t (0, 0)) := by
 simp [World.setCells, World.setCell, Array.getElem?_modify, h]
set_option maxRecDepth 100000
open Go.Lib (hid)
open Go.RowKit Go.Shelf
set_option linter.unusedVariables false
set_option linter.unusedSimpArgs false
attribute [local go_sem ↓] Go.wp_at_zero Go.wp_at_succ

set_option maxHeartbeats 8000000 in
theorem step_no (m : Nat) (q : Option Addr) (n cap : Nat) (L : List Cl) (v : ByteArray) (sfx : Bool) (w : World) (hG : GN w) (hmm : m < 256) (hl : n = L.length) (hn : n ≤ 100000) (ha : ∀ e ∈ L, e.2 < 4294967296) (hv : v.size ≤ 1000) (h : LsAt w q L) (hm : mayR knownR m L = false) : Calls Tryz.prog 152 #[lsV m q n cap, .string v, .bool sfx] w fun e w' => ∃ q' n' c', e = .returned (.tuple #[lsV m q' n' c', .slice none 0 0]) ∧ n' = L.length ∧ w'.ownsRow w.heap.size 67 2 (.slice q' n' c') n' (rowC encC L) ∧ Below w.heap.size w w' := by
 have HIN := hid (show (Tryz.prog.info? 27).map (·.size) = some 2 by kernel_rfl)
 unfold lsV
 obtain ⟨mi, hmi⟩ : ∃ x : Int, x = (m : Nat) := ⟨_, rfl⟩
 obtain ⟨W, hW⟩ : ∃ W, W = (w.alloc (.cells #[.int .u8 mi, .slice q n cap] 27)).alloc (.cells #[.int .u8 0, .slice none 0 0] 27) := ⟨_, rfl⟩
 have BB := hid (show Below w.heap.size w W from hW ▸ ((Below.refl _ _).alloc (Nat.le_refl _) _).alloc (by rw [World.size_alloc]; omega) _)
 have WSH := hid (show W.heap.size = w.heap.size + 2 by rw [hW, World.size_alloc, World.size_alloc])
 have P0 := hid (show W.heap[w.heap.size]? = some (.cells #[.int .u8 mi, .slice q n cap] 27 (0, 0)) by rw [hW, heap_old16])
 have P1 := hid (show W.heap[w.heap.size + 1]? = some (.cells #[.int .u8 0, .slice none 0 0] 27 (0, 0)) by rw [hW, heap_new16])
 have HMA := hid (fun (V : World) (b : Below W.heap.size W V) => may_c m q n cap L V hmm hl hn ha (h.on (thn16 BB.out b)))
 have HCO := hid (fun (V : World) (b : Below W.heap.size W V) => copied_c m q n cap L V hl hn (h.on (thn16 BB.out b)))
 unfold NewL2 lsV at HCO
 unfold lsV at HMA
 rw [← hmi] at HMA HCO
 have HWW := hid hW
 have HL := hid hl
 rw [hm] at HMA
 rw [← hmi]
 clear hG h hl hmi hm hW
 go_enter Tryz.func152, Tryz.ntmps152
 go_wp2_with (first
  | (go_at_call 57
     rw [← HWW.out]
     ((with_reducible refine (HMA.out _ (Below.refl _ _)).mono ?_); rintro e v1 ⟨rfl, b1⟩)
     have B1 := hid b1
     have z0 := (cell_of_row v1 w.heap.size 0 _ _ (0, 0) ((b1.block _ (by have := WSH.out; omega)).trans P0.out)).trans (show _ = some (Value.int .u8 mi) from rfl)
     have z1 := (cell_of_row v1 w.heap.size 1 _ _ (0, 0) ((b1.block _ (by have := WSH.out; omega)).trans P0.out)).trans (show _ = some (Value.slice q n cap) from rfl)
     skip
     clear b1)
  | (go_at_call 173
     ((with_reducible refine (HCO.out _ B1.out).mono ?_); rintro e v4 ⟨q4, n4, c4, rfl, hn4, o4, b4⟩)
     have B4 := hid (thn16 B1.out b4)
     have R4 := hid ((B4.out.block (w.heap.size + 1) (by have := WSH.out; omega)).trans P1.out)
     have N4 := hid hn4
     have ⟨hl6, hb6⟩ := retL16 R4.out (thn16 BB.out B4.out) (by omega : w.heap.size ≤ w.heap.size + 1) mi q4 n4 c4
     have O6 := hid (owns_low16 (own_box16 R4.out (by decide) o4 [.int .u8 mi, .slice q4 n4 c4]) (show w.heap.size ≤ v1.heap.size by have := WSH.out; have := B1.out.size; omega))
     clear hn4 o4 b4)
  | ((with_reducible show wpList _ _ _ (⟨none, .store 27 (.tmp 6) (.tmp 23), _, _, _, _⟩ :: _) _ _)
     refine wpList_store_mid rfl 27 (.tmp 6) (.tmp 23) rfl (w.heap.size + 1) 0 #[.int .u8 mi, .slice q4 n4 c4] rfl rfl (there16 R4.out) HIN.out (one16 _ _ _ _) ?_
     show wpList _ _ _ _ _ (v4.setCells (w.heap.size + 1) 0 [.int .u8 mi, .slice q4 n4 c4])
     generalize v4.setCells (w.heap.size + 1) 0 [.int .u8 mi, .slice q4 n4 c4] = w6 at hl6 hb6 O6 ⊢))
 (try simp only [Exit.inBlock, Exit.then])
 refine bodyPost_ret (v := .tuple #[.agg #[.int .u8 mi, .slice q4 n4 c4], .slice none 0 0]) (results_two15 Tryz.results152 rfl rfl hl6) rfl ⟨q4, n4, c4, rfl, N4.out, O6.out, hb6⟩
set_option maxHeartbeats 8000000 in
theorem step_nil (m : Nat) (q : Option Addr) (n cap : Nat) (L : List Cl) (v : ByteArray) (sfx : Bool) (w : World) (hG : GN w) (hmm : m < 256) (hl : n = L.length) (hn : n ≤ 100000) (ha : ∀ e ∈ L, e.2 < 4294967296) (hv : v.size ≤ 1000) (h : LsAt w q L) (hm : mayR knownR m L = true) (h0 : wdL v.data.toList = []) : Calls Tryz.prog 152 #[lsV m q n cap, .string v, .bool sfx] w fun e w' => e = .returned (.tuple #[lsV 0 none 0 0, .slice none 0 0]) ∧ Below w.heap.size w w' := by
 have HIN := hid (show (Tryz.prog.info? 27).map (·.size) = some 2 by kernel_rfl)
 unfold lsV
 obtain ⟨mi, hmi⟩ : ∃ x : Int, x = (m : Nat) := ⟨_, rfl⟩
 obtain ⟨W, hW⟩ : ∃ W, W = (w.alloc (.cells #[.int .u8 mi, .slice q n cap] 27)).alloc (.cells #[.int .u8 0, .slice none 0 0] 27) := ⟨_, rfl⟩
 have BB := hid (show Below w.heap.size w W from hW ▸ ((Below.refl _ _).alloc (Nat.le_refl _) _).alloc (by rw [World.size_alloc]; omega) _)
 have WSH := hid (show W.heap.size = w.heap.size + 2 by rw [hW, World.size_alloc, World.size_alloc])
 have P0 := hid (show W.heap[w.heap.size]? = some (.cells #[.int .u8 mi, .slice q n cap] 27 (0, 0)) by rw [hW, heap_old16])
 have P1 := hid (show W.heap[w.heap.size + 1]? = some (.cells #[.int .u8 0, .slice none 0 0] 27 (0, 0)) by rw [hW, heap_new16])
 have HMA := hid (fun (V : World) (b : Below W.heap.size W V) => may_c m q n cap L V hmm hl hn ha (h.on (thn16 BB.out b)))
 have HCO := hid (fun (V : World) (b : Below W.heap.size W V) => copied_c m q n cap L V hl hn (h.on (thn16 BB.out b)))
 unfold NewL2 lsV at HCO
 unfold lsV at HMA
 rw [← hmi] at HMA HCO
 have HWW := hid hW
 have HL := hid hl
 rw [hm] at HMA
 rw [← hmi]
 have HWO := hid (fun (V : World) => words_c v V (by omega))
 rw [h0] at HWO
 clear hG h hl hmi hm h0 HCO hW
 go_enter Tryz.func152, Tryz.ntmps152
 go_wp2_with (first
  | (go_at_call 57
     rw [← HWW.out]
     ((with_reducible refine (HMA.out _ (Below.refl _ _)).mono ?_); rintro e v1 ⟨rfl, b1⟩)
     have B1 := hid b1
     have z0 := (cell_of_row v1 w.heap.size 0 _ _ (0, 0) ((b1.block _ (by have := WSH.out; omega)).trans P0.out)).trans (show _ = some (Value.int .u8 mi) from rfl)
     have z1 := (cell_of_row v1 w.heap.size 1 _ _ (0, 0) ((b1.block _ (by have := WSH.out; omega)).trans P0.out)).trans (show _ = some (Value.slice q n cap) from rfl)
     skip
     clear b1)
  | (go_at_call 154
     ((with_reducible refine (HWO.out _).mono ?_); rintro e v2 ⟨q2, c2, rfl, o2, b2⟩)
     have B2 := hid (thn16 B1.out b2)
     have R4 := hid ((B2.out.block (w.heap.size + 1) (by have := WSH.out; omega)).trans P1.out)
     have ⟨hl6, hb6⟩ := retL16 R4.out (thn16 BB.out B2.out) (by omega : w.heap.size ≤ w.heap.size + 1) 0 none 0 0
     clear o2 b2)
  | ((with_reducible show wpList _ _ _ (⟨none, .store 27 (.tmp 6) (.tmp 28), _, _, _, _⟩ :: _) _ _)
     refine wpList_store_mid rfl 27 (.tmp 6) (.tmp 28) rfl (w.heap.size + 1) 0 #[.int .u8 0, .slice none 0 0] rfl rfl (there16 R4.out) HIN.out (one16 _ _ _ _) ?_
     show wpList _ _ _ _ _ (v2.setCells (w.heap.size + 1) 0 [.int .u8 0, .slice none 0 0])
     generalize v2.setCells (w.heap.size + 1) 0 [.int .u8 0, .slice none 0 0] = w6 at hl6 hb6 ⊢))
 (try simp only [Exit.inBlock, Exit.then])
 refine bodyPost_ret (v := .tuple #[.agg #[.int .u8 0, .slice none 0 0], .slice none 0 0]) (results_two15 Tryz.results152 rfl rfl hl6) rfl ⟨rfl, hb6⟩
end Go.Proofs.YtlenjfodjkhpmaaGreatDoor
