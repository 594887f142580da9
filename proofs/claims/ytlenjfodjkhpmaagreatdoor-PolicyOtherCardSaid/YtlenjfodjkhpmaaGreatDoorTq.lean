/- What the document's own Step returns, of any list; what its Fold returns. Conditions: a list of at most a million calls that can be read; values of at most 1,000 bytes, at most 100. A list of calls that came in. No condition. -/
import Derived.Test.YtlenjfodjkhpmaaGreatDoorF1
import Derived.Test.YtlenjfodjkhpmaaGreatDoorGf
import Derived.Test.YtlenjfodjkhpmaaGreatDoorTg
import Derived.StillTailTactics
import Derived.Deep.DeepCutAuto
import Derived.Maps.AppendAt
import Derived.Deep.Slices
import Derived.Deep.Fields
import Derived.ChangeSame
import Derived.Lib.SmallJoins
namespace Go.Proofs.YtlenjfodjkhpmaaGreatDoor
set_option maxRecDepth 100000
open Go.RowKit
set_option linter.unusedVariables false
set_option linter.unusedSimpArgs false
attribute [local go_sem ↓] Go.wp_at_zero Go.wp_at_succ

def grpX (n : ByteArray) : Int × List ByteArray := (expE n, expL n)
theorem expX_dec : (grpT.all fun e => decide (expE e.1 ≠ 0) || (expL e.1).all knownR) = true := by kernel_rfl
theorem memIn_mem {s : ByteArray} : ∀ {l : List Gp}, memIn l s ≠ [] → ∃ e ∈ l, e.1 = s
 | [], h => absurd rfl h
 | e :: r, h => by
   by_cases c : e.1 = s
   ·exact ⟨e, List.mem_cons_self .., c⟩
   ·have : memIn (e :: r) s = memIn r s := by
     show (if e.1 = s then e.2 else memIn r s) = _
     rw [if_neg c]
    rw [this] at h
    obtain ⟨e', h1, h2⟩ := memIn_mem h
    exact ⟨e', List.mem_cons_of_mem _ h1, h2⟩
theorem grpX_known (n : ByteArray) (h : (grpX n).1 = 0) : ∀ t ∈ (grpX n).2, knownR t = true := by
 have h0 : memR n ≠ [] := fun e => by
  have : expE n = 110 := by unfold expE; rw [if_pos e]
  have h2 : expE n = 0 := h
  rw [this] at h2; cases h2
 obtain ⟨e, he, rfl⟩ := memIn_mem h0
 have := List.all_eq_true.1 expX_dec e he
 rw [Bool.or_eq_true, decide_eq_true_eq] at this
 rcases this with h1 | h1
 ·exact absurd h h1
 ·exact fun t ht => List.all_eq_true.1 h1 t ht
theorem rise16 : ∀ k, k < 39 → lt16 (nmT k) (nmT (k + 1)) = true := by decide +kernel
theorem rise16_lt : ∀ (d k : Nat), k + d < 39 → lt16 (nmT k) (nmT (k + d + 1)) = true
 | 0, k, h => rise16 k h
 | d + 1, k, h => lt16_trans (rise16_lt d k (by omega)) (rise16 (k + d + 1) (by omega))
theorem idx_lt {i j : Nat} (hi : i < 40) (hj : j < 40) (h : lt16 (nmT i) (nmT j) = true) : i < j := by
 rcases Nat.lt_or_ge i j with h1 | h1
 ·exact h1
 ·rcases Nat.lt_or_ge j i with h2 | h2
  ·have := rise16_lt (i - j - 1) j (by omega)
   rw [show j + (i - j - 1) + 1 = i by omega] at this
   exact (lt16_asymm h this).elim
  ·rw [show i = j by omega, lt16_irrefl] at h; cases h
theorem first_some16 {p : Nat → Bool} : ∀ {n j : Nat}, firstT p n = some j → j < n ∧ p j = true
 | n + 1, j, h => by
   unfold firstT at h
   cases hf : firstT p n with
   | some i =>
    rw [hf] at h
    obtain rfl : i = j := Option.some.inj h
    have := first_some16 hf
    exact ⟨by omega, this.2⟩
   | none =>
    rw [hf] at h
    by_cases hp : p n = true
    ·simp only [hp, if_true] at h
     obtain rfl : n = j := Option.some.inj h
     exact ⟨by omega, hp⟩
    ·simp only [hp] at h
     cases h
theorem known_at {s : ByteArray} (h : knownR s = true) : ∃ j, j < 40 ∧ nmT j = s := by
 unfold knownR at h
 obtain ⟨j, hj⟩ := Option.isSome_iff_exists.1 h
 have := first_some16 hj
 exact ⟨j, this.1, of_decide_eq_true this.2⟩
theorem asc_le : ∀ (L : List Cl) (i : Nat), Asc16 L → (∀ c ∈ L, knownR c.1 = true) → (∀ c ∈ L.head?, ∀ j, j < 40 → nmT j = c.1 → i ≤ j) → L.length + i ≤ 40 ∨ L = []
 | [], i, _, _, _ => Or.inr rfl
 | c :: r, i, h, hk, hh => by
   obtain ⟨j, hj, e⟩ := known_at (hk c (List.mem_cons_self ..))
   have hij := hh c rfl j hj e
   obtain ⟨h1, h2⟩ := List.pairwise_cons.1 h
   refine Or.inl ?_
   rcases asc_le r (j + 1) h2 (fun d hd => hk d (List.mem_cons_of_mem _ hd)) (fun d hd j' hj' e' => by
    have := h1 d (List.mem_of_mem_head? hd)
    rw [← e, ← e'] at this
    exact idx_lt hj hj' this) with h3 | h3
   ·rw [List.length_cons]; omega
   ·rw [h3, List.length_cons, List.length_nil]; omega
theorem okl_le {m : Nat} {L : List Cl} (h : Okl knownR m L) : L.length ≤ 40 := by
 rcases asc_le L 0 h.asc (fun c hc => (h.each c hc).1) (fun _ _ _ _ _ => Nat.zero_le _) with h1 | h1
 ·omega
 ·rw [h1]; exact Nat.zero_le _
theorem act_lt {a : Nat} (h : actOk a = true) : a < 4294967296 := by
 unfold actOk at h
 rw [Bool.or_eq_true, Bool.or_eq_true, Bool.and_eq_true, decide_eq_true_eq, decide_eq_true_eq, decide_eq_true_eq, decide_eq_true_eq] at h
 omega
theorem okl_act {m : Nat} {L : List Cl} (h : Okl knownR m L) : ∀ c ∈ L, c.2 < 4294967296 := fun c hc => act_lt (h.each c hc).2
theorem okl_do {K : ByteArray → Bool} {m : Nat} {L : List Cl} (h : Okl K m L) (hm : m ≠ 0) {o : Ef} (ho : ∀ a, o.2 = some a → K o.1 = true ∧ actOk a = true) : Okl K m (doE L o) :=
 ⟨h.mode, fun e => absurd e hm, asc_do h.asc o, fun c hc => by
   rcases mem_do hc with h1 | h1
   ·exact h.each c h1
   ·have := ho c.2 (by rw [h1])
    rw [h1] at this; exact this⟩
theorem okl_mode {K : ByteArray → Bool} {m : Nat} {L : List Cl} (h : Okl K m L) (t : Bool) : Okl K (modeF m t) L :=
 ⟨(mode_le h.mode t).1, fun e => absurd e (mode_le h.mode t).2, h.asc, h.each⟩
def nteS (x : Int × ByteArray) : Nte := ⟨⟨#[]⟩, 0, x.1, x.2⟩
def stepA (sfx : Bool) (v : ByteArray) (s : Nat × List Cl) : (Nat × List Cl) × List (Int × ByteArray) := if mayR knownR s.1 s.2 = true then stepC knownR grpX sfx v s else (s, [])
structure SW (I : Option Addr → Nat → Nat → List Cl → Prop) (w : World) (mF : Nat) (vW : Value) (nW : Nat) (WL : List (List UInt8)) (L : List Cl) (q : Option Addr) (n c : Nat) (N : List Nte) (vN : Value) (W : World) : Prop where
 bel : Below w.heap.size w W
 box : W.heap[w.heap.size]? = some (.cells #[.int .u8 (mF : Nat), .slice q n c] 27 (0, 0))
 res : W.heap[w.heap.size + 1]? = some (.cells #[.int .u8 0, .slice none 0 0] 27 (0, 0))
 len : n = L.length
 cur : (I q n c L ∧ LsAt w q L) ∨ W.ownsRow w.heap.size 67 2 (.slice q n c) n (rowC encC L)
 nts : W.ownsRow w.heap.size 57 4 vN N.length (rowC encN N)
 wds : W.ownsRow w.heap.size 9 1 vW nW (sL WL)
section
variable {I : Option Addr → Nat → Nat → List Cl → Prop} {w : World} {mF : Nat} {vW : Value} {nW : Nat} {WL : List (List UInt8)} {L : List Cl} {q : Option Addr} {n c : Nat} {N : List Nte} {vN : Value} {W : World}
theorem SW.ls (h : SW I w mF vW nW WL L q n c N vN W) : LsAt W q L := by
 rcases h.cur with h1 | h1
 ·exact h1.2.on h.bel
 ·exact LsAt.of_own h1 h.len
theorem SW.lt (h : SW I w mF vW nW WL L q n c N vN W) : w.heap.size + 1 < W.heap.size := (Array.getElem?_eq_some_iff.1 h.res).1
theorem SW.x0 (h : SW I w mF vW nW WL L q n c N vN W) : W.cell? ⟨w.heap.size, 0, none⟩ = some (.int .u8 (mF : Nat)) := (cell_of_row W w.heap.size 0 _ _ (0, 0) h.box).trans rfl
theorem SW.x1 (h : SW I w mF vW nW WL L q n c N vN W) : W.cell? ⟨w.heap.size, 1, none⟩ = some (.slice q n c) := (cell_of_row W w.heap.size 1 _ _ (0, 0) h.box).trans rfl
theorem SW.on {W' : World} (h : SW I w mF vW nW WL L q n c N vN W) (b : Below W.heap.size W W') : SW I w mF vW nW WL L q n c N vN W' :=
 have hl := h.lt
 ⟨thn16 h.bel b, (b.block _ (by omega)).trans h.box, (b.block _ (by omega)).trans h.res, h.len, h.cur.imp id (fun h1 => owns_on16 h1 b), owns_on16 h.nts b, owns_on16 h.wds b⟩
theorem SW.keep (h : SW I w mF vW nW WL L q n c N vN W) {wA : World} (hg : W.grownBy wA vN.ownBlock) {k : Nat} {cs : Array Value} {t : TypeId} {fz : Nat × Nat} (hk : W.heap[k]? = some (.cells cs t fz)) (ht : t ≠ 57) : wA.heap[k]? = some (.cells cs t fz) := by
 refine (hg.block k (Array.getElem?_eq_some_iff.1 hk).1 (fun e => ?_)).trans hk
 rcases h.nts.2 with ⟨hv, _⟩ | ⟨g, cap, cur, hv, hB, hg2, _⟩
 ·rw [hv] at e; cases e
 ·rw [hv] at e
  have e2 : k = g := Option.some.inj e
  subst e2
  rw [hk] at hg2
  injection hg2 with hg2
  injection hg2 with _ e3 _
  exact ht e3
theorem SW.note (h : SW I w mF vW nW WL L q n c N vN W) {wA : World} {v' : Value} {N' : List Nte} (hg : W.grownBy wA vN.ownBlock) (hO : wA.ownsRow w.heap.size 57 4 v' N'.length (rowC encN N')) : SW I w mF vW nW WL L q n c N' v' wA :=
 have hl := h.lt
 ⟨h.bel.grown hg (by omega) (fun k e => (h.nts.lt k e).1), h.keep hg h.box (by decide), h.keep hg h.res (by decide), h.len, h.cur.imp id (fun h1 => owns_same16 h1 fun g cs fz _ hk => h.keep hg hk (by decide)), hO, owns_same16 h.wds fun g cs fz _ hk => h.keep hg hk (by decide)⟩
theorem SW.off (h : SW I w mF vW nW WL L q n c N vN W) {k : Nat} {cs : Array Value} {t : TypeId} {fz : Nat × Nat} (hk : W.heap[k]? = some (.cells cs t fz)) (ht : t ≠ 27) : k ≠ w.heap.size := fun e => by
 subst e
 rw [h.box] at hk
 injection hk with hk
 injection hk with _ e _
 exact ht e.symm
theorem SW.list (h : SW I w mF vW nW WL L q n c N vN W) {q' : Option Addr} {n' c' : Nat} {L' : List Cl} (hl : n' = L'.length) (hO : W.ownsRow w.heap.size 67 2 (.slice q' n' c') n' (rowC encC L')) :
 SW I w mF vW nW WL L' q' n' c' N vN (W.setCells w.heap.size 0 [.int .u8 (mF : Nat), .slice q' n' c']) :=
 ⟨below_setCells16 (Nat.le_refl _) _ _ _ h.bel, by
   have hb := h.box
   simp [World.setCells, World.setCell, Array.getElem?_modify, hb], (heap_setCells16 W _ _ (by omega) _ _).trans h.res, hl, Or.inr (owns_same16 hO fun g cs fz _ hk => (heap_setCells16 W _ _ (h.off hk (by decide)) _ _).trans hk),
   owns_same16 h.nts fun g cs fz _ hk => (heap_setCells16 W _ _ (h.off hk (by decide)) _ _).trans hk, owns_same16 h.wds fun g cs fz _ hk => (heap_setCells16 W _ _ (h.off hk (by decide)) _ _).trans hk⟩
theorem SW.strs (h : SW I w mF vW nW WL L q n c N vN W) {v : Value} {l : List ByteArray} (hs : StrsAt W v l) (x y : Value) : StrsAt (W.setCells w.heap.size 0 [x, y]) v l := by
 obtain ⟨q2, c2, e, hr⟩ := hs
 refine ⟨q2, c2, e, fun k s hk => ?_⟩
 obtain ⟨g, o, e2, hc⟩ := hr k s hk
 refine ⟨g, o, e2, ?_⟩
 have hg : g ≠ w.heap.size := fun e => by
  subst e
  rw [cell_of_row W _ _ _ _ (0, 0) h.box] at hc
  match o + k, hc with
  | 0, hc => exact absurd (Option.some.inj hc) (by intro e; cases e)
  | 1, hc => exact absurd (Option.some.inj hc) (by intro e; cases e)
  | j + 2, hc => simp at hc
 exact (World.cell?_of_block (heap_setCells16 W _ _ hg _ _)).trans hc
end
theorem names_group {nm : ByteArray} (h : nm.data.toList.head? = some 64) : namesF knownR grpX nm = (expE nm, expL nm) := by unfold namesF; rw [if_pos h]; rfl
theorem names_call {nm : ByteArray} (h : ¬ nm.data.toList.head? = some 64) (hk : knownR nm = true) : namesF knownR grpX nm = (0, [nm]) := by unfold namesF; rw [if_neg h, if_pos hk]
theorem names_none {nm : ByteArray} (h : ¬ nm.data.toList.head? = some 64) (hk : knownR nm = false) : namesF knownR grpX nm = (90, []) := by unfold namesF; rw [if_neg h, if_neg (by rw [hk]; exact Bool.noConfusion)]
theorem exp_le16 : (grpT.all fun e => decide ((expL e.1).length ≤ 100)) = true := by kernel_rfl
theorem expL_le (n : ByteArray) : (expL n).length ≤ 100 := by
 by_cases h : memR n = []
 ·unfold expL; rw [if_pos (Or.inl h)]; exact Nat.zero_le _
 ·obtain ⟨e, he, rfl⟩ := memIn_mem h
  exact of_decide_eq_true (List.all_eq_true.1 exp_le16 e he)
theorem names_le (nm : ByteArray) : (namesF knownR grpX nm).2.length ≤ 100 := by
 by_cases h : nm.data.toList.head? = some 64
 ·unfold namesF; rw [if_pos h]; exact expL_le nm
 ·cases hk : knownR nm with
  | true => rw [names_call h hk]; show 1 ≤ 100; omega
  | false => rw [names_none h hk]; exact Nat.zero_le _
set_option maxRecDepth 100000
open Go.RowKit
set_option linter.unusedVariables false
set_option linter.unusedSimpArgs false
attribute [local go_sem ↓] Go.wp_at_zero Go.wp_at_succ

abbrev InL (q0 : Option Addr) (n0 c0 : Nat) (L0 : List Cl) : Option Addr → Nat → Nat → List Cl → Prop := fun q n c L => q = q0 ∧ n = n0 ∧ c = c0 ∧ L = L0
abbrev StepL (q0 : Option Addr) (n0 c0 : Nat) (L0 : List Cl) (w w' : World) (e : Ending) (r : (Nat × List Cl) × List (Int × ByteArray)) : Prop := ∃ q n c vN, e = .returned (.tuple #[lsV r.1.1 q n c, vN]) ∧ n = r.1.2.length ∧ ((InL q0 n0 c0 L0 q n c r.1.2 ∧ LsAt w q r.1.2) ∨ r.1.2 = [] ∨ w'.ownsRow w.heap.size 67 2 (.slice q n c) n (rowC encC r.1.2)) ∧ w'.ownsRow w.heap.size 57 4 vN r.2.length (rowC encN (r.2.map nteS)) ∧ Below w.heap.size w w'
theorem StepL.ls {q0 : Option Addr} {n0 c0 : Nat} {L0 : List Cl} {w w' : World} {q : Option Addr} {n c : Nat} {L : List Cl} (h : (InL q0 n0 c0 L0 q n c L ∧ LsAt w q L) ∨ L = [] ∨ w'.ownsRow w.heap.size 67 2 (.slice q n c) n (rowC encC L)) (hl : n = L.length) (b : Below w.heap.size w w') : LsAt w' q L := by
 rcases h with h | h | h
 ·exact h.2.on b
 ·rw [h]; intro k c hk; simp at hk
 ·exact LsAt.of_own h hl
theorem refWords_le {v : ByteArray} (hv : v.size ≤ 1000) : (wdL v.data.toList).length ≤ 1000 := Nat.le_trans (wdL_len _) (by simpa using hv)
set_option maxRecDepth 100000
open Go.RowKit
set_option linter.unusedVariables false
set_option linter.unusedSimpArgs false
attribute [local go_sem ↓] Go.wp_at_zero Go.wp_at_succ

theorem nts_next (sfx T : Bool) {WL : List (List UInt8)} {i : Nat} {x : List UInt8} (h : WL[i]? = some x) : ntsF knownR grpX sfx T (WL.take (i + 1)) = ntsF knownR grpX sfx T (WL.take i) ++ (wordF knownR grpX sfx T x).1 := by
 unfold ntsF
 rw [List.take_add_one, h, List.flatMap_append]
 simp
theorem ops_next (sfx T : Bool) (mF : Nat) {WL : List (List UInt8)} {i : Nat} {x : List UInt8} (h : WL[i]? = some x) : opsF knownR grpX sfx T mF (WL.take (i + 1)) = opsF knownR grpX sfx T mF (WL.take i) ++ (wordF knownR grpX sfx T x).2.map (opF mF T) := by
 unfold opsF
 rw [List.take_add_one, h, List.flatMap_append, List.map_append]
 simp
theorem word_nts_le (sfx T : Bool) (x : List UInt8) : (wordF knownR grpX sfx T x).1.length ≤ 1 := by
 unfold wordF
 split
 ·exact Nat.le_refl _
 ·split
  ·exact Nat.le_refl _
  ·split
   ·exact Nat.le_refl _
   ·exact Nat.zero_le _
theorem nts_le (sfx T : Bool) : ∀ (WL : List (List UInt8)), (ntsF knownR grpX sfx T WL).length ≤ WL.length
 | [] => Nat.le_refl _
 | x :: r => by
   have h1 := word_nts_le sfx T x
   have h2 := nts_le sfx T r
   unfold ntsF at h2 ⊢
   rw [List.flatMap_cons, List.length_append, List.length_cons]
   omega
theorem doAll_app (l : List Cl) (a b : List Ef) : doAll l (a ++ b) = doAll (doAll l a) b := List.foldl_append
theorem bs_cut60 (x : List UInt8) : (bs x).extract 0 60 = bs (x.take 60) := by
 rw [ext_bs, bs_list]; rfl
theorem box_set16 {V : World} {b : Nat} {x y u : Value} (h : V.heap[b]? = some (.cells #[x, u] 27 (0, 0))) : (V.setCell ⟨b, 0, none⟩ y).heap[b]? = some (.cells #[y, u] 27 (0, 0)) := by
 simp [World.setCell, Array.getElem?_modify, h]
theorem le_sum16 {a : Nat} : ∀ {l : List Nat}, a ∈ l → a ≤ l.sum
 | b :: r, h => by
   rw [List.sum_cons]
   rcases List.mem_cons.1 h with rfl | h
   ·omega
   ·have := le_sum16 h; omega
set_option maxRecDepth 100000
open Go.RowKit
set_option linter.unusedVariables false
set_option linter.unusedSimpArgs false
attribute [local go_sem ↓] Go.wp_at_zero Go.wp_at_succ

theorem stepC_nts_le (sfx : Bool) (v : ByteArray) (s : Nat × List Cl) (hv : v.size ≤ 1000) : (stepC knownR grpX sfx v s).2.length ≤ 1000 := by
 unfold stepC
 split
 ·exact Nat.zero_le _
 ·refine Nat.le_trans (nts_le sfx _ _) (Nat.le_trans (wdL_len _) ?_)
  have : (turnR v).1.data.toList.length = (turnR v).1.size := by simp
  rw [this]
  unfold turnR
  split
  ·show (bs (v.data.toList.drop 1)).size ≤ 1000
   rw [bs_size, List.length_drop]
   have : v.data.toList.length = v.size := by simp
   omega
  ·exact hv
theorem stepA_ok {sfx : Bool} {v : ByteArray} {s : Nat × List Cl} (h : Okl knownR s.1 s.2) : stepA sfx v s = stepC knownR grpX sfx v s := by
 unfold stepA
 rw [if_pos (may_iff.2 h)]
section
variable {P : Program} {w : World}
end
abbrev FoldL (w w' : World) (e : Ending) (r : (Nat × List Cl) × List (Int × ByteArray)) : Prop := ∃ q n c vN, e = .returned (.tuple #[lsV r.1.1 q n c, vN]) ∧ n = r.1.2.length ∧ (r.1.2 = [] ∨ w'.ownsRow w.heap.size 67 2 (.slice q n c) n (rowC encC r.1.2)) ∧ w'.ownsRow w.heap.size 57 4 vN r.2.length (rowC encN (r.2.map nteS)) ∧ Below w.heap.size w w'
theorem FoldL.ls {w w' : World} {q : Option Addr} {n c : Nat} {L : List Cl} (h : L = [] ∨ w'.ownsRow w.heap.size 67 2 (.slice q n c) n (rowC encC L)) (hl : n = L.length) : LsAt w' q L := by
 rcases h with h | h
 ·rw [h]; intro k c hk; simp at hk
 ·exact LsAt.of_own h hl
structure FW (w : World) (m : Nat) (L : List Cl) (q : Option Addr) (n c : Nat) (N : List Nte) (vN : Value) (W : World) : Prop where
 bel : Below w.heap.size w W
 res : W.heap[w.heap.size]? = some (.cells #[.int .u8 0, .slice none 0 0] 27 (0, 0))
 box : W.heap[w.heap.size + 1]? = some (.cells #[.int .u8 (m : Nat), .slice q n c] 27 (0, 0))
 len : n = L.length
 cur : L = [] ∨ W.ownsRow w.heap.size 67 2 (.slice q n c) n (rowC encC L)
 nts : W.ownsRow w.heap.size 57 4 vN N.length (rowC encN N)
section
variable {w : World} {m : Nat} {L : List Cl} {q : Option Addr} {n c : Nat} {N : List Nte} {vN : Value} {W : World}
theorem FW.ls (h : FW w m L q n c N vN W) : LsAt W q L := by
 rcases h.cur with h1 | h1
 ·rw [h1]; intro k c hk; simp at hk
 ·exact LsAt.of_own h1 h.len
theorem FW.lt (h : FW w m L q n c N vN W) : w.heap.size + 1 < W.heap.size := (Array.getElem?_eq_some_iff.1 h.box).1
theorem FW.x0 (h : FW w m L q n c N vN W) : W.cell? ⟨w.heap.size + 1, 0, none⟩ = some (.int .u8 (m : Nat)) := (cell_of_row W (w.heap.size + 1) 0 _ _ (0, 0) h.box).trans rfl
theorem FW.x1 (h : FW w m L q n c N vN W) : W.cell? ⟨w.heap.size + 1, 1, none⟩ = some (.slice q n c) := (cell_of_row W (w.heap.size + 1) 1 _ _ (0, 0) h.box).trans rfl
theorem FW.on {W' : World} (h : FW w m L q n c N vN W) (b : Below W.heap.size W W') : FW w m L q n c N vN W' :=
 have hl := h.lt
 ⟨thn16 h.bel b, (b.block _ (by omega)).trans h.res, (b.block _ (by omega)).trans h.box, h.len, h.cur.imp id (fun h1 => owns_on16 h1 b), owns_on16 h.nts b⟩
theorem ne_type16 {W : World} {k k' : Nat} {cs cs' : Array Value} {t t' : TypeId} {fz fz' : Nat × Nat} (h : W.heap[k]? = some (.cells cs t fz)) (h' : W.heap[k']? = some (.cells cs' t' fz')) (ht : t ≠ t') : k ≠ k' := fun e => by
 subst e
 rw [h] at h'
 injection h' with h'
 injection h' with _ e _
 exact ht e
theorem own_box16 {b : Nat} {cs : Array Value} {fz : Nat × Nat} (hb : W.heap[b]? = some (.cells cs 27 fz)) {B s k : Nat} {t : TypeId} (ht : t ≠ 27) {u : Value} {xs : List Value} (ho : W.ownsRow B t s u k xs) (l : List Value) : (W.setCells b 0 l).ownsRow B t s u k xs := owns_same16 ho fun g cs fz _ hk => (heap_setCells16 W _ _ (ne_type16 hk hb ht) _ _).trans hk
theorem FW.next (h : FW w m L q n c N vN W) {m' : Nat} {L' : List Cl} {q' : Option Addr} {n' c' : Nat} (hl : n' = L'.length) (hc : L' = [] ∨ W.ownsRow w.heap.size 67 2 (.slice q' n' c') n' (rowC encC L')) :
 FW w m' L' q' n' c' N vN (W.setCells (w.heap.size + 1) 0 [.int .u8 (m' : Nat), .slice q' n' c']) :=
 ⟨below_setCells16 (by omega) _ _ _ h.bel, (heap_setCells16 W _ _ (by omega) _ _).trans h.res, by
   have hb := h.box
   simp [World.setCells, World.setCell, Array.getElem?_modify, hb], hl, hc.imp id (fun h1 => own_box16 h.box (by decide) h1 _), own_box16 h.box (by decide) h.nts _⟩
theorem FW.note (h : FW w m L q n c N vN W) {wA : World} {v' : Value} {N' : List Nte} (hg : W.grownBy wA vN.ownBlock) (hO : wA.ownsRow w.heap.size 57 4 v' N'.length (rowC encN N')) : FW w m L q n c N' v' wA := by
 have hl := h.lt
 have keep : ∀ {k : Nat} {cs : Array Value} {t : TypeId} {fz : Nat × Nat}, W.heap[k]? = some (.cells cs t fz) → t ≠ 57 → wA.heap[k]? = some (.cells cs t fz) := fun {k} {cs} {t} {fz} hk ht => by
  refine (hg.block k (Array.getElem?_eq_some_iff.1 hk).1 (fun e => ?_)).trans hk
  rcases h.nts.2 with ⟨hv, _⟩ | ⟨g, cap, cur, hv, hB, hg2, _⟩
  ·rw [hv] at e; cases e
  ·rw [hv] at e
   have e2 : k = g := Option.some.inj e
   exact ne_type16 hk hg2 ht e2
 exact ⟨h.bel.grown hg (by omega) (fun k e => (h.nts.lt k e).1), keep h.res (by decide), keep h.box (by decide), h.len, h.cur.imp id (fun h1 => owns_same16 h1 fun g cs fz _ hk => keep hk (by decide)), hO⟩
end
set_option maxRecDepth 100000
open Go.ChangeShapes Go.WideShapes Go.ChangeAt Go.RowKit
set_option linter.unusedVariables false
set_option linter.unusedSimpArgs false

section
variable {H : Type} {enc : TypeId × Value → H} {P : Program} {w : World} {base : Nat} {spare : Nat → Bool} {held : Bool}
open Go.Deep in
theorem open_fields16 {t e : TypeId} {fs : Array Field} {fuel : Nat} {cs : List Value} {x : DataW H × List MemPlace} (ht : P.underlying t = some (.slice e)) (he : P.underlying e = some (.struct fs))
 (hone : oneCellFields P fs = true) (hC : P.cellsOf e = fs.size) (h : DataW.trod enc P w base spare held fuel t cs = some x) :
 (cs = [.slice none 0 0] ∧ x = (.nil, [])) ∨
 ∃ (a : Addr) (len cap m : Nat), cs = [.slice (some a) len cap] ∧ len ≤ cap ∧ cap ≤ maxLen ∧ m = (if spare a.block then cap else len) ∧
   ∀ i, i < m → ∀ (j : Nat) (f : Field), fs[j]? = some f → ∃ (v : Value) (y : DataW H × List MemPlace) (n : Nat), w.cell? (a.add (i * fs.size + j)) = some v ∧ DataW.trod enc P w base spare held n f.type [v] = some y := by
 rcases open_slice ht h with h0 | ⟨a, len, cap, m, n, D, Pl, hcs, hb, hl, hm, hmm, hx, hi⟩
 ·exact .inl h0
 ·refine .inr ⟨a, len, cap, m, hcs, hl, hm, hmm, fun i him j f hj => ?_⟩
  obtain ⟨cs', hc, ht'⟩ := hi i him
  rw [hC] at hc
  obtain ⟨ys, n', hn', hy, hlen, hyl, hf⟩ := DataW.trod_struct he ht'
  obtain ⟨_, hcl, hat⟩ := World.cells?_some hc
  obtain ⟨ho, hk⟩ := hone_of hone j f hj
  have hjl : j < fs.size := (Array.getElem?_eq_some_iff.1 hj).1
  have hcell := hat j hjl
  have hv : cs'[j]? = some (cs'[j]'(by omega)) := List.getElem?_eq_getElem (by omega)
  have h1 := hf j f hj
  rw [ho, hk] at h1
  have hone' : (cs'.drop j).take 1 = [cs'[j]'(by omega)] := by
   rw [List.drop_eq_getElem_cons (by omega)]
   rfl
  rw [hone'] at h1
  have hys : ys[j]? = some (ys[j]'(by omega)) := List.getElem?_eq_getElem (by omega)
  refine ⟨_, _, n', ?_, h1.trans hys⟩
  rw [← Go.Deep.add_add, hcell, hv]
end
end Go.Proofs.YtlenjfodjkhpmaaGreatDoor
