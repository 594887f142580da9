/- What the document's own Step returns of a list that may be and a value that has words. Condition: a list that can be read, a value of at most 1,000 bytes. -/
import Derived.Test.YtanifiobfbfehaaGreatDoorTl
import Derived.Test.YtanifiobfbfehaaGreatDoorGf
import Derived.Test.YtanifiobfbfehaaGreatDoorKc
import Derived.StillTailTactics
import Derived.Deep.DeepCutAuto
namespace Go.Proofs.YtanifiobfbfehaaGreatDoor
open Go.RowKit
set_option linter.unusedVariables false
set_option linter.unusedSimpArgs false
attribute [local go_sem ↓] Go.wp_at_zero Go.wp_at_succ

/-- What a group stands for. -/
def grpX (n : ByteArray) : Int × List ByteArray := (expE n, expL n)
theorem expX_dec : (grpT.all fun e => decide (expE e.1 ≠ 0) || (expL e.1).all knownR) = true := by kernel_rfl
theorem memIn_mem {s : ByteArray} : ∀ {l : List Gp}, memIn l s ≠ [] → ∃ e ∈ l, e.1 = s
  | [], h => absurd rfl h
  | e :: r, h => by
    by_cases c : e.1 = s
    · exact ⟨e, List.mem_cons_self .., c⟩
    · have : memIn (e :: r) s = memIn r s := by
        show (if e.1 = s then e.2 else memIn r s) = _
        rw [if_neg c]
      rw [this] at h
      obtain ⟨e', h1, h2⟩ := memIn_mem h
      exact ⟨e', List.mem_cons_of_mem _ h1, h2⟩
theorem grpX_known (n : ByteArray) (h : (grpX n).1 = 0) : ∀ t ∈ (grpX n).2, knownR t = true := by
  have h0 : memR n ≠ [] := fun e => by
    have : expE n = 110 := by unfold expE; rw [if_pos e]
    have h2 : expE n = 0 := h
    rw [this] at h2; cases h2
  obtain ⟨e, he, rfl⟩ := memIn_mem h0
  have := List.all_eq_true.1 expX_dec e he
  rw [Bool.or_eq_true, decide_eq_true_eq] at this
  rcases this with h1 | h1
  · exact absurd h h1
  · exact fun t ht => List.all_eq_true.1 h1 t ht
theorem rise16 : ∀ k, k < 39 → lt16 (nmT k) (nmT (k + 1)) = true := by decide +kernel
theorem rise16_lt : ∀ (d k : Nat), k + d < 39 → lt16 (nmT k) (nmT (k + d + 1)) = true
  | 0, k, h => rise16 k h
  | d + 1, k, h => lt16_trans (rise16_lt d k (by omega)) (rise16 (k + d + 1) (by omega))
theorem idx_lt {i j : Nat} (hi : i < 40) (hj : j < 40) (h : lt16 (nmT i) (nmT j) = true) : i < j := by
  rcases Nat.lt_or_ge i j with h1 | h1
  · exact h1
  · rcases Nat.lt_or_ge j i with h2 | h2
    · have := rise16_lt (i - j - 1) j (by omega)
      rw [show j + (i - j - 1) + 1 = i by omega] at this
      exact (lt16_asymm h this).elim
    · rw [show i = j by omega, lt16_irrefl] at h; cases h
theorem first_some16 {p : Nat → Bool} : ∀ {n j : Nat}, firstT p n = some j → j < n ∧ p j = true
  | n + 1, j, h => by
    unfold firstT at h
    cases hf : firstT p n with
    | some i =>
      rw [hf] at h
      obtain rfl : i = j := Option.some.inj h
      have := first_some16 hf
      exact ⟨by omega, this.2⟩
    | none =>
      rw [hf] at h
      by_cases hp : p n = true
      · simp only [hp, if_true] at h
        obtain rfl : n = j := Option.some.inj h
        exact ⟨by omega, hp⟩
      · simp only [hp] at h
        cases h
theorem known_at {s : ByteArray} (h : knownR s = true) : ∃ j, j < 40 ∧ nmT j = s := by
  unfold knownR at h
  obtain ⟨j, hj⟩ := Option.isSome_iff_exists.1 h
  have := first_some16 hj
  exact ⟨j, this.1, of_decide_eq_true this.2⟩
theorem asc_le : ∀ (L : List Cl) (i : Nat), Asc16 L → (∀ c ∈ L, knownR c.1 = true) → (∀ c ∈ L.head?, ∀ j, j < 40 → nmT j = c.1 → i ≤ j) → L.length + i ≤ 40 ∨ L = []
  | [], i, _, _, _ => Or.inr rfl
  | c :: r, i, h, hk, hh => by
    obtain ⟨j, hj, e⟩ := known_at (hk c (List.mem_cons_self ..))
    have hij := hh c rfl j hj e
    obtain ⟨h1, h2⟩ := List.pairwise_cons.1 h
    refine Or.inl ?_
    rcases asc_le r (j + 1) h2 (fun d hd => hk d (List.mem_cons_of_mem _ hd)) (fun d hd j' hj' e' => by
      have := h1 d (List.mem_of_mem_head? hd)
      rw [← e, ← e'] at this
      exact idx_lt hj hj' this) with h3 | h3
    · rw [List.length_cons]; omega
    · rw [h3, List.length_cons, List.length_nil]; omega
theorem okl_le {m : Nat} {L : List Cl} (h : Okl knownR m L) : L.length ≤ 40 := by
  rcases asc_le L 0 h.asc (fun c hc => (h.each c hc).1) (fun _ _ _ _ _ => Nat.zero_le _) with h1 | h1
  · omega
  · rw [h1]; exact Nat.zero_le _
theorem act_lt {a : Nat} (h : actOk a = true) : a < 4294967296 := by
  unfold actOk at h
  rw [Bool.or_eq_true, Bool.or_eq_true, Bool.and_eq_true, decide_eq_true_eq, decide_eq_true_eq, decide_eq_true_eq, decide_eq_true_eq] at h
  omega
theorem okl_act {m : Nat} {L : List Cl} (h : Okl knownR m L) : ∀ c ∈ L, c.2 < 4294967296 := fun c hc => act_lt (h.each c hc).2
theorem okl_do {K : ByteArray → Bool} {m : Nat} {L : List Cl} (h : Okl K m L) (hm : m ≠ 0) {o : Ef} (ho : ∀ a, o.2 = some a → K o.1 = true ∧ actOk a = true) : Okl K m (doE L o) :=
  ⟨h.mode, fun e => absurd e hm, asc_do h.asc o, fun c hc => by
    rcases mem_do hc with h1 | h1
    · exact h.each c h1
    · have := ho c.2 (by rw [h1])
      rw [h1] at this; exact this⟩
theorem okl_mode {K : ByteArray → Bool} {m : Nat} {L : List Cl} (h : Okl K m L) (t : Bool) : Okl K (modeF m t) L :=
  ⟨(mode_le h.mode t).1, fun e => absurd e (mode_le h.mode t).2, h.asc, h.each⟩
/-- What is noted, as notes. -/
def nteS (x : Int × ByteArray) : Nte := ⟨⟨#[]⟩, 0, x.1, x.2⟩
def stepA (sfx : Bool) (v : ByteArray) (s : Nat × List Cl) : (Nat × List Cl) × List (Int × ByteArray) := if mayR knownR s.1 s.2 = true then stepC knownR grpX sfx v s else (s, [])
/-- The state of Step in memory: its list's box, the result's cells, the notes' row, the words' row. -/
structure SW (I : Option Addr → Nat → Nat → List Cl → Prop) (w : World) (mF : Nat) (vW : Value) (nW : Nat) (WL : List (List UInt8)) (L : List Cl) (q : Option Addr) (n c : Nat) (N : List Nte) (vN : Value) (W : World) : Prop where
  bel : Below w.heap.size w W
  box : W.heap[w.heap.size]? = some (.cells #[.int .u8 (mF : Nat), .slice q n c] 25 (0, 0))
  res : W.heap[w.heap.size + 1]? = some (.cells #[.int .u8 0, .slice none 0 0] 25 (0, 0))
  len : n = L.length
  cur : (I q n c L ∧ LsAt w q L) ∨ W.ownsRow w.heap.size 71 2 (.slice q n c) n (rowC encC L)
  nts : W.ownsRow w.heap.size 51 4 vN N.length (rowC encN N)
  wds : W.ownsRow w.heap.size 9 1 vW nW (sL WL)
section
variable {I : Option Addr → Nat → Nat → List Cl → Prop} {w : World} {mF : Nat} {vW : Value} {nW : Nat} {WL : List (List UInt8)} {L : List Cl} {q : Option Addr} {n c : Nat} {N : List Nte} {vN : Value} {W : World}
theorem SW.ls (h : SW I w mF vW nW WL L q n c N vN W) : LsAt W q L := by
  rcases h.cur with h1 | h1
  · exact h1.2.on h.bel
  · exact LsAt.of_own h1 h.len
theorem SW.lt (h : SW I w mF vW nW WL L q n c N vN W) : w.heap.size + 1 < W.heap.size := (Array.getElem?_eq_some_iff.1 h.res).1
theorem SW.x0 (h : SW I w mF vW nW WL L q n c N vN W) : W.cell? ⟨w.heap.size, 0, none⟩ = some (.int .u8 (mF : Nat)) := (cell_of_row W w.heap.size 0 _ _ (0, 0) h.box).trans rfl
theorem SW.x1 (h : SW I w mF vW nW WL L q n c N vN W) : W.cell? ⟨w.heap.size, 1, none⟩ = some (.slice q n c) := (cell_of_row W w.heap.size 1 _ _ (0, 0) h.box).trans rfl
theorem SW.on {W' : World} (h : SW I w mF vW nW WL L q n c N vN W) (b : Below W.heap.size W W') : SW I w mF vW nW WL L q n c N vN W' :=
  have hl := h.lt
  ⟨thn16 h.bel b, (b.block _ (by omega)).trans h.box, (b.block _ (by omega)).trans h.res, h.len, h.cur.imp id (fun h1 => owns_on16 h1 b), owns_on16 h.nts b, owns_on16 h.wds b⟩
/-- What a step that writes the notes' row alone keeps. -/
theorem SW.keep (h : SW I w mF vW nW WL L q n c N vN W) {wA : World} (hg : W.grownBy wA vN.ownBlock) {k : Nat} {cs : Array Value} {t : TypeId} {fz : Nat × Nat} (hk : W.heap[k]? = some (.cells cs t fz)) (ht : t ≠ 51) : wA.heap[k]? = some (.cells cs t fz) := by
  refine (hg.block k (Array.getElem?_eq_some_iff.1 hk).1 (fun e => ?_)).trans hk
  rcases h.nts.2 with ⟨hv, _⟩ | ⟨g, cap, cur, hv, hB, hg2, _⟩
  · rw [hv] at e; cases e
  · rw [hv] at e
    have e2 : k = g := Option.some.inj e
    subst e2
    rw [hk] at hg2
    injection hg2 with hg2
    injection hg2 with _ e3 _
    exact ht e3
theorem SW.note (h : SW I w mF vW nW WL L q n c N vN W) {wA : World} {v' : Value} {N' : List Nte} (hg : W.grownBy wA vN.ownBlock) (hO : wA.ownsRow w.heap.size 51 4 v' N'.length (rowC encN N')) : SW I w mF vW nW WL L q n c N' v' wA :=
  have hl := h.lt
  ⟨h.bel.grown hg (by omega) (fun k e => (h.nts.lt k e).1), h.keep hg h.box (by decide), h.keep hg h.res (by decide), h.len, h.cur.imp id (fun h1 => owns_same16 h1 fun g cs fz _ hk => h.keep hg hk (by decide)), hO, owns_same16 h.wds fun g cs fz _ hk => h.keep hg hk (by decide)⟩
theorem SW.off (h : SW I w mF vW nW WL L q n c N vN W) {k : Nat} {cs : Array Value} {t : TypeId} {fz : Nat × Nat} (hk : W.heap[k]? = some (.cells cs t fz)) (ht : t ≠ 25) : k ≠ w.heap.size := fun e => by
  subst e
  rw [h.box] at hk
  injection hk with hk
  injection hk with _ e _
  exact ht e.symm
theorem SW.list (h : SW I w mF vW nW WL L q n c N vN W) {q' : Option Addr} {n' c' : Nat} {L' : List Cl} (hl : n' = L'.length) (hO : W.ownsRow w.heap.size 71 2 (.slice q' n' c') n' (rowC encC L')) :
    SW I w mF vW nW WL L' q' n' c' N vN (W.setCells w.heap.size 0 [.int .u8 (mF : Nat), .slice q' n' c']) :=
  ⟨below_setCells16 (Nat.le_refl _) _ _ _ h.bel, by
    have hb := h.box
    simp [World.setCells, World.setCell, Array.getElem?_modify, hb], (heap_setCells16 W _ _ (by omega) _ _).trans h.res, hl, Or.inr (owns_same16 hO fun g cs fz _ hk => (heap_setCells16 W _ _ (h.off hk (by decide)) _ _).trans hk),
    owns_same16 h.nts fun g cs fz _ hk => (heap_setCells16 W _ _ (h.off hk (by decide)) _ _).trans hk, owns_same16 h.wds fun g cs fz _ hk => (heap_setCells16 W _ _ (h.off hk (by decide)) _ _).trans hk⟩
theorem own_form16 {W : World} {B t s k : Nat} {u : Value} {xs : List Value} (h : W.ownsRow B t s u k xs) : ∃ q c, u = .slice q k c := by
  rcases h.2 with ⟨hv, h0⟩ | ⟨g, cap, cur, hv, _⟩
  · exact ⟨none, 0, by rw [hv, h0]⟩
  · exact ⟨_, _, hv⟩
/-- Names that can be read are no cells of the list's box. -/
theorem SW.strs (h : SW I w mF vW nW WL L q n c N vN W) {v : Value} {l : List ByteArray} (hs : StrsAt W v l) (x y : Value) : StrsAt (W.setCells w.heap.size 0 [x, y]) v l := by
  obtain ⟨q2, c2, e, hr⟩ := hs
  refine ⟨q2, c2, e, fun k s hk => ?_⟩
  obtain ⟨g, o, e2, hc⟩ := hr k s hk
  refine ⟨g, o, e2, ?_⟩
  have hg : g ≠ w.heap.size := fun e => by
    subst e
    rw [cell_of_row W _ _ _ _ (0, 0) h.box] at hc
    match o + k, hc with
    | 0, hc => exact absurd (Option.some.inj hc) (by intro e; cases e)
    | 1, hc => exact absurd (Option.some.inj hc) (by intro e; cases e)
    | j + 2, hc => simp at hc
  exact (World.cell?_of_block (heap_setCells16 W _ _ hg _ _)).trans hc
end
theorem names_group {nm : ByteArray} (h : nm.data.toList.head? = some 64) : namesF knownR grpX nm = (expE nm, expL nm) := by unfold namesF; rw [if_pos h]; rfl
theorem names_call {nm : ByteArray} (h : ¬ nm.data.toList.head? = some 64) (hk : knownR nm = true) : namesF knownR grpX nm = (0, [nm]) := by unfold namesF; rw [if_neg h, if_pos hk]
theorem names_none {nm : ByteArray} (h : ¬ nm.data.toList.head? = some 64) (hk : knownR nm = false) : namesF knownR grpX nm = (90, []) := by unfold namesF; rw [if_neg h, if_neg (by rw [hk]; exact Bool.noConfusion)]
theorem exp_le16 : (grpT.all fun e => decide ((expL e.1).length ≤ 100)) = true := by kernel_rfl
theorem expL_le (n : ByteArray) : (expL n).length ≤ 100 := by
  by_cases h : memR n = []
  · unfold expL; rw [if_pos (Or.inl h)]; exact Nat.zero_le _
  · obtain ⟨e, he, rfl⟩ := memIn_mem h
    exact of_decide_eq_true (List.all_eq_true.1 exp_le16 e he)
theorem names_le (nm : ByteArray) : (namesF knownR grpX nm).2.length ≤ 100 := by
  by_cases h : nm.data.toList.head? = some 64
  · unfold namesF; rw [if_pos h]; exact expL_le nm
  · cases hk : knownR nm with
    | true => rw [names_call h hk]; show 1 ≤ 100; omega
    | false => rw [names_none h hk]; exact Nat.zero_le _
end Go.Proofs.YtanifiobfbfehaaGreatDoor
namespace Go.Proofs.YtanifiobfbfehaaGreatDoor
open Go.RowKit
set_option linter.unusedVariables false
set_option linter.unusedSimpArgs false
attribute [local go_sem ↓] Go.wp_at_zero Go.wp_at_succ

/-- A list and notes, as they are returned. -/
abbrev InL (q0 : Option Addr) (n0 c0 : Nat) (L0 : List Cl) : Option Addr → Nat → Nat → List Cl → Prop := fun q n c L => q = q0 ∧ n = n0 ∧ c = c0 ∧ L = L0
abbrev StepL (q0 : Option Addr) (n0 c0 : Nat) (L0 : List Cl) (w w' : World) (e : Ending) (r : (Nat × List Cl) × List (Int × ByteArray)) : Prop := ∃ q n c vN, e = .returned (.tuple #[lsV r.1.1 q n c, vN]) ∧ n = r.1.2.length ∧ ((InL q0 n0 c0 L0 q n c r.1.2 ∧ LsAt w q r.1.2) ∨ r.1.2 = [] ∨ w'.ownsRow w.heap.size 71 2 (.slice q n c) n (rowC encC r.1.2)) ∧ w'.ownsRow w.heap.size 51 4 vN r.2.length (rowC encN (r.2.map nteS)) ∧ Below w.heap.size w w'
theorem StepL.ls {q0 : Option Addr} {n0 c0 : Nat} {L0 : List Cl} {w w' : World} {q : Option Addr} {n c : Nat} {L : List Cl} (h : (InL q0 n0 c0 L0 q n c L ∧ LsAt w q L) ∨ L = [] ∨ w'.ownsRow w.heap.size 71 2 (.slice q n c) n (rowC encC L)) (hl : n = L.length) (b : Below w.heap.size w w') : LsAt w' q L := by
  rcases h with h | h | h
  · exact h.2.on b
  · rw [h]; intro k c hk; simp at hk
  · exact LsAt.of_own h hl
theorem refWords_le {v : ByteArray} (hv : v.size ≤ 1000) : (wdL v.data.toList).length ≤ 1000 := Nat.le_trans (wdL_len _) (by simpa using hv)
end Go.Proofs.YtanifiobfbfehaaGreatDoor
namespace Go.Proofs.YtanifiobfbfehaaGreatDoor
open Go.RowKit
set_option linter.unusedVariables false
set_option linter.unusedSimpArgs false
attribute [local go_sem ↓] Go.wp_at_zero Go.wp_at_succ

theorem nts_next (sfx T : Bool) {WL : List (List UInt8)} {i : Nat} {x : List UInt8} (h : WL[i]? = some x) : ntsF knownR grpX sfx T (WL.take (i + 1)) = ntsF knownR grpX sfx T (WL.take i) ++ (wordF knownR grpX sfx T x).1 := by
  unfold ntsF
  rw [List.take_add_one, h, List.flatMap_append]
  simp
theorem ops_next (sfx T : Bool) (mF : Nat) {WL : List (List UInt8)} {i : Nat} {x : List UInt8} (h : WL[i]? = some x) : opsF knownR grpX sfx T mF (WL.take (i + 1)) = opsF knownR grpX sfx T mF (WL.take i) ++ (wordF knownR grpX sfx T x).2.map (opF mF T) := by
  unfold opsF
  rw [List.take_add_one, h, List.flatMap_append, List.map_append]
  simp
theorem word_nts_le (sfx T : Bool) (x : List UInt8) : (wordF knownR grpX sfx T x).1.length ≤ 1 := by
  unfold wordF
  split
  · exact Nat.le_refl _
  · split
    · exact Nat.le_refl _
    · split
      · exact Nat.le_refl _
      · exact Nat.zero_le _
theorem nts_le (sfx T : Bool) : ∀ (WL : List (List UInt8)), (ntsF knownR grpX sfx T WL).length ≤ WL.length
  | [] => Nat.le_refl _
  | x :: r => by
    have h1 := word_nts_le sfx T x
    have h2 := nts_le sfx T r
    unfold ntsF at h2 ⊢
    rw [List.flatMap_cons, List.length_append, List.length_cons]
    omega
theorem doAll_app (l : List Cl) (a b : List Ef) : doAll l (a ++ b) = doAll (doAll l a) b := List.foldl_append
theorem box_set16 {V : World} {b : Nat} {x y u : Value} (h : V.heap[b]? = some (.cells #[x, u] 25 (0, 0))) : (V.setCell ⟨b, 0, none⟩ y).heap[b]? = some (.cells #[y, u] 25 (0, 0)) := by
  simp [World.setCell, Array.getElem?_modify, h]
theorem le_sum16 {a : Nat} : ∀ {l : List Nat}, a ∈ l → a ≤ l.sum
  | b :: r, h => by
    rw [List.sum_cons]
    rcases List.mem_cons.1 h with rfl | h
    · omega
    · have := le_sum16 h; omega
end Go.Proofs.YtanifiobfbfehaaGreatDoor
