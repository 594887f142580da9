/- Lists of calls, modified by one value after another, as the chapter says them: what is found in a list decides it; what a value does is a row of effects; done twice it is done once. Plain lists; which calls are known (K) and what a group stands for (X) are letters. No program. A value of one known call alone; a call put behind a list and swapped forward is the list with that call. Plain lists, no program. Lists of calls in memory; what the document's own Warns, Find, Same return. Conditions: a list of at most a million calls that can be read. -/
import Derived.Test.YtlenjfodjkhpmaaGreatDoorJa
import Derived.Deep.RegionHeld3
import Derived.Sort.Walk0
import Derived.Test.YtlenjfodjkhpmaaGreatDoorWd
import Derived.BigQuiet
import Derived.WalkSmall
import Derived.Deep.QuietTactic
namespace Go.Proofs.YtlenjfodjkhpmaaGreatDoor
set_option maxRecDepth 100000
open Go.RowKit
set_option linter.unusedVariables false

def wdA : List UInt8 → List UInt8 → List (List UInt8)
 | a, [] => if a = [] then [] else [a]
 | a, c :: r => if blkB c = true then (if a = [] then wdA [] r else a :: wdA [] r) else wdA (a ++ [c]) r
def wdL (l : List UInt8) : List (List UInt8) := wdA [] l
theorem wdA_nil (a : List UInt8) : wdA a [] = if a = [] then [] else [a] := by unfold wdA; rfl
theorem wdA_blk {a r : List UInt8} {c : UInt8} (h : blkB c = true) : wdA a (c :: r) = if a = [] then wdA [] r else a :: wdA [] r := by conv => lhs; unfold wdA; rw [if_pos h]
theorem wdA_go {a r : List UInt8} {c : UInt8} (h : blkB c = false) : wdA a (c :: r) = wdA (a ++ [c]) r := by conv => lhs; unfold wdA; rw [if_neg (by rw [h]; decide)]
theorem wdA_len : ∀ (r a : List UInt8), ((wdA a r).map List.length).sum ≤ a.length + r.length ∧ (wdA a r).length ≤ a.length + r.length
 | [], a => by
   rw [wdA_nil]
   split
   ·simp
   ·rename_i h
    have : a.length ≠ 0 := fun e => h (List.length_eq_zero_iff.1 e)
    simp; omega
 | c :: r, a => by
   cases hc : blkB c with
   | true =>
    rw [wdA_blk hc]
    have ih := wdA_len r []
    simp only [List.length_nil, Nat.zero_add] at ih
    split
    ·simp only [List.length_cons]; omega
    ·rename_i h
     have : a.length ≠ 0 := fun e => h (List.length_eq_zero_iff.1 e)
     simp only [List.map_cons, List.sum_cons, List.length_cons]; omega
   | false =>
    rw [wdA_go hc]
    have ih := wdA_len r (a ++ [c])
    rw [List.length_append] at ih
    simp only [List.length_cons, List.length_nil] at ih ⊢
    omega
theorem wdL_len (l : List UInt8) : (wdL l).length ≤ l.length := by have := (wdA_len l []).2; rw [List.length_nil, Nat.zero_add] at this; exact this
theorem wdL_sum (l : List UInt8) : ((wdL l).map List.length).sum ≤ l.length := by have := (wdA_len l []).1; rw [List.length_nil, Nat.zero_add] at this; exact this
theorem wdA_word : ∀ (x a r : List UInt8), (∀ c ∈ x, blkB c = false) → wdA a (x ++ r) = wdA (a ++ x) r
 | [], a, r, h => by rw [List.nil_append, List.append_nil]
 | c :: x, a, r, h => by
   rw [List.cons_append, wdA_go (h c (List.mem_cons_self ..)), wdA_word x (a ++ [c]) r (fun d hd => h d (List.mem_cons_of_mem _ hd)), List.append_assoc]; rfl
def yesT : List ByteArray := [⟨#[121, 101, 115]⟩, ⟨#[116, 114, 117, 101]⟩, ⟨#[111, 110]⟩, ⟨#[49]⟩]
def noT : List ByteArray := [⟨#[110, 111]⟩, ⟨#[102, 97, 108, 115, 101]⟩, ⟨#[111, 102, 102]⟩, ⟨#[48]⟩]
def isIn (l : List ByteArray) (s : ByteArray) : Bool := l.any fun t => decide (t = s)
def boolR (s : ByteArray) : Option Bool := if isIn yesT s = true then some true else if isIn noT s = true then some false else none
def boolE (s : ByteArray) : Int := if (boolR s).isSome = true then 0 else 150

structure Ent where
 nm : ByteArray
 act : Nat
 has : Bool
def e0 : Ent := ⟨⟨#[]⟩, 0, false⟩
def entV (e : Ent) : Value := .agg #[.string e.nm, .int .u32 (e.act : Nat), .bool e.has]
def killB : ByteArray := ⟨#[107, 105, 108, 108]⟩
def colA (l : List UInt8) : Nat := l.findIdx (· == 58)
def rdL (l : List UInt8) : Ent × Int :=
 if colA l = 0 then (e0, 161)
 else if colA l = l.length then (⟨bs l, 0, false⟩, 0)
 else if bs (l.drop (colA l + 1)) = killB then (⟨bs (l.take (colA l)), 2147483648, true⟩, 0)
 else match errnoR (bs (l.drop (colA l + 1))) with
  | none => (e0, 160)
  | some n => (⟨bs (l.take (colA l)), 327680 + n, true⟩, 0)
def rdE (s : ByteArray) : Ent × Int := rdL s.data.toList
def turnR (s : ByteArray) : ByteArray × Bool := if s.data.toList.head? = some 126 then (bs (s.data.toList.drop 1), true) else (s, false)
def textR (e : Ent) : ByteArray :=
 if e.has = false then e.nm
 else if e.act = 2147483648 then e.nm ++ ⟨#[58, 107, 105, 108, 108]⟩
 else if e.act / 65536 = 5 then e.nm ++ ⟨#[58]⟩ ++ errnoNameR (e.act % 65536)
 else e.nm ++ ⟨#[58]⟩
theorem col_le (l : List UInt8) : colA l ≤ l.length := List.findIdx_le_length
def okE (n : Nat) : Bool := decide (errnoR (errnoNameR n) = some n) && decide ((errnoNameR n).size ≤ 20) && decide (0 < (errnoNameR n).size)
theorem okE_all : ((List.range 64).all fun i => (List.range 64).all fun j => okE (i * 64 + j)) = true := by kernel_rfl
theorem okE_at {n : Nat} (h : n < 4096) : errnoR (errnoNameR n) = some n ∧ (errnoNameR n).size ≤ 20 ∧ 0 < (errnoNameR n).size := by
 have a := List.all_eq_true.1 okE_all (n / 64) (List.mem_range.2 (by omega))
 have b := List.all_eq_true.1 a (n % 64) (List.mem_range.2 (by omega))
 rw [show n / 64 * 64 + n % 64 = n by omega] at b
 simp only [okE, Bool.and_eq_true, decide_eq_true_eq] at b
 exact ⟨b.1.1, b.1.2, b.2⟩
theorem errnoR_lt {s : ByteArray} {n : Nat} (h : errnoR s = some n) : n ≤ 4095 := by
 unfold errnoR at h
 split at h
 ·rename_i x hx
  injection h with h; subst h
  have : ∀ l : List En10, (l.all fun e => decide (e.2 ≤ 4095)) = true → findR l s = some x → x ≤ 4095 := by
   intro l
   induction l with
   | nil => intro _ h; cases h
   | cons e r ih =>
    intro ha h
    rw [List.all_cons, Bool.and_eq_true] at ha
    unfold findR at h
    split at h
    ·injection h with h; rw [← h]; exact of_decide_eq_true ha.1
    ·exact ih ha.2 h
  exact this errnoT (by decide) hx
 ·unfold parse4 at h
  split at h
  ·split at h
   ·rename_i hv; injection h with h; omega
   ·cases h
  ·cases h
set_option maxRecDepth 100000
open Go.RowKit
set_option linter.unusedVariables false
set_option linter.unusedSimpArgs false
attribute [local go_sem ↓] Go.wp_at_zero Go.wp_at_succ

def WdsAt (w : World) (q : Option Addr) (L : List (List UInt8)) : Prop := ∀ k x, L[k]? = some x → ∃ g o, q = some ⟨g, o, none⟩ ∧ w.cell? ⟨g, o + k, none⟩ = some (.string (bs x))
theorem WdsAt.on {w w' : World} {q : Option Addr} {L : List (List UInt8)} (h : WdsAt w q L) (hb : Below w.heap.size w w') : WdsAt w' q L := fun k x hk => by
 obtain ⟨g, o, e, c⟩ := h k x hk
 exact ⟨g, o, e, (hb.cell (World.block_lt_of_cell? w _ c)).trans c⟩
theorem WdsAt.of_own {w : World} {B n c : Nat} {t : TypeId} {q : Option Addr} {L : List (List UInt8)} (h : w.ownsRow B t 1 (.slice q n c) n (sL L)) (hn : n = L.length) : WdsAt w q L := fun k x hk => by
 have hl : k < n := by rw [hn]; exact (List.getElem?_eq_some_iff.1 hk).1
 obtain ⟨g, cap, hv, _⟩ := h.form (by omega)
 injection hv with e1 e2 e3
 subst e1
 subst e3
 exact ⟨g, 0, rfl, by rw [Nat.zero_add]; exact (h.cellAt k (by omega)).trans (sL_get hk)⟩
set_option maxRecDepth 100000
open Go.RowKit
set_option linter.unusedVariables false
set_option linter.unusedSimpArgs false
attribute [local go_sem ↓] Go.wp_at_zero Go.wp_at_succ

theorem isIn_no {l : List ByteArray} {s : ByteArray} (h : ∀ t ∈ l, ¬ s = t) : isIn l s = false := by
 unfold isIn
 rw [List.any_eq_false]
 intro t ht
 rw [decide_eq_true_eq]
 exact fun e => h t ht e.symm
set_option maxRecDepth 100000
open Go.RowKit
set_option linter.unusedVariables false
set_option linter.unusedSimpArgs false
attribute [local go_sem ↓] Go.wp_at_zero Go.wp_at_succ

theorem box15 {w : World} {nm : ByteArray} {x : Int} {has : Bool} {t : TypeId} : let W := w.alloc (.cells #[.string nm, .int .u32 x, .bool has] t)
 W.cell? ⟨w.heap.size, 0, none⟩ = some (.string nm) ∧ W.cell? ⟨w.heap.size, 1, none⟩ = some (.int .u32 x) ∧ W.cell? ⟨w.heap.size, 2, none⟩ = some (.bool has) := by
 refine ⟨?_, ?_, ?_⟩ <;> · rw [cell_of_row _ _ _ _ _ (0, 0) (heap_alloc_new w _)]; rfl
theorem keep15 {b : Nat} {nm : ByteArray} {x : Int} {W W' : World} (h : W.cell? ⟨b, 0, none⟩ = some (.string nm) ∧ W.cell? ⟨b, 1, none⟩ = some (.int .u32 x)) (hb : Below W.heap.size W W') : W'.cell? ⟨b, 0, none⟩ = some (.string nm) ∧ W'.cell? ⟨b, 1, none⟩ = some (.int .u32 x) :=
 ⟨(hb.cell (World.block_lt_of_cell? W _ h.1)).trans h.1, (hb.cell (World.block_lt_of_cell? W _ h.2)).trans h.2⟩
theorem text_no {e : Ent} (h : e.has = false) : textR e = e.nm := by unfold textR; rw [if_pos h]
theorem text_k {e : Ent} (h : e.has = true) (h2 : e.act = 2147483648) : textR e = e.nm ++ ⟨#[58, 107, 105, 108, 108]⟩ := by unfold textR; rw [if_neg (by rw [h]; exact Bool.noConfusion), if_pos h2]
theorem text_e {e : Ent} (h : e.has = true) (h2 : ¬ e.act = 2147483648) (h3 : e.act / 65536 = 5) : textR e = e.nm ++ ⟨#[58]⟩ ++ errnoNameR (e.act % 65536) := by unfold textR; rw [if_neg (by rw [h]; exact Bool.noConfusion), if_neg h2, if_pos h3]
theorem text_o {e : Ent} (h : e.has = true) (h2 : ¬ e.act = 2147483648) (h3 : ¬ e.act / 65536 = 5) : textR e = e.nm ++ ⟨#[58]⟩ := by unfold textR; rw [if_neg (by rw [h]; exact Bool.noConfusion), if_neg h2, if_neg h3]
theorem errnoName_size (n : Nat) : (errnoNameR n).size ≤ 20 := by
 by_cases h : n < 4096
 ·exact (okE_at h).2.1
 ·unfold errnoNameR
  split
  ·rename_i t ht
   obtain ⟨e, he, rfl⟩ := name_mem ht
   have : ∀ e ∈ errnoT, e.1.size ≤ 20 := by decide +kernel
   exact this e he
  ·rw [if_neg h]; exact Nat.zero_le _
set_option maxRecDepth 100000
open Go.RowKit
set_option linter.unusedVariables false
set_option linter.unusedSimpArgs false
attribute [local go_sem ↓] Go.wp_at_zero Go.wp_at_succ

theorem rd_0 {l : List UInt8} (h : colA l = 0) : rdL l = (e0, 161) := by unfold rdL; rw [if_pos h]
theorem rd_n {l : List UInt8} (h : ¬ colA l = 0) (h2 : colA l = l.length) : rdL l = (⟨bs l, 0, false⟩, 0) := by unfold rdL; rw [if_neg h, if_pos h2]
theorem rd_k {l : List UInt8} (h : ¬ colA l = 0) (h2 : ¬ colA l = l.length) (h3 : bs (l.drop (colA l + 1)) = killB) : rdL l = (⟨bs (l.take (colA l)), 2147483648, true⟩, 0) := by unfold rdL; rw [if_neg h, if_neg h2, if_pos h3]
theorem rd_x {l : List UInt8} (h : ¬ colA l = 0) (h2 : ¬ colA l = l.length) (h3 : ¬ bs (l.drop (colA l + 1)) = killB) (h4 : errnoR (bs (l.drop (colA l + 1))) = none) : rdL l = (e0, 160) := by unfold rdL; rw [if_neg h, if_neg h2, if_neg h3, h4]
theorem rd_e {l : List UInt8} {x : Nat} (h : ¬ colA l = 0) (h2 : ¬ colA l = l.length) (h3 : ¬ bs (l.drop (colA l + 1)) = killB) (h4 : errnoR (bs (l.drop (colA l + 1))) = some x) : rdL l = (⟨bs (l.take (colA l)), 327680 + x, true⟩, 0) := by unfold rdL; rw [if_neg h, if_neg h2, if_neg h3, h4]
theorem below_setCells15 {w0 : World} {b : Nat} (hb : w0.heap.size ≤ b) : ∀ (vs : List Value) (o : Nat) (w : World), Below w0.heap.size w0 w → Below w0.heap.size w0 (w.setCells b o vs)
 | [], o, w, h => h
 | v :: vs, o, w, h => below_setCells15 hb vs (o + 1) (w.setCell ⟨b, o, none⟩ v) (h.setCell hb v)
theorem results_two15 {fn : Func} {tmps : Array Value} {w : World} {t u : Nat} {ty : TypeId} {p : Addr} {v x : Value} (hr : fn.results = #[.cell t ty, .tmp u]) (ha : tmps.getD t undef = .pointer (some p)) (hu : tmps.getD u undef = x) (hl : (loadVar ty p).run Tryz.prog w = .ok v w) : (results fn tmps).run Tryz.prog w = .ok (.tuple #[v, x]) w := by
 have ha' : tmps[t]?.getD undef = .pointer (some p) := by simpa using ha
 have hu' : tmps[u]?.getD undef = x := by simpa using hu
 simp [results, hr, asAddr, ha', hu', hl]
set_option maxRecDepth 100000
set_option linter.unusedVariables false

abbrev Cl := ByteArray × Nat
def lt16 (a b : ByteArray) : Bool := Op.bytesLess a.toList b.toList
theorem lt16_is (a b : ByteArray) : lt16 a b = decide (a.toList < b.toList) := bytesLess_eq _ _
theorem lt16_trans {a b c : ByteArray} (h1 : lt16 a b = true) (h2 : lt16 b c = true) : lt16 a c = true := by
 rw [lt16_is, decide_eq_true_iff] at *
 exact List.lt_trans h1 h2
theorem lt16_irrefl (a : ByteArray) : lt16 a a = false := by
 rw [lt16_is, decide_eq_false_iff_not]
 exact List.lt_irrefl _
theorem lt16_asymm {a b : ByteArray} (h1 : lt16 a b = true) (h2 : lt16 b a = true) : False := by
 have := lt16_trans h1 h2
 rw [lt16_irrefl] at this
 cases this
theorem lt16_total {a b : ByteArray} (h1 : lt16 a b = false) (h : a ≠ b) : lt16 b a = true := by
 rw [lt16_is, decide_eq_false_iff_not] at h1
 rw [lt16_is, decide_eq_true_iff]
 rcases Classical.em (b.toList < a.toList) with h2 | h2
 ·exact h2
 ·exact absurd (list_of_bytes10 (List.le_antisymm (show a.toList ≤ b.toList from h2) (show b.toList ≤ a.toList from h1))) h
def Asc16 (l : List Cl) : Prop := l.Pairwise fun a b => lt16 a.1 b.1 = true
def findC : List Cl → ByteArray → Option Nat
 | [], _ => none
 | c :: r, n => if c.1 = n then some c.2 else findC r n
def takeC (l : List Cl) (n : ByteArray) : List Cl := l.filter fun c => decide (c.1 ≠ n)
def insC (n : ByteArray) (a : Nat) : List Cl → List Cl
 | [] => [(n, a)]
 | c :: r => if lt16 n c.1 = true then (n, a) :: c :: r else c :: insC n a r
def putC (l : List Cl) (n : ByteArray) (a : Nat) : List Cl := insC n a (takeC l n)
theorem find_none {l : List Cl} {n : ByteArray} : findC l n = none ↔ ∀ c ∈ l, c.1 ≠ n := by
 induction l with
 | nil => exact ⟨(fun _ c h => by cases h), (fun _ => rfl)⟩
 | cons c r ih =>
  unfold findC
  by_cases e : c.1 = n
  ·rw [if_pos e]
   exact ⟨(fun h => by cases h), (fun h => absurd e (h c (List.mem_cons_self ..)))⟩
  ·rw [if_neg e, ih]
   exact ⟨(fun h d hd => by rcases List.mem_cons.1 hd with rfl | hd; exact e; exact h d hd), (fun h d hd => h d (List.mem_cons_of_mem _ hd))⟩
theorem find_take (l : List Cl) (n m : ByteArray) : findC (takeC l n) m = if m = n then none else findC l m := by
 induction l with
 | nil => split <;> rfl
 | cons c r ih =>
  unfold takeC at ih ⊢
  by_cases e : c.1 = n
  ·rw [List.filter_cons_of_neg (by simpa using e), ih]
   by_cases h : m = n
   ·rw [if_pos h, if_pos h]
   ·rw [if_neg h, if_neg h]
    conv => rhs; unfold findC
    rw [if_neg (fun e2 => h (by rw [← e2, e]))]
  ·rw [List.filter_cons_of_pos (by simpa using e)]
   unfold findC
   by_cases h : c.1 = m
   ·rw [if_pos h, if_pos h, if_neg (fun e2 => e (by rw [h, e2]))]
   ·rw [if_neg h, if_neg h, ih]
theorem asc_take {l : List Cl} (h : Asc16 l) (n : ByteArray) : Asc16 (takeC l n) := List.Pairwise.filter _ h
theorem mem_ins {n : ByteArray} {a : Nat} {c : Cl} : ∀ {l : List Cl}, c ∈ insC n a l → c = (n, a) ∨ c ∈ l
 | [], h => by unfold insC at h; exact Or.inl (List.mem_singleton.1 h)
 | d :: r, h => by
   unfold insC at h
   split at h
   ·rcases List.mem_cons.1 h with h | h
    ·exact Or.inl h
    ·exact Or.inr h
   ·rcases List.mem_cons.1 h with h | h
    ·exact Or.inr (h ▸ List.mem_cons_self ..)
    ·rcases mem_ins h with h | h
     ·exact Or.inl h
     ·exact Or.inr (List.mem_cons_of_mem _ h)
theorem asc_ins (n : ByteArray) (a : Nat) : ∀ {l : List Cl}, Asc16 l → findC l n = none → Asc16 (insC n a l)
 | [], _, _ => List.pairwise_singleton _ _
 | c :: r, h, hn => by
   obtain ⟨h1, h2⟩ := List.pairwise_cons.1 h
   have hc : c.1 ≠ n := find_none.1 hn c (List.mem_cons_self ..)
   have hr : findC r n = none := find_none.2 fun d hd => find_none.1 hn d (List.mem_cons_of_mem _ hd)
   unfold insC
   split
   ·rename_i hlt
    exact List.pairwise_cons.2 ⟨fun d hd => by rcases List.mem_cons.1 hd with rfl | hd; exact hlt; exact lt16_trans hlt (h1 d hd), h⟩
   ·rename_i hlt
    have hlt' : lt16 n c.1 = false := by cases e : lt16 n c.1 with | true => exact absurd e hlt | false => rfl
    refine List.pairwise_cons.2 ⟨fun d hd => ?_, asc_ins n a h2 hr⟩
    rcases mem_ins hd with rfl | hd
    ·exact lt16_total hlt' (fun e => hc e.symm)
    ·exact h1 d hd
theorem asc_put {l : List Cl} (h : Asc16 l) (n : ByteArray) (a : Nat) : Asc16 (putC l n a) := asc_ins n a (asc_take h n) (by rw [find_take, if_pos rfl])
/-! ### effects -/
abbrev Ef := ByteArray × Option Nat
def doE (l : List Cl) (o : Ef) : List Cl := match o.2 with | some a => putC l o.1 a | none => takeC l o.1
def doAll (l : List Cl) (ops : List Ef) : List Cl := ops.foldl doE l
theorem asc_do {l : List Cl} (h : Asc16 l) (o : Ef) : Asc16 (doE l o) := by
 unfold doE
 split
 ·exact asc_put h _ _
 ·exact asc_take h _
theorem asc_all : ∀ (ops : List Ef) {l : List Cl}, Asc16 l → Asc16 (doAll l ops)
 | [], _, h => h
 | o :: r, _, h => asc_all r (asc_do h o)
/-! ### a value -/
def actOk (a : Nat) : Bool := decide (a = 0) || decide (a = 2147483648) || (decide (a / 65536 = 5) && decide (a % 65536 ≤ 4095))
structure Okl (K : ByteArray → Bool) (m : Nat) (l : List Cl) : Prop where
 mode : m ≤ 2
 none : m = 0 → l = []
 asc : Asc16 l
 each : ∀ c ∈ l, K c.1 = true ∧ actOk c.2 = true
def namesF (K : ByteArray → Bool) (X : ByteArray → Int × List ByteArray) (n : ByteArray) : Int × List ByteArray :=
 if n.data.toList.head? = some 64 then X n else if K n = true then (0, [n]) else (90, [])
def wordF (K : ByteArray → Bool) (X : ByteArray → Int × List ByteArray) (sfx turned : Bool) (x : List UInt8) : List (Int × ByteArray) × List (ByteArray × Bool × Nat) :=
 if (rdL x).2 ≠ 0 then ([((rdL x).2, bs (x.take 60))], [])
 else if (namesF K X (rdL x).1.nm).1 ≠ 0 then ([((namesF K X (rdL x).1.nm).1, bs (x.take 60))], [])
 else if ((rdL x).1.has && (!sfx || !turned)) = true then ([(161, bs (x.take 60))], (namesF K X (rdL x).1.nm).2.map fun n => (n, false, 0))
 else ([], (namesF K X (rdL x).1.nm).2.map fun n => (n, (rdL x).1.has, (rdL x).1.act))
def opF (m : Nat) (turned : Bool) (e : ByteArray × Bool × Nat) : Ef :=
 if (m = 1 ∧ (turned = false ∨ e.2.1 = true)) ∨ (m = 2 ∧ turned = true) then (e.1, some e.2.2) else (e.1, none)
def modeF (m : Nat) (turned : Bool) : Nat := if m = 0 then (if turned = true then 2 else 1) else m
def opsF (K : ByteArray → Bool) (X : ByteArray → Int × List ByteArray) (sfx turned : Bool) (m : Nat) (ws : List (List UInt8)) : List Ef := (ws.flatMap fun x => (wordF K X sfx turned x).2).map (opF m turned)
def ntsF (K : ByteArray → Bool) (X : ByteArray → Int × List ByteArray) (sfx turned : Bool) (ws : List (List UInt8)) : List (Int × ByteArray) := ws.flatMap fun x => (wordF K X sfx turned x).1
def stepC (K : ByteArray → Bool) (X : ByteArray → Int × List ByteArray) (sfx : Bool) (v : ByteArray) (s : Nat × List Cl) : (Nat × List Cl) × List (Int × ByteArray) :=
 if wdL v.data.toList = [] then ((0, []), [])
 else ((modeF s.1 (turnR v).2, doAll s.2 (opsF K X sfx (turnR v).2 (modeF s.1 (turnR v).2) (wdL (turnR v).1.data.toList))), ntsF K X sfx (turnR v).2 (wdL (turnR v).1.data.toList))
theorem mode_le {m : Nat} (h : m ≤ 2) (t : Bool) : modeF m t ≤ 2 ∧ modeF m t ≠ 0 := by
 unfold modeF
 by_cases h0 : m = 0
 ·rw [if_pos h0]; cases t <;> decide
 ·rw [if_neg h0]; exact ⟨h, h0⟩
theorem act_read (x : List UInt8) : actOk (rdL x).1.act = true := by
 unfold rdL
 split
 ·rfl
 ·split
  ·rfl
  ·split
   ·rfl
   ·split
    ·rfl
    ·rename_i n hn
     have := errnoR_lt hn
     unfold actOk
     rw [decide_eq_true (show (327680 + n) / 65536 = 5 by omega), decide_eq_true (show (327680 + n) % 65536 ≤ 4095 by omega)]
     simp
theorem word_ok {K : ByteArray → Bool} {X : ByteArray → Int × List ByteArray} (hX : ∀ n, (X n).1 = 0 → ∀ t ∈ (X n).2, K t = true) (sfx turned : Bool) (x : List UInt8) : ∀ e ∈ (wordF K X sfx turned x).2, K e.1 = true ∧ actOk e.2.2 = true := by
 have hn : (namesF K X (rdL x).1.nm).1 = 0 → ∀ t ∈ (namesF K X (rdL x).1.nm).2, K t = true := by
  unfold namesF
  split
  ·exact hX _
  ·split
   ·rename_i hk
    intro _ t ht; rw [List.mem_singleton.1 ht]; exact hk
   ·intro _ t ht; cases ht
 intro e he
 unfold wordF at he
 split at he
 ·cases he
 ·split at he
  ·cases he
  ·rename_i h0
   have h0 : (namesF K X (rdL x).1.nm).1 = 0 := by simpa using h0
   split at he
   ·obtain ⟨t, ht, rfl⟩ := List.mem_map.1 he
    exact ⟨hn h0 t ht, rfl⟩
   ·obtain ⟨t, ht, rfl⟩ := List.mem_map.1 he
    exact ⟨hn h0 t ht, act_read x⟩
theorem mem_do {l : List Cl} {o : Ef} {c : Cl} (h : c ∈ doE l o) : c ∈ l ∨ o = (c.1, some c.2) := by
 unfold doE at h
 obtain ⟨n, a⟩ := o
 cases a with
 | none => exact Or.inl (List.mem_filter.1 h).1
 | some a =>
  rcases mem_ins h with rfl | h
  ·exact Or.inr rfl
  ·exact Or.inl (List.mem_filter.1 h).1
theorem each_all {P : Cl → Prop} : ∀ (ops : List Ef) {l : List Cl}, (∀ c ∈ l, P c) → (∀ o ∈ ops, ∀ a, o.2 = some a → P (o.1, a)) → ∀ c ∈ doAll l ops, P c
 | [], _, h, _ => h
 | o :: r, l, h, ho => each_all r (fun c hc => by
     rcases mem_do hc with h1 | h1
     ·exact h c h1
     ·have := ho o (List.mem_cons_self ..) c.2 (by rw [h1])
      rw [h1] at this; exact this) fun o' h' => ho o' (List.mem_cons_of_mem _ h')
theorem step_ok {K : ByteArray → Bool} {X : ByteArray → Int × List ByteArray} (hX : ∀ n, (X n).1 = 0 → ∀ t ∈ (X n).2, K t = true) (sfx : Bool) (v : ByteArray) {s : Nat × List Cl} (h : Okl K s.1 s.2) : Okl K (stepC K X sfx v s).1.1 (stepC K X sfx v s).1.2 := by
 unfold stepC
 split
 ·exact ⟨Nat.zero_le _, fun _ => rfl, List.Pairwise.nil, fun c hc => by cases hc⟩
 ·refine ⟨(mode_le h.mode _).1, fun e => absurd e (mode_le h.mode _).2, asc_all _ h.asc, each_all _ h.each ?_⟩
  intro o ho a ha
  obtain ⟨e, he, rfl⟩ := List.mem_map.1 ho
  obtain ⟨x, hx, he⟩ := List.mem_flatMap.1 he
  obtain ⟨k1, k2⟩ := word_ok hX sfx (turnR v).2 x e he
  unfold opF at ha ⊢
  split at ha
  ·rename_i hc
   rw [if_pos hc]
   injection ha with ha
   subst ha
   exact ⟨k1, k2⟩
  ·cases ha
set_option maxRecDepth 100000
set_option linter.unusedVariables false

set_option maxRecDepth 100000
open Go.RowKit
set_option linter.unusedVariables false
set_option linter.unusedSimpArgs false
attribute [local go_sem ↓] Go.wp_at_zero Go.wp_at_succ

def LsAt (w : World) (q : Option Addr) (L : List Cl) : Prop := ∀ k c, L[k]? = some c → ∃ g o, q = some ⟨g, o, none⟩ ∧ w.cell? ⟨g, o + k * 2, none⟩ = some (.string c.1) ∧ w.cell? ⟨g, o + k * 2 + 1, none⟩ = some (.int .u32 (c.2 : Nat))
theorem LsAt.on {w w' : World} {q : Option Addr} {L : List Cl} (h : LsAt w q L) (hb : Below w.heap.size w w') : LsAt w' q L := fun k x hk => by
 obtain ⟨g, o, e, c1, c2⟩ := h k x hk
 exact ⟨g, o, e, (hb.cell (World.block_lt_of_cell? w _ c1)).trans c1, (hb.cell (World.block_lt_of_cell? w _ c2)).trans c2⟩
def lsV (m : Nat) (q : Option Addr) (n c : Nat) : Value := .agg #[.int .u8 (m : Nat), .slice q n c]
theorem find_at16 {l : List Cl} {k : Nat} {e : Cl} (h : l[k]? = some e) (s : ByteArray) : findC (l.drop k) s = if e.1 = s then some e.2 else findC (l.drop (k + 1)) s := by
 obtain ⟨hk, rfl⟩ := List.getElem?_eq_some_iff.1 h
 rw [List.drop_eq_getElem_cons hk]; rfl
def warnsF (e : Int) : Bool := e == 90 || e == 100 || e == 110 || e == 161
end Go.Proofs.YtlenjfodjkhpmaaGreatDoor
