/- Values as the chapter says them: words, truth values, entries; on lists of bytes. Plain lists and numbers, no program. -/
import Derived.Test.YtfmfjnnbldmdlaaDoorLa
import Derived.Test.YtfmfjnnbldmdlaaDoorJc
namespace Go.Proofs.YtfmfjnnbldmdlaaDoor
open Go.RowKit
set_option linter.unusedVariables false

/-- The words, with a word begun. -/
def wdA : List UInt8 → List UInt8 → List (List UInt8)
  | a, [] => if a = [] then [] else [a]
  | a, c :: r => if blkB c = true then (if a = [] then wdA [] r else a :: wdA [] r) else wdA (a ++ [c]) r
def wdL (l : List UInt8) : List (List UInt8) := wdA [] l
theorem wdA_nil (a : List UInt8) : wdA a [] = if a = [] then [] else [a] := by unfold wdA; rfl
theorem wdA_blk {a r : List UInt8} {c : UInt8} (h : blkB c = true) : wdA a (c :: r) = if a = [] then wdA [] r else a :: wdA [] r := by conv => lhs; unfold wdA; rw [if_pos h]
theorem wdA_go {a r : List UInt8} {c : UInt8} (h : blkB c = false) : wdA a (c :: r) = wdA (a ++ [c]) r := by conv => lhs; unfold wdA; rw [if_neg (by rw [h]; decide)]
/-- Words are not empty and hold no white space. -/
theorem wdA_ok : ∀ (r a : List UInt8), (∀ c ∈ a, blkB c = false) → ∀ x ∈ wdA a r, x ≠ [] ∧ ∀ c ∈ x, blkB c = false
  | [], a, ha, x, hx => by
    rw [wdA_nil] at hx
    split at hx
    · cases hx
    · rename_i h; rw [List.mem_singleton] at hx; subst hx; exact ⟨h, ha⟩
  | c :: r, a, ha, x, hx => by
    cases hc : blkB c with
    | true =>
      rw [wdA_blk hc] at hx
      split at hx
      · exact wdA_ok r [] (fun c h => by cases h) x hx
      · rename_i h
        rcases List.mem_cons.1 hx with rfl | hx
        · exact ⟨h, ha⟩
        · exact wdA_ok r [] (fun c h => by cases h) x hx
    | false =>
      rw [wdA_go hc] at hx
      exact wdA_ok r (a ++ [c]) (fun d hd => by rcases List.mem_append.1 hd with h | h; exact ha d h; rw [List.mem_singleton] at h; subst h; exact hc) x hx
theorem wdL_ok {l x : List UInt8} (h : x ∈ wdL l) : x ≠ [] ∧ ∀ c ∈ x, blkB c = false := wdA_ok l [] (fun c h => by cases h) x h
/-- How long all words are. -/
theorem wdA_len : ∀ (r a : List UInt8), ((wdA a r).map List.length).sum ≤ a.length + r.length ∧ (wdA a r).length ≤ a.length + r.length
  | [], a => by
    rw [wdA_nil]
    split
    · simp
    · rename_i h
      have : a.length ≠ 0 := fun e => h (List.length_eq_zero_iff.1 e)
      simp; omega
  | c :: r, a => by
    cases hc : blkB c with
    | true =>
      rw [wdA_blk hc]
      have ih := wdA_len r []
      simp only [List.length_nil, Nat.zero_add] at ih
      split
      · simp only [List.length_cons]; omega
      · rename_i h
        have : a.length ≠ 0 := fun e => h (List.length_eq_zero_iff.1 e)
        simp only [List.map_cons, List.sum_cons, List.length_cons]; omega
    | false =>
      rw [wdA_go hc]
      have ih := wdA_len r (a ++ [c])
      rw [List.length_append] at ih
      simp only [List.length_cons, List.length_nil] at ih ⊢
      omega
theorem wdL_len (l : List UInt8) : (wdL l).length ≤ l.length := by have := (wdA_len l []).2; rw [List.length_nil, Nat.zero_add] at this; exact this
theorem wdL_sum (l : List UInt8) : ((wdL l).map List.length).sum ≤ l.length := by have := (wdA_len l []).1; rw [List.length_nil, Nat.zero_add] at this; exact this
theorem wdA_word : ∀ (x a r : List UInt8), (∀ c ∈ x, blkB c = false) → wdA a (x ++ r) = wdA (a ++ x) r
  | [], a, r, h => by rw [List.nil_append, List.append_nil]
  | c :: x, a, r, h => by
    rw [List.cons_append, wdA_go (h c (List.mem_cons_self ..)), wdA_word x (a ++ [c]) r (fun d hd => h d (List.mem_cons_of_mem _ hd)), List.append_assoc]; rfl
/-- Words put together with white space between. -/
def glueL : List (List UInt8) → List UInt8
  | [] => []
  | x :: r => 32 :: 9 :: (x ++ 13 :: glueL r)
theorem glue_app : ∀ (a b : List (List UInt8)), glueL (a ++ b) = glueL a ++ glueL b
  | [], b => rfl
  | x :: a, b => by
    show 32 :: 9 :: (x ++ 13 :: glueL (a ++ b)) = _
    rw [glue_app a b]
    show _ = (32 :: 9 :: (x ++ 13 :: glueL a)) ++ glueL b
    simp
theorem glue_words : ∀ (L : List (List UInt8)), (∀ x ∈ L, x ≠ [] ∧ ∀ c ∈ x, blkB c = false) → wdL (glueL L) = L
  | [], h => by unfold wdL glueL; rw [wdA_nil]; rfl
  | x :: r, h => by
    obtain ⟨h0, h1⟩ := h x (List.mem_cons_self ..)
    have ih := glue_words r (fun y hy => h y (List.mem_cons_of_mem _ hy))
    unfold wdL at ih ⊢
    show wdA [] (32 :: 9 :: (x ++ 13 :: glueL r)) = _
    rw [wdA_blk rfl, if_pos rfl, wdA_blk rfl, if_pos rfl, wdA_word x [] _ h1, List.nil_append, wdA_blk rfl, if_neg h0, ih]
theorem glue_len : ∀ (L : List (List UInt8)), (glueL L).length = (L.map List.length).sum + 3 * L.length
  | [] => rfl
  | x :: r => by
    show (32 :: 9 :: (x ++ 13 :: glueL r)).length = _
    simp only [List.length_cons, List.length_append, List.map_cons, List.sum_cons, glue_len r]; omega

/-- Truth values. -/
def yesT : List ByteArray := [⟨#[121, 101, 115]⟩, ⟨#[116, 114, 117, 101]⟩, ⟨#[111, 110]⟩, ⟨#[49]⟩]
def noT : List ByteArray := [⟨#[110, 111]⟩, ⟨#[102, 97, 108, 115, 101]⟩, ⟨#[111, 102, 102]⟩, ⟨#[48]⟩]
def isIn (l : List ByteArray) (s : ByteArray) : Bool := l.any fun t => decide (t = s)
def boolR (s : ByteArray) : Option Bool := if isIn yesT s = true then some true else if isIn noT s = true then some false else none
def boolE (s : ByteArray) : Int := if (boolR s).isSome = true then 0 else 150

/-- An entry. -/
structure Ent where
  nm : ByteArray
  act : Nat
  has : Bool
def e0 : Ent := ⟨⟨#[]⟩, 0, false⟩
def entV (e : Ent) : Value := .agg #[.string e.nm, .int .u32 (e.act : Nat), .bool e.has]
def killB : ByteArray := ⟨#[107, 105, 108, 108]⟩
/-- Where the first colon stands, or the word's end. -/
def colA (l : List UInt8) : Nat := l.findIdx (· == 58)
def rdL (l : List UInt8) : Ent × Int :=
  if colA l = 0 then (e0, 161)
  else if colA l = l.length then (⟨bs l, 0, false⟩, 0)
  else if bs (l.drop (colA l + 1)) = killB then (⟨bs (l.take (colA l)), 2147483648, true⟩, 0)
  else match errnoR (bs (l.drop (colA l + 1))) with
    | none => (e0, 160)
    | some n => (⟨bs (l.take (colA l)), 327680 + n, true⟩, 0)
def rdE (s : ByteArray) : Ent × Int := rdL s.data.toList
def turnR (s : ByteArray) : ByteArray × Bool := if s.data.toList.head? = some 126 then (bs (s.data.toList.drop 1), true) else (s, false)
def colB : ByteArray := bs [58]
def textR (e : Ent) : ByteArray :=
  if e.has = false then e.nm
  else if e.act = 2147483648 then e.nm ++ ⟨#[58, 107, 105, 108, 108]⟩
  else if e.act / 65536 = 5 then e.nm ++ ⟨#[58]⟩ ++ errnoNameR (e.act % 65536)
  else e.nm ++ ⟨#[58]⟩
theorem col_le (l : List UInt8) : colA l ≤ l.length := List.findIdx_le_length
theorem col_nil {l : List UInt8} (h : l = []) : colA l = 0 := by rw [h]; rfl
theorem col_app {x r : List UInt8} (h : ∀ c ∈ x, c ≠ 58) : colA (x ++ 58 :: r) = x.length := by
  unfold colA
  induction x with
  | nil => rfl
  | cons a x ih =>
    rw [List.cons_append, List.findIdx_cons, ih (fun c hc => h c (List.mem_cons_of_mem _ hc))]
    have : (a == 58) = false := beq_eq_false_iff_ne.2 (h a (List.mem_cons_self ..))
    rw [this]; rfl
theorem col_none {x : List UInt8} (h : ∀ c ∈ x, c ≠ 58) : colA x = x.length := by
  unfold colA
  induction x with
  | nil => rfl
  | cons a x ih =>
    rw [List.findIdx_cons, ih (fun c hc => h c (List.mem_cons_of_mem _ hc))]
    have : (a == 58) = false := beq_eq_false_iff_ne.2 (h a (List.mem_cons_self ..))
    rw [this]; rfl
theorem col_split {l : List UInt8} (h : colA l < l.length) : l = l.take (colA l) ++ 58 :: l.drop (colA l + 1) ∧ ∀ c ∈ l.take (colA l), c ≠ 58 := by
  have h1 : l[colA l] = 58 := by
    have := List.findIdx_getElem (p := (· == (58 : UInt8))) (xs := l) (w := h)
    exact beq_iff_eq.1 this
  constructor
  · conv => lhs; rw [← List.take_append_drop (colA l) l, ← List.getElem_cons_drop h, h1]
  · intro c hc
    obtain ⟨i, hi, rfl⟩ := List.mem_iff_getElem.1 hc
    rw [List.length_take] at hi
    rw [List.getElem_take]
    have := List.not_of_lt_findIdx (p := (· == (58 : UInt8))) (xs := l) (i := i) (show i < colA l by omega)
    exact fun e => by rw [e] at this; exact absurd this (by decide)
def okE (n : Nat) : Bool := decide (errnoR (errnoNameR n) = some n) && decide ((errnoNameR n).size ≤ 20) && decide (0 < (errnoNameR n).size)
theorem okE_all : ((List.range 64).all fun i => (List.range 64).all fun j => okE (i * 64 + j)) = true := by kernel_rfl
theorem okE_at {n : Nat} (h : n < 4096) : errnoR (errnoNameR n) = some n ∧ (errnoNameR n).size ≤ 20 ∧ 0 < (errnoNameR n).size := by
  have a := List.all_eq_true.1 okE_all (n / 64) (List.mem_range.2 (by omega))
  have b := List.all_eq_true.1 a (n % 64) (List.mem_range.2 (by omega))
  rw [show n / 64 * 64 + n % 64 = n by omega] at b
  simp only [okE, Bool.and_eq_true, decide_eq_true_eq] at b
  exact ⟨b.1.1, b.1.2, b.2⟩
theorem nameE_le : (errnoT.all fun e => decide (e.2 < 4096)) = true := by kernel_rfl
theorem errnoR_lt {s : ByteArray} {n : Nat} (h : errnoR s = some n) : n ≤ 4095 := by
  unfold errnoR at h
  split at h
  · rename_i x hx
    injection h with h; subst h
    have : ∀ l : List En10, (l.all fun e => decide (e.2 ≤ 4095)) = true → findR l s = some x → x ≤ 4095 := by
      intro l
      induction l with
      | nil => intro _ h; cases h
      | cons e r ih =>
        intro ha h
        rw [List.all_cons, Bool.and_eq_true] at ha
        unfold findR at h
        split at h
        · injection h with h; rw [← h]; exact of_decide_eq_true ha.1
        · exact ih ha.2 h
    exact this errnoT (by decide) hx
  · unfold parse4 at h
    split at h
    · split at h
      · rename_i hv; injection h with h; omega
      · cases h
    · cases h
theorem kill_none : errnoR killB = none := by kernel_rfl
theorem rd_col {x r : List UInt8} (h : ∀ c ∈ x, c ≠ 58) (h0 : x ≠ []) : rdL (x ++ 58 :: r) = if bs r = killB then ((⟨bs x, 2147483648, true⟩, 0) : Ent × Int) else match errnoR (bs r) with | none => (e0, 160) | some n => (⟨bs x, 327680 + n, true⟩, 0) := by
  have hl : x.length ≠ 0 := fun e => h0 (List.length_eq_zero_iff.1 e)
  unfold rdL
  rw [col_app h, if_neg hl, if_neg (by rw [List.length_append, List.length_cons]; omega)]
  rw [show (x ++ 58 :: r).drop (x.length + 1) = r by rw [← List.drop_drop, List.drop_left]; rfl, show (x ++ 58 :: r).take x.length = x from List.take_left' rfl]
theorem bs_add (a b : List UInt8) : bs a ++ bs b = bs (a ++ b) := bs_app a b
theorem text_kill (x : List UInt8) : textR ⟨bs x, 2147483648, true⟩ = bs (x ++ 58 :: killB.data.toList) := by
  unfold textR
  rw [if_neg (show ¬ true = false from Bool.noConfusion), if_pos rfl]
  exact bs_app x _
theorem text_errno (x : List UInt8) {n : Nat} (h : n < 4096) : textR ⟨bs x, 327680 + n, true⟩ = bs (x ++ 58 :: (errnoNameR n).data.toList) := by
  unfold textR
  rw [if_neg (show ¬ true = false from Bool.noConfusion), if_neg (show ¬ 327680 + n = 2147483648 by omega), if_pos (show (327680 + n) / 65536 = 5 by omega), show (327680 + n) % 65536 = n by omega]
  conv => lhs; rw [← bs_self (errnoNameR n)]
  show bs x ++ bs [58] ++ bs _ = _
  rw [bs_app, bs_app, List.append_assoc]; rfl
/-- What a text of a name without a colon is read as. -/
theorem read_plain {x : List UInt8} (h : ∀ c ∈ x, c ≠ 58) (h0 : x ≠ []) : rdL x = (⟨bs x, 0, false⟩, 0) := by
  have hl : x.length ≠ 0 := fun e => h0 (List.length_eq_zero_iff.1 e)
  unfold rdL
  rw [col_none h, if_neg hl, if_pos rfl]
theorem read_kill {x : List UInt8} (h : ∀ c ∈ x, c ≠ 58) (h0 : x ≠ []) : rdL (x ++ 58 :: killB.data.toList) = (⟨bs x, 2147483648, true⟩, 0) := by
  rw [rd_col h h0, if_pos (bs_self killB)]
theorem read_errno {x : List UInt8} (h : ∀ c ∈ x, c ≠ 58) (h0 : x ≠ []) {n : Nat} (hn : n < 4096) : rdL (x ++ 58 :: (errnoNameR n).data.toList) = (⟨bs x, 327680 + n, true⟩, 0) := by
  have he := (okE_at hn).1
  rw [rd_col h h0, bs_self, if_neg (fun e => by rw [e, kill_none] at he; cases he), he]
/-- An entry that was read has a text that is read as that entry. -/
theorem read_back {l : List UInt8} (h : (rdL l).2 = 0) : rdL (textR (rdL l).1).data.toList = rdL l ∧ (textR (rdL l).1).size ≤ l.length + 20 := by
  have hle := col_le l
  by_cases h0 : colA l = 0
  · exfalso; unfold rdL at h; rw [if_pos h0] at h; cases h
  · by_cases h1 : colA l = l.length
    · have e : rdL l = (⟨bs l, 0, false⟩, 0) := by unfold rdL; rw [if_neg h0, if_pos h1]
      rw [e]
      exact ⟨by show rdL (bs l).data.toList = _; rw [bs_list, e], by show (bs l).size ≤ _; rw [bs_size]; omega⟩
    · obtain ⟨hs, hx⟩ := col_split (l := l) (by omega)
      obtain ⟨x, hxx⟩ : ∃ x, x = l.take (colA l) := ⟨_, rfl⟩
      obtain ⟨r, hr⟩ : ∃ r, r = l.drop (colA l + 1) := ⟨_, rfl⟩
      have hxl : x.length = colA l := by rw [hxx, List.length_take]; omega
      rw [← hxx, ← hr] at hs
      rw [← hxx] at hx
      have hx0 : x ≠ [] := fun e => by rw [e] at hxl; exact h0 hxl.symm
      have hlen : l.length = x.length + (r.length + 1) := by rw [hs, List.length_append, List.length_cons]
      have e := rd_col (r := r) hx hx0
      rw [← hs] at e
      by_cases hk : bs r = killB
      · rw [if_pos hk] at e
        rw [e, text_kill, bs_list, read_kill hx hx0]
        refine ⟨rfl, ?_⟩
        rw [bs_size, List.length_append, List.length_cons, show killB.data.toList.length = 4 from rfl]; omega
      · rw [if_neg hk] at e
        cases hn : errnoR (bs r) with
        | none => rw [hn] at e; rw [e] at h; cases h
        | some n =>
          rw [hn] at e
          have hn4 : n < 4096 := Nat.lt_succ_of_le (errnoR_lt hn)
          have hsz := (okE_at hn4).2.1
          rw [e, text_errno x hn4, bs_list, read_errno hx hx0 hn4]
          refine ⟨rfl, ?_⟩
          rw [bs_size, List.length_append, List.length_cons, show (errnoNameR n).data.toList.length = (errnoNameR n).size from rfl]; omega
theorem read_act (s : ByteArray) : (rdE s).1.act < 4294967296 := by
  unfold rdE rdL
  split
  · decide
  · split
    · exact Nat.zero_lt_succ _
    · split
      · show 2147483648 < 4294967296; decide
      · split
        · decide
        · rename_i n hn
          have := errnoR_lt hn
          show 327680 + n < 4294967296; omega
theorem read_nm (s : ByteArray) : (rdE s).1.nm.size ≤ s.size := by
  have hs : s.size = s.data.toList.length := by simp
  have hc := col_le s.data.toList
  unfold rdE rdL
  split
  · exact Nat.zero_le _
  · split
    · show (bs _).size ≤ _; rw [bs_size]; omega
    · split
      · show (bs _).size ≤ _; rw [bs_size, List.length_take]; omega
      · split
        · exact Nat.zero_le _
        · show (bs _).size ≤ _; rw [bs_size, List.length_take]; omega
end Go.Proofs.YtfmfjnnbldmdlaaDoor
