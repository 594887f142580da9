/- Names of errnos, families, namespaces as the chapter says them: tables, what is found in one; the document's own tables, Find, Name. No condition. What the document's own Errno, Digits, ErrnoName, All, Flags of the names return. Condition: a text of at most 2^62 bytes. What the document's own Digits, ErrnoName, All, Flags of the names return. Condition: none. What the document's own All, Flags of the namespaces return. No condition. What the calls of the package names have to return, as the chapter says it; the chapter's rows. -/
import Derived.Test.YtlenjfodjkhpmaaGreatDoorWd
import Derived.Laws.Strings2
import Derived.Laws.Strings3
import Derived.Laws.DeepStrings4
import Derived.Laws.IdiomStrings
import Derived.Deep.AppendLies
import Derived.Deep.DrawnRows
import Derived.RegionTactic
import Derived.BigRegion
import Derived.Laws.Concat
import Derived.Laws.Cover1
import Derived.Maps.AppendAt
import Derived.WalkSmall
namespace Go.Proofs.YtlenjfodjkhpmaaGreatDoor
set_option maxRecDepth 100000
set_option linter.unusedVariables false

def bs (l : List UInt8) : ByteArray := ⟨l.toArray⟩
theorem bs_size (l : List UInt8) : (bs l).size = l.length := by unfold bs; simp [ByteArray.size]
theorem bs_self (s : ByteArray) : bs s.data.toList = s := by unfold bs; rfl
theorem bs_list (l : List UInt8) : (bs l).data.toList = l := by unfold bs; rfl
theorem bs_toList (l : List UInt8) : (bs l).toList = l := by rw [ByteArray.toList_eq]; unfold bs; rfl
def blkB (c : UInt8) : Bool := c == 32 || c == 9 || c == 13
set_option maxRecDepth 100000
open Go.RowKit
set_option linter.unusedVariables false
attribute [local go_sem ↓] Go.wp_at_zero Go.wp_at_succ

theorem ext_bs (s : ByteArray) (a b : Nat) : s.extract a b = bs ((s.data.toList.take b).drop a) := by
 have h := ByteArray.extract_mk s.data.toList a b
 have e : ByteArray.mk s.data.toList.toArray = s := rfl
 rw [e] at h
 rw [h, ← List.drop_take]
 rfl
set_option maxRecDepth 100000
open Go.RowKit
set_option linter.unusedVariables false
set_option linter.unusedSimpArgs false
attribute [local go_sem ↓] Go.wp_at_zero Go.wp_at_succ

def RdB (w : World) (B : Nat) (p : Option Addr) (l : List UInt8) : Prop := 0 < l.length → ∃ b o, p = some ⟨b, o, none⟩ ∧ b < B ∧ ∀ i (h : i < l.length), w.cell? ⟨b, o + i, none⟩ = some (.int .u8 (l[i].toNat : Int))
theorem RdB.on {w w' : World} {p : Option Addr} {l : List UInt8} (h : RdB w w.heap.size p l) (hb : Below w.heap.size w w') : RdB w' w'.heap.size p l := fun h0 => by
 obtain ⟨b, o, rfl, hlt, hc⟩ := h h0
 exact ⟨b, o, rfl, Nat.lt_of_lt_of_le hlt hb.size, fun i hi => (hb.cell (p := ⟨b, o + i, none⟩) hlt).trans (hc i hi)⟩
def sL (ls : List (List UInt8)) : List Value := ls.map fun s => .string (bs s)
theorem sL_get {ls : List (List UInt8)} {k : Nat} {s : List UInt8} (h : ls[k]? = some s) : (sL ls)[k]? = some (.string (bs s)) := by
 unfold sL; rw [List.getElem?_map, h]; rfl
set_option maxRecDepth 100000
open Go.RowKit
set_option linter.unusedVariables false
attribute [local go_sem ↓] Go.wp_at_zero Go.wp_at_succ

abbrev En10 := ByteArray × Nat
def errnoT : List En10 := [(⟨#[69, 80, 69, 82, 77]⟩, 1), (⟨#[69, 78, 79, 69, 78, 84]⟩, 2), (⟨#[69, 73, 79]⟩, 5), (⟨#[69, 66, 65, 68, 70]⟩, 9), (⟨#[69, 65, 71, 65, 73, 78]⟩, 11), (⟨#[69, 78, 79, 77, 69, 77]⟩, 12), (⟨#[69, 65, 67, 67, 69, 83]⟩, 13), (⟨#[69, 70, 65, 85, 76, 84]⟩, 14), (⟨#[69, 66, 85, 83, 89]⟩, 16), (⟨#[69, 78, 79, 68, 69, 86]⟩, 19), (⟨#[69, 73, 78, 86, 65, 76]⟩, 22), (⟨#[69, 78, 79, 83, 89, 83]⟩, 38), (⟨#[69, 79, 80, 78, 79, 84, 83, 85, 80, 80]⟩, 95), (⟨#[69, 65, 70, 78, 79, 83, 85, 80, 80, 79, 82, 84]⟩, 97), (⟨#[69, 84, 73, 77, 69, 68, 79, 85, 84]⟩, 110)]
def famT : List En10 := [(⟨#[65, 70, 95, 85, 78, 73, 88]⟩, 1), (⟨#[65, 70, 95, 73, 78, 69, 84]⟩, 2), (⟨#[65, 70, 95, 73, 78, 69, 84, 54]⟩, 10), (⟨#[65, 70, 95, 78, 69, 84, 76, 73, 78, 75]⟩, 16), (⟨#[65, 70, 95, 80, 65, 67, 75, 69, 84]⟩, 17), (⟨#[65, 70, 95, 66, 76, 85, 69, 84, 79, 79, 84, 72]⟩, 31), (⟨#[65, 70, 95, 65, 76, 71]⟩, 38), (⟨#[65, 70, 95, 86, 83, 79, 67, 75]⟩, 40)]
def spcT : List En10 := [(⟨#[116, 105, 109, 101]⟩, 128), (⟨#[109, 110, 116]⟩, 131072), (⟨#[99, 103, 114, 111, 117, 112]⟩, 33554432), (⟨#[117, 116, 115]⟩, 67108864), (⟨#[105, 112, 99]⟩, 134217728), (⟨#[117, 115, 101, 114]⟩, 268435456), (⟨#[112, 105, 100]⟩, 536870912), (⟨#[110, 101, 116]⟩, 1073741824)]
def findR : List En10 → ByteArray → Option Nat
 | [], _ => none
 | e :: r, s => if e.1 = s then some e.2 else findR r s
def nameR : List En10 → Nat → Option ByteArray
 | [], _ => none
 | e :: r, n => if e.2 = n then some e.1 else nameR r n
theorem find_at {l : List En10} {k : Nat} {e : En10} (h : l[k]? = some e) (s : ByteArray) : findR (l.drop k) s = if e.1 = s then some e.2 else findR (l.drop (k + 1)) s := by
 obtain ⟨hk, rfl⟩ := List.getElem?_eq_some_iff.1 h
 rw [List.drop_eq_getElem_cons hk]; rfl
theorem name_at {l : List En10} {k : Nat} {e : En10} (h : l[k]? = some e) (n : Nat) : nameR (l.drop k) n = if e.2 = n then some e.1 else nameR (l.drop (k + 1)) n := by
 obtain ⟨hk, rfl⟩ := List.getElem?_eq_some_iff.1 h
 rw [List.drop_eq_getElem_cons hk]; rfl
def esN (l : List En10) : List Value := l.flatMap fun e => [.string e.1, .int .u64 (e.2 : Nat)]
theorem esN_get : ∀ {l : List En10} {k : Nat} {e : En10}, l[k]? = some e → (esN l)[k * 2]? = some (.string e.1) ∧ (esN l)[k * 2 + 1]? = some (.int .u64 (e.2 : Nat))
 | [], k, e, h => by simp at h
 | x :: r, 0, e, h => by injection h with h; subst h; exact ⟨rfl, rfl⟩
 | x :: r, k + 1, e, h => by
   have := esN_get (l := r) (k := k) (e := e) (by simpa using h)
   have e1 : esN (x :: r) = .string x.1 :: .int .u64 (x.2 : Nat) :: esN r := rfl
   rw [e1, show (k + 1) * 2 = k * 2 + 1 + 1 by omega]
   exact this
def RowsN (w : World) (g : Nat) (l : List En10) : Prop := ∀ k e, l[k]? = some e → w.cell? ⟨g, k * 2, none⟩ = some (.string e.1) ∧ w.cell? ⟨g, k * 2 + 1, none⟩ = some (.int .u64 (e.2 : Nat))
theorem RowsN.on {w w' : World} {g : Nat} {l : List En10} (h : RowsN w g l) (hb : Below w.heap.size w w') : RowsN w' g l := fun k e hk =>
 ⟨(hb.cell (World.block_lt_of_cell? w _ (h k e hk).1)).trans (h k e hk).1, (hb.cell (World.block_lt_of_cell? w _ (h k e hk).2)).trans (h k e hk).2⟩
theorem RowsN.new (w : World) (l : List En10) (t : TypeId) : RowsN (w.alloc (.cells (esN l).toArray t)) w.heap.size l := fun k e hk => by
 obtain ⟨h1, h2⟩ := esN_get hk
 constructor
 ·rw [cell_of_row _ _ _ _ _ (0, 0) (heap_alloc_new w _), List.getElem?_toArray]; exact h1
 ·rw [cell_of_row _ _ _ _ _ (0, 0) (heap_alloc_new w _), List.getElem?_toArray]; exact h2
theorem list_of_bytes10 {a b : ByteArray} (h : a.toList = b.toList) : a = b := by
 apply ByteArray.ext
 have h2 := congrArg List.toArray h
 simpa [ByteArray.toList_eq] using h2
set_option maxRecDepth 100000
open Go.RowKit
set_option linter.unusedVariables false
set_option linter.unusedSimpArgs false
attribute [local go_sem ↓] Go.wp_at_zero Go.wp_at_succ

def digB10 (c : UInt8) : Bool := decide (48 ≤ c.toNat) && decide (c.toNat ≤ 57)
def valD (l : List UInt8) : Nat := l.foldl (fun a c => 10 * a + (c.toNat - 48)) 0
def parse4 (l : List UInt8) : Option Nat := if l ≠ [] ∧ l.length ≤ 4 ∧ l.all digB10 = true then (if valD l ≤ 4095 then some (valD l) else none) else none
def errnoR (s : ByteArray) : Option Nat := match findR errnoT s with | some x => some x | none => parse4 s.data.toList
theorem valD_snoc (l : List UInt8) (c : UInt8) : valD (l ++ [c]) = 10 * valD l + (c.toNat - 48) := by unfold valD; rw [List.foldl_append]; rfl
theorem valD_lt : ∀ (l : List UInt8), l.all digB10 = true → valD l < 10 ^ l.length := by
 intro l
 induction h : l.length generalizing l with
 | zero => intro _; rw [List.length_eq_zero_iff.1 h]; decide
 | succ n ih =>
  intro ha
  obtain ⟨m, c, rfl⟩ : ∃ m c, l = m ++ [c] := ⟨l.dropLast, l.getLast (by intro e; simp [e] at h), (List.dropLast_concat_getLast _).symm⟩
  rw [List.all_append, Bool.and_eq_true] at ha
  have h1 := ih m (by simpa using h) ha.1
  have hc : c.toNat ≤ 57 := by
   have := ha.2
   simp [digB10] at this
   omega
  rw [valD_snoc, Nat.pow_succ]
  omega
theorem parse4_long {l : List UInt8} (h : 4 < l.length) : parse4 l = none := by unfold parse4; rw [if_neg (by rintro ⟨_, h2, _⟩; omega)]
set_option maxRecDepth 100000
open Go.RowKit
set_option linter.unusedVariables false
set_option linter.unusedSimpArgs false
attribute [local go_sem ↓] Go.wp_at_zero Go.wp_at_succ

def db (n : Nat) : UInt8 := UInt8.ofNat (48 + n)
def dig4 (n : Nat) : List UInt8 :=
 if n < 10 then [db n] else if n < 100 then [db (n / 10), db (n % 10)] else if n < 1000 then [db (n / 100), db (n / 10 % 10), db (n % 10)] else [db (n / 1000), db (n / 100 % 10), db (n / 10 % 10), db (n % 10)]
def bs10 (l : List UInt8) : ByteArray := ⟨l.toArray⟩
def errnoNameR (n : Nat) : ByteArray := match nameR errnoT n with | some t => t | none => if n < 4096 then bs10 (dig4 n) else ⟨#[]⟩
theorem name_mem : ∀ {l : List En10} {n : Nat} {t : ByteArray}, nameR l n = some t → ∃ e ∈ l, e.1 = t
 | [], _, _, h => by cases h
 | e :: r, n, t, h => by
   unfold nameR at h
   split at h
   ·injection h with h; exact ⟨e, List.mem_cons_self .., h⟩
   ·obtain ⟨e', h1, h2⟩ := name_mem h
    exact ⟨e', List.mem_cons_of_mem _ h1, h2⟩
theorem errno_full : ∀ e ∈ errnoT, e.1.toList.isEmpty = false := by decide +kernel
set_option maxRecDepth 100000
open Go.RowKit
set_option linter.unusedVariables false
set_option linter.unusedSimpArgs false
attribute [local go_sem ↓] Go.wp_at_zero Go.wp_at_succ

def allN : Nat := 2114060416
def sumTo (k : Nat) : Nat := ((spcT.take k).map (·.2)).foldl (· + ·) 0
def flagsTo (x : Nat) (k : Nat) : List Nat := ((spcT.take k).filter fun e => x / e.2 % 2 == 1).map (·.2)
def flagsR (x : Nat) : List Nat := flagsTo x 8
theorem spc_at : ∀ k, k < 8 → ∃ e, spcT[k]? = some e ∧ 0 < e.2 ∧ e.2 < 4294967296 := by
 have h : (List.range 8).all (fun k => match spcT[k]? with | some e => decide (0 < e.2) && decide (e.2 < 4294967296) | none => false) = true := by decide +kernel
 intro k hk
 have := List.all_eq_true.1 h k (List.mem_range.2 hk)
 cases he : spcT[k]? with
 | none => rw [he] at this; cases this
 | some e =>
  rw [he] at this
  simp only [Bool.and_eq_true, decide_eq_true_eq] at this
  exact ⟨e, rfl, this.1, this.2⟩
theorem sum_step {k : Nat} {e : En10} (h : spcT[k]? = some e) : sumTo (k + 1) = sumTo k + e.2 := by
 unfold sumTo
 rw [List.take_add_one, h, List.map_append, List.foldl_append]; rfl
theorem sum_lt : ∀ k, k ≤ 8 → sumTo k < 4294967296 := by
 have h : (List.range 9).all (fun k => decide (sumTo k < 4294967296)) = true := by decide +kernel
 intro k hk
 exact of_decide_eq_true (List.all_eq_true.1 h k (List.mem_range.2 (by omega)))
theorem flags_step {x k : Nat} {e : En10} (h : spcT[k]? = some e) : flagsTo x (k + 1) = flagsTo x k ++ (if x / e.2 % 2 = 1 then [e.2] else []) := by
 unfold flagsTo
 rw [List.take_add_one, h, List.filter_append, List.map_append]
 congr 1
 by_cases hh : x / e.2 % 2 = 1
 ·simp [hh]
 ·simp [hh]
theorem flags_le (x k : Nat) : (flagsTo x k).length ≤ k := by
 unfold flagsTo
 rw [List.length_map]
 exact Nat.le_trans (List.length_filter_le _ _) (by rw [List.length_take]; omega)
def u64N (l : List Nat) : List Value := l.map fun x => .int .u64 ((x : Nat) : Int)
theorem u64N_len (l : List Nat) : (u64N l).length = l.length := by simp [u64N]
theorem u64N_snoc (l : List Nat) (x : Nat) : u64N (l ++ [x]) = u64N l ++ [.int .u64 (x : Nat)] := by unfold u64N; rw [List.map_append]; rfl
theorem u64_info10 : (Tryz.prog.info? 30).map (fun i => (i.zero, i.size, i.bytes)) = some (some (.int .u64 0), 1, 8) := by kernel_rfl
theorem news_one10 (w : World) (v : Value) (e : TypeId) : ∀ j u, [v][j]? = some u → (w.alloc (.cells #[v] e)).cell? ((⟨w.heap.size, 0, none⟩ : Addr).add j) = some u := by
 intro j u hu
 match j, hu with
 | 0, hu =>
  injection hu with hu
  subst hu
  show (w.alloc _).cell? ⟨w.heap.size, 0, none⟩ = _
  rw [cell_of_row _ _ _ _ _ (0, 0) (heap_alloc_new w _)]; rfl
theorem own_sl10 {w : World} {B n s : Nat} {e : TypeId} {v : Value} {xs : List Value} (h : w.ownsRow B e s v n xs) : ∃ q c, v = .slice q n c := by
 rcases h.2 with ⟨rfl, h0⟩ | ⟨g, cap, cur, rfl, _⟩
 ·exact ⟨none, 0, by rw [h0]⟩
 ·exact ⟨_, _, rfl⟩
set_option maxRecDepth 100000
open Go.RowKit
set_option linter.unusedVariables false
set_option linter.unusedSimpArgs false
attribute [local go_sem ↓] Go.wp_at_zero Go.wp_at_succ

def errE (o : Option Nat) (e : Int) : Int := if o.isSome = true then 0 else e
theorem u64N_get {l : List Nat} {k x : Nat} (h : l[k]? = some x) : (u64N l)[k]? = some (.int .u64 (x : Nat)) := by
 unfold u64N; rw [List.getElem?_map, h]; rfl
end Go.Proofs.YtlenjfodjkhpmaaGreatDoor
