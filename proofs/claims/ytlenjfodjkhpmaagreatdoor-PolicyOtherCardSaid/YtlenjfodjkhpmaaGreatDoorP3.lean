/- What the document's own Set returns: a policy after an assignment, and notes with its file and line. Conditions: lists of at most 1,000,000 calls, a value of at most 1,000 bytes. -/
import Derived.Test.YtlenjfodjkhpmaaGreatDoorFB
import Derived.Test.YtlenjfodjkhpmaaGreatDoorTq
import Derived.Test.YtlenjfodjkhpmaaGreatDoorJa
import Derived.Deep.RegionHeld3
import Derived.Deep.AppendLies
import Derived.Test.YtlenjfodjkhpmaaGreatDoorWd
import Derived.Deep.DrawnRows
import Derived.RegionTactic
import Derived.BigRegion
import Derived.Deep.MidRow
namespace Go.Proofs.YtlenjfodjkhpmaaGreatDoor
set_option maxRecDepth 100000
open Go.RowKit Go.Shelf
set_option linter.unusedVariables false
set_option linter.unusedSimpArgs false
attribute [local go_sem ↓] Go.wp_at_zero Go.wp_at_succ

theorem step_all (m : Nat) (q : Option Addr) (n cap : Nat) (L : List Cl) (v : ByteArray) (sfx : Bool) (w : World) (hG : GN w) (hmm : m < 256) (hl : n = L.length) (hn : n ≤ 100000) (ha : ∀ e ∈ L, e.2 < 4294967296) (hv : v.size ≤ 1000) (h : LsAt w q L) : Calls Tryz.prog 152 #[lsV m q n cap, .string v, .bool sfx] w fun e w' => ∃ q' n' c' vN, e = .returned (.tuple #[lsV (stepA sfx v (m, L)).1.1 q' n' c', vN]) ∧ n' = (stepA sfx v (m, L)).1.2.length ∧ w'.ownsRow w.heap.size 67 2 (.slice q' n' c') n' (rowC encC (stepA sfx v (m, L)).1.2) ∧ w'.ownsRow w.heap.size 57 4 vN (stepA sfx v (m, L)).2.length (rowC encN ((stepA sfx v (m, L)).2.map nteS)) ∧ Below w.heap.size w w' := by
 unfold stepA
 cases hm : mayR knownR m L with
 | false =>
  rw [if_neg Bool.noConfusion]
  exact (step_no m q n cap L v sfx w hG hmm hl hn ha hv h hm).mono fun e w' ⟨q', n', c', h1, h2, h3, h4⟩ => ⟨q', n', c', _, h1, h2, h3, World.ownsRow_nil _ _ _ _, h4⟩
 | true =>
  rw [if_pos rfl]
  by_cases h0 : wdL v.data.toList = []
  ·rw [show stepC knownR grpX sfx v (m, L) = ((0, []), []) by unfold stepC; rw [if_pos h0]]
   exact (step_nil m q n cap L v sfx w hG hmm hl hn ha hv h hm h0).mono fun e w' ⟨h1, h2⟩ => ⟨none, 0, 0, _, h1, rfl, World.ownsRow_nil _ _ _ _, World.ownsRow_nil _ _ _ _, h2⟩
  ·exact step_go m q n cap L v sfx w hG hmm hl hn ha hv h hm h0
set_option maxRecDepth 100000
open Go.RowKit
set_option linter.unusedVariables false
set_option linter.unusedSimpArgs false
attribute [local go_sem ↓] Go.wp_at_zero Go.wp_at_succ

abbrev kFil : ByteArray := bs [83, 121, 115, 116, 101, 109, 67, 97, 108, 108, 70, 105, 108, 116, 101, 114]
abbrev kLog : ByteArray := bs [83, 121, 115, 116, 101, 109, 67, 97, 108, 108, 76, 111, 103]
abbrev kErr : ByteArray := bs [83, 121, 115, 116, 101, 109, 67, 97, 108, 108, 69, 114, 114, 111, 114, 78, 117, 109, 98, 101, 114]
abbrev kKil : ByteArray := bs [107, 105, 108, 108]
structure Pol where
 ar : List Int
 fl : Nat × List Cl
 dn : Nat
 lg : Nat × List Cl
 fa : List Nat
 fm : Nat
 sp : Nat
 b1 : Bool
 b2 : Bool
 b3 : Bool
 b4 : Bool
structure Pls where
 aq : Option Addr
 an : Nat
 ac : Nat
 fq : Option Addr
 fn : Nat
 fc : Nat
 lq : Option Addr
 ln : Nat
 lc : Nat
 mq : Option Addr
 mn : Nat
 mc : Nat
def plC (p : Pls) (P : Pol) : List Value := [.slice p.aq p.an p.ac, .int .u8 (P.fl.1 : Nat), .slice p.fq p.fn p.fc, .int .u32 (P.dn : Nat), .int .u8 (P.lg.1 : Nat), .slice p.lq p.ln p.lc, .slice p.mq p.mn p.mc, .int .u8 (P.fm : Nat), .int .u64 (P.sp : Nat), .bool P.b1, .bool P.b2, .bool P.b3, .bool P.b4]
def plV (p : Pls) (P : Pol) : Value := .agg (plC p P).toArray
theorem plC_len (p : Pls) (P : Pol) : (plC p P).length = 13 := rfl
theorem plC_one (p : Pls) (P : Pol) : (plC p P).toArray.all (·.oneCell') = true := by unfold plC; simp [Value.oneCell']
theorem pl_info : (Tryz.prog.info? 32).map (·.size) = some 13 := by kernel_rfl
def NumsAt (k : IntKind) (w : World) (q : Option Addr) (l : List Int) : Prop := ∀ i x, l[i]? = some x → ∃ g o, q = some ⟨g, o, none⟩ ∧ w.cell? ⟨g, o + i, none⟩ = some (.int k x)
theorem NumsAt.on {k : IntKind} {w w' : World} {q : Option Addr} {l : List Int} (h : NumsAt k w q l) (hb : Below w.heap.size w w') : NumsAt k w' q l := fun i x hx => by
 obtain ⟨g, o, e, hc⟩ := h i x hx
 exact ⟨g, o, e, (hb.cell (World.block_lt_of_cell? w _ hc)).trans hc⟩
structure PolAt (w : World) (p : Pls) (P : Pol) : Prop where
 al : p.an = P.ar.length
 fl : p.fn = P.fl.2.length
 ll : p.ln = P.lg.2.length
 ml : p.mn = P.fa.length
 ar : NumsAt .i64 w p.aq P.ar
 fi : LsAt w p.fq P.fl.2
 lo : LsAt w p.lq P.lg.2
 fa : NumsAt .u32 w p.mq (P.fa.map fun (x : Nat) => (x : Int))
theorem PolAt.on {w w' : World} {p : Pls} {P : Pol} (h : PolAt w p P) (b : Below w.heap.size w w') : PolAt w' p P := ⟨h.al, h.fl, h.ll, h.ml, h.ar.on b, h.fi.on b, h.lo.on b, h.fa.on b⟩
structure Pol.Ok (P : Pol) : Prop where
 f8 : P.fl.1 < 256
 l8 : P.lg.1 < 256
 m8 : P.fm < 256
 d32 : P.dn < 4294967296
 s64 : P.sp < 18446744073709551616
 f32 : ∀ e ∈ P.fl.2, e.2 < 4294967296
 l32 : ∀ e ∈ P.lg.2, e.2 < 4294967296
 a64 : ∀ x ∈ P.ar, (Lit.int .i64 x).wf = true
 m32 : ∀ x ∈ P.fa, x < 4294967296
structure As where
 file : ByteArray
 line : Int
 sec : ByteArray
 key : ByteArray
 val : ByteArray
def asC (a : As) : List Value := [.string a.file, .int .i64 a.line, .string a.sec, .string a.key, .string a.val]
def asV (a : As) : Value := .agg #[.string a.file, .int .i64 a.line, .string a.sec, .string a.key, .string a.val]
def errnoF (s : ByteArray) : Nat × Int := if s = ⟨#[]⟩ ∨ s = kKil then (2147483648, 0) else match errnoR s with | some n => (327680 + n, 0) | none => (0, 160)
def keyF (s : ByteArray) : Bool := decide (s = kFil) || decide (s = kLog) || decide (s = kErr)
def setF (P : Pol) (k v : ByteArray) : Pol × List (Int × ByteArray) :=
 if k = kFil then ({ P with fl := (stepA true v P.fl).1 }, (stepA true v P.fl).2)
 else if k = kLog then ({ P with lg := (stepA false v P.lg).1 }, (stepA false v P.lg).2)
 else if k = kErr then (if (errnoF v).2 = 0 then ({ P with dn := (errnoF v).1 }, []) else (P, [((errnoF v).2, bs (v.data.toList.take 60))]))
 else (P, [])
def nteP (a : As) (x : Int × ByteArray) : Nte := ⟨a.file, a.line, x.1, x.2⟩
theorem eq_str {a : ByteArray} {l : List UInt8} (h : a = bs l) : (a.toList == l) = true := by rw [h, bs_toList]; simp
theorem ne_str {a : ByteArray} {l : List UInt8} (h : a ≠ bs l) : (a.toList == l) = false := beq_eq_false_iff_ne.2 (fun e => h (list_of_bytes10 (e.trans (bs_toList l).symm)))
set_option maxRecDepth 100000
open Go.RowKit
set_option linter.unusedVariables false
set_option linter.unusedSimpArgs false
attribute [local go_sem ↓] Go.wp_at_zero Go.wp_at_succ

def plN (a : As) (x : Nte) : Nte := ⟨a.file, a.line, x.err, x.text⟩
theorem row_nte {w : World} {q : Option Addr} {n c : Nat} {N : List Nte} (h : RowsAt 4 encN w (.slice q n c) N) {k : Nat} {x : Nte} (hx : N[k]? = some x) : ∃ g o, q = some ⟨g, o, none⟩ ∧ w.cell? ⟨g, o + k * 4, none⟩ = some (.string x.file) ∧ w.cell? ⟨g, o + k * 4 + 1, none⟩ = some (.int .i64 x.line) ∧ w.cell? ⟨g, o + k * 4 + 2, none⟩ = some (.int .i64 x.err) ∧ w.cell? ⟨g, o + k * 4 + 3, none⟩ = some (.string x.text) := by
 obtain ⟨q', c', e, hr⟩ := h
 injection e with e1 _ _
 subst e1
 obtain ⟨g, o, e, hc⟩ := hr k x hx
 exact ⟨g, o, e, hc 0 _ rfl, hc 1 _ rfl, hc 2 _ rfl, hc 3 _ rfl⟩
set_option maxRecDepth 100000
open Go.ChangeShapes Go.WideShapes Go.ChangeAt Go.RowKit
set_option linter.unusedVariables false
attribute [local go_sem ↓] Go.wp_at_zero Go.wp_at_succ

def RdZ (w : World) (B : Nat) (p : Option Addr) (l : List Int) : Prop := 0 < l.length → ∃ b o, p = some ⟨b, o, none⟩ ∧ b < B ∧ ∀ i, i < l.length → w.cell? ⟨b, o + i, none⟩ = some (.int .i64 (l.getD i 0))
theorem RdZ.on {w w' : World} {p : Option Addr} {l : List Int} (h : RdZ w w.heap.size p l) (hb : Below w.heap.size w w') : RdZ w' w'.heap.size p l := fun h0 => by
 obtain ⟨b, o, rfl, hlt, hc⟩ := h h0
 exact ⟨b, o, rfl, Nat.lt_of_lt_of_le hlt hb.size, fun i hi => (hb.cell (p := ⟨b, o + i, none⟩) hlt).trans (hc i hi)⟩
def archN : List ByteArray := [⟨#[120, 56, 54, 45, 54, 52]⟩, ⟨#[120, 56, 54]⟩, ⟨#[120, 51, 50]⟩, ⟨#[97, 114, 109]⟩, ⟨#[97, 114, 109, 54, 52]⟩, ⟨#[114, 105, 115, 99, 118, 54, 52]⟩]
def archT : List Int := [3221225534, 1073741827, 3221225534, 1073741864, 3221225655, 3221225715]
def nameA8 (a : Int) : ByteArray := if 0 ≤ a ∧ a < 6 then archN.getD a.toNat ⟨#[]⟩ else ⟨#[]⟩
def tokR (a : Int) : Int := if 0 ≤ a ∧ a < 6 then archT.getD a.toNat 0 else 0
def findN (s : ByteArray) : Option Nat := archN.findIdx? (fun x => decide (x = s))
def parR (s : ByteArray) : Int × Int := match findN s with | some k => ((k : Nat), 0) | none => if s = ⟨#[110, 97, 116, 105, 118, 101]⟩ then (0, 0) else (0, 80)
theorem list_of_bytes8 {a b : ByteArray} (h : a.toList = b.toList) : a = b := by
 apply ByteArray.ext
 have h2 := congrArg List.toArray h
 simpa [ByteArray.toList_eq] using h2
theorem getD_of {α : Type} {l : List α} {k : Nat} {d : α} (h : k < l.length) : l.getD k d = l[k] := by rw [List.getD_eq_getElem?_getD, List.getElem?_eq_getElem h]; rfl
theorem findN_hit {s : ByteArray} {k : Nat} (hk : k < 6) (h : archN.getD k ⟨#[]⟩ = s) (hm : ∀ j, j < k → archN.getD j ⟨#[]⟩ ≠ s) : findN s = some k := by
 have hl : archN.length = 6 := rfl
 unfold findN
 rw [List.findIdx?_eq_some_iff_getElem]
 refine ⟨by omega, ?_, fun j hj => ?_⟩
 ·rw [← getD_of (d := ⟨#[]⟩) (by omega), h]; simp
 ·rw [← getD_of (d := ⟨#[]⟩) (by omega), decide_eq_false (hm j hj)]; decide
theorem findN_miss {s : ByteArray} (hm : ∀ j, j < 6 → archN.getD j ⟨#[]⟩ ≠ s) : findN s = none := by
 have hl : archN.length = 6 := rfl
 unfold findN
 rw [List.findIdx?_eq_none_iff]
 intro x hx
 obtain ⟨j, hj, e⟩ := List.mem_iff_getElem.1 hx
 exact decide_eq_false (by rw [← e, ← getD_of (d := ⟨#[]⟩) hj]; exact hm j (by omega))
set_option maxRecDepth 100000
open Go.RowKit
set_option linter.unusedVariables false
set_option linter.unusedSimpArgs false

abbrev kArc : ByteArray := bs [83, 121, 115, 116, 101, 109, 67, 97, 108, 108, 65, 114, 99, 104, 105, 116, 101, 99, 116, 117, 114, 101, 115]
abbrev kFam : ByteArray := bs [82, 101, 115, 116, 114, 105, 99, 116, 65, 100, 100, 114, 101, 115, 115, 70, 97, 109, 105, 108, 105, 101, 115]
abbrev kSpa : ByteArray := bs [82, 101, 115, 116, 114, 105, 99, 116, 78, 97, 109, 101, 115, 112, 97, 99, 101, 115]
abbrev kWri : ByteArray := bs [77, 101, 109, 111, 114, 121, 68, 101, 110, 121, 87, 114, 105, 116, 101, 69, 120, 101, 99, 117, 116, 101]
abbrev kPer : ByteArray := bs [76, 111, 99, 107, 80, 101, 114, 115, 111, 110, 97, 108, 105, 116, 121]
abbrev kRea : ByteArray := bs [82, 101, 115, 116, 114, 105, 99, 116, 82, 101, 97, 108, 116, 105, 109, 101]
abbrev kNop : ByteArray := bs [78, 111, 78, 101, 119, 80, 114, 105, 118, 105, 108, 101, 103, 101, 115]

def keyR18 (s : ByteArray) : Bool := decide (s = kArc) || decide (s = kFam) || decide (s = kSpa) || decide (s = kWri) || decide (s = kPer) || decide (s = kRea) || decide (s = kNop)
def insU {α : Type} [DecidableEq α] (lt : α → α → Bool) (n : α) : List α → List α
 | [] => [n]
 | a :: r => if n = a then a :: r else if lt n a = true then n :: a :: r else a :: insU lt n r
def ltI (a b : Int) : Bool := decide (a < b)
def ltN18 (a b : Nat) : Bool := decide (a < b)
structure Ord18 {α : Type} (lt : α → α → Bool) : Prop where
 tr : ∀ a b c, lt a b = true → lt b c = true → lt a c = true
 tot : ∀ a b, a ≠ b → lt a b = false → lt b a = true
theorem ordI : Ord18 ltI := ⟨fun a b c h1 h2 => by unfold ltI at *; simp at *; omega, fun a b h1 h2 => by unfold ltI at *; simp at *; omega⟩
theorem ordN : Ord18 ltN18 := ⟨fun a b c h1 h2 => by unfold ltN18 at *; simp at *; omega, fun a b h1 h2 => by unfold ltN18 at *; simp at *; omega⟩
theorem mem_insU {α : Type} [DecidableEq α] {lt : α → α → Bool} {n x : α} : ∀ {l : List α}, x ∈ insU lt n l ↔ x = n ∨ x ∈ l
 | [] => by simp [insU]
 | a :: r => by
   unfold insU
   by_cases h1 : n = a
   ·rw [if_pos h1]; subst h1; simp
   ·rw [if_neg h1]
    by_cases h2 : lt n a = true
    ·rw [if_pos h2]; simp
    ·rw [if_neg h2, List.mem_cons, mem_insU (l := r), List.mem_cons]
     constructor
     ·rintro (h | h | h)
      ·exact .inr (.inl h)
      ·exact .inl h
      ·exact .inr (.inr h)
     ·rintro (h | h | h)
      ·exact .inr (.inl h)
      ·exact .inl h
      ·exact .inr (.inr h)
theorem len_insU {α : Type} [DecidableEq α] {lt : α → α → Bool} {n : α} : ∀ {l : List α}, (insU lt n l).length ≤ l.length + 1
 | [] => Nat.le_refl _
 | a :: r => by
   unfold insU
   split
   ·exact Nat.le_succ _
   ·split
    ·exact Nat.le_refl _
    ·have := len_insU (lt := lt) (n := n) (l := r)
     simp only [List.length_cons]
     omega
theorem pair_insU {α : Type} [DecidableEq α] {lt : α → α → Bool} (O : Ord18 lt) {n : α} : ∀ {l : List α}, l.Pairwise (fun a b => lt a b = true) → (insU lt n l).Pairwise (fun a b => lt a b = true)
 | [], _ => List.pairwise_singleton _ _
 | a :: r, h => by
   obtain ⟨h1, h2⟩ := List.pairwise_cons.1 h
   unfold insU
   by_cases e1 : n = a
   ·rw [if_pos e1]; exact h
   ·rw [if_neg e1]
    by_cases e2 : lt n a = true
    ·rw [if_pos e2]
     exact List.pairwise_cons.2 ⟨fun b hb => by
      rcases List.mem_cons.1 hb with rfl | hb
      ·exact e2
      ·exact O.tr _ _ _ e2 (h1 b hb), h⟩
    ·rw [if_neg e2]
     refine List.pairwise_cons.2 ⟨fun b hb => ?_, pair_insU O h2⟩
     rcases mem_insU.1 hb with rfl | hb
     ·exact O.tot _ _ e1 (by simpa using e2)
     ·exact h1 b hb
/-! ### the four kinds of keys -/
def t60 (w : List UInt8) : ByteArray := bs (w.take 60)
def arcS (r : List Int × List (Int × ByteArray)) (w : List UInt8) : List Int × List (Int × ByteArray) := if (parR (bs w)).2 = 0 then (insU ltI (parR (bs w)).1 r.1, r.2) else (r.1, r.2 ++ [((parR (bs w)).2, t60 w)])
def arcF (l : List Int) (v : ByteArray) : List Int × List (Int × ByteArray) := if wdL v.data.toList = [] then ([], []) else (wdL v.data.toList).foldl arcS (l, [])
def famS (put : Bool) (r : List Nat × List (Int × ByteArray)) (w : List UInt8) : List Nat × List (Int × ByteArray) :=
 match findR famT (bs w) with
 | some n => (if put = true then insU ltN18 n r.1 else r.1.filter (fun x => x != n), r.2)
 | none => (r.1, r.2 ++ [(180, t60 w)])
def mdF (m : Nat) (T : Bool) : Nat := if m = 0 then (if T = true then 2 else 1) else m
def famF (pb : Bool) (m : Nat) (l : List Nat) (v : ByteArray) : (Nat × List Nat) × List (Int × ByteArray) :=
 if wdL v.data.toList = [] then ((0, []), [])
 else if wdL v.data.toList = [[110, 111, 110, 101]] then ((1, []), [])
 else ((mdF m (turnR v).2, ((wdL (turnR v).1.data.toList).foldl (famS pb) (l, [])).1), ((wdL (turnR v).1.data.toList).foldl (famS pb) (l, [])).2)
def putB18 (m : Nat) (v : ByteArray) : Bool := (turnR v).2 == decide (mdF m (turnR v).2 = 2)
def spcN (w : List UInt8) : Nat := (findR spcT (bs w)).getD 0
def spcB (w : List UInt8) : Bool := (findR spcT (bs w)).isNone
def orL : List (List UInt8) → Nat
 | [] => 0
 | w :: r => spcN w ||| orL r
def spaF (x : Nat) (v : ByteArray) : Nat × List (Int × ByteArray) :=
 if wdL v.data.toList = [] ∨ boolR v = some false then (0, [])
 else if boolR v = some true then (allN, [])
 else if (wdL (turnR v).1.data.toList).any spcB = true then (x, ((wdL (turnR v).1.data.toList).filter spcB).map fun w => (181, t60 w))
 else (if (turnR v).2 = true then orL (wdL (turnR v).1.data.toList) else allN - orL (wdL (turnR v).1.data.toList), [])
def flgF (b : Bool) (v : ByteArray) : Bool × List (Int × ByteArray) :=
 if v = ⟨#[]⟩ then (false, []) else match boolR v with | some x => (x, []) | none => (b, [(150, t60 v.data.toList)])
def setR (pb : Bool) (P : Pol) (k v : ByteArray) : Pol × List (Int × ByteArray) :=
 if k = kArc then ({ P with ar := (arcF P.ar v).1 }, (arcF P.ar v).2)
 else if k = kFam then ({ P with fa := (famF pb P.fm P.fa v).1.2, fm := (famF pb P.fm P.fa v).1.1 }, (famF pb P.fm P.fa v).2)
 else if k = kSpa then ({ P with sp := (spaF P.sp v).1 }, (spaF P.sp v).2)
 else if k = kWri then ({ P with b1 := (flgF P.b1 v).1 }, (flgF P.b1 v).2)
 else if k = kPer then ({ P with b2 := (flgF P.b2 v).1 }, (flgF P.b2 v).2)
 else if k = kRea then ({ P with b3 := (flgF P.b3 v).1 }, (flgF P.b3 v).2)
 else if k = kNop then ({ P with b4 := (flgF P.b4 v).1 }, (flgF P.b4 v).2)
 else (P, [])
/-! ### what they keep -/
structure Rises18 (P : Pol) : Prop where
 ar : P.ar.Pairwise fun a b => ltI a b = true
 fa : P.fa.Pairwise fun a b => ltN18 a b = true
theorem parR_lt (s : ByteArray) (h : (parR s).2 = 0) : 0 ≤ (parR s).1 ∧ (parR s).1 < 6 := by
 unfold parR at *
 cases e : findN s with
 | some k =>
  simp only
  have := (List.findIdx?_eq_some_iff_getElem.1 e).1
  have h6 : archN.length = 6 := rfl
  omega
 | none =>
  rw [e] at h
  simp only at h ⊢
  split
  ·exact ⟨by decide, by decide⟩
  ·rename_i hn
   rw [if_neg hn] at h
   exact absurd h (by decide)
theorem parR_err (s : ByteArray) : (parR s).2 = 0 ∨ (parR s).2 = 80 := by
 unfold parR
 split
 ·exact .inl rfl
 ·split
  ·exact .inl rfl
  ·exact .inr rfl
theorem arcS_pair : ∀ (ws : List (List UInt8)) (r : List Int × List (Int × ByteArray)), (r.1.Pairwise fun a b => ltI a b = true) → ((ws.foldl arcS r).1.Pairwise fun a b => ltI a b = true)
 | [], r, h => h
 | w :: ws, r, h => arcS_pair ws _ (by unfold arcS; split; exact pair_insU ordI h; exact h)
theorem famS_pair (b : Bool) : ∀ (ws : List (List UInt8)) (r : List Nat × List (Int × ByteArray)), (r.1.Pairwise fun a b => ltN18 a b = true) → ((ws.foldl (famS b) r).1.Pairwise fun a b => ltN18 a b = true)
 | [], r, h => h
 | w :: ws, r, h => famS_pair b ws _ (by
   unfold famS
   split
   ·show (List.Pairwise _ (if _ then _ else _))
    split
    ·exact pair_insU ordN h
    ·exact h.filter _
   ·exact h)
theorem arcF_pair {l : List Int} {v : ByteArray} (h : l.Pairwise fun a b => ltI a b = true) : (arcF l v).1.Pairwise fun a b => ltI a b = true := by
 unfold arcF
 split
 ·exact List.Pairwise.nil
 ·exact arcS_pair _ _ h
theorem famF_pair {pb : Bool} {m : Nat} {l : List Nat} {v : ByteArray} (h : l.Pairwise fun a b => ltN18 a b = true) : (famF pb m l v).1.2.Pairwise fun a b => ltN18 a b = true := by
 unfold famF
 split
 ·exact List.Pairwise.nil
 ·split
  ·exact List.Pairwise.nil
  ·exact famS_pair _ _ _ h
theorem setR_rises {pb : Bool} {P : Pol} {k v : ByteArray} (h : Rises18 P) : Rises18 (setR pb P k v).1 := by
 unfold setR
 split
 ·exact ⟨arcF_pair h.ar, h.fa⟩
 split
 ·exact ⟨h.ar, famF_pair h.fa⟩
 repeat' split
 all_goals exact ⟨h.ar, h.fa⟩
set_option maxRecDepth 100000
open Go.RowKit
set_option linter.unusedVariables false
set_option linter.unusedSimpArgs false
attribute [local go_sem ↓] Go.wp_at_zero Go.wp_at_succ

section
variable {ops : Array Oper} {o : Oper} {a : Act} {w : World} {K : Act → World → Prop} {Q : Exit → Act → World → Prop} {E : Prop}
theorem step_store17 (hgd : o.guard = none) (ty : TypeId) (x y : Operand) (ho : o.op = .store ty x y) (b i : Nat) (cells : Array Value) (hx : a.eval x = .pointer (some ⟨b, i, none⟩)) (hy : a.eval y = .agg cells)
 (ht : w.there b i cells.size) (hi : (Tryz.prog.info? ty).map (·.size) = some cells.size) (h1 : cells.all (·.oneCell') = true) (h : K (a.put o.dst undef) (w.setCells b i cells.toList)) : if Region.wanted o (yielded ops a.tmps) = true then Oper.wp Tryz.prog o a w K Q else E := by
 rw [if_pos (by unfold Region.wanted; rw [hgd])]
 exact wp_store_mid ty x y ho b i cells hx hy ht hi h1 h
end
theorem there_row17 {W : World} {b i n : Nat} {cs : List Value} {t : TypeId} (h : W.heap[b]? = some (.cells cs.toArray t (0, 0))) (hn : i + n ≤ cs.length) : W.there b i n := fun j hj => by
 refine ⟨?_, frozen_of_row _ _ _ _ _ h⟩
 rw [cell_of_row W b (i + j) _ _ (0, 0) h]
 simp
 omega
theorem set_row17 {W : World} {b : Nat} {t : TypeId} {fz : Nat × Nat} : ∀ (vs : List Value) (i : Nat) (cs : List Value) (W : World), W.heap[b]? = some (.cells cs.toArray t fz) → i + vs.length ≤ cs.length → (W.setCells b i vs).heap[b]? = some (.cells (cs.take i ++ vs ++ cs.drop (i + vs.length)).toArray t fz)
 | [], i, cs, W, h, _ => by
   show W.heap[b]? = _
   rw [h, List.append_nil, List.length_nil, Nat.add_zero, List.take_append_drop]
 | v :: r, i, cs, W, h, hl => by
   have h1 : (W.setCell ⟨b, i, none⟩ v).heap[b]? = some (.cells (cs.set i v).toArray t fz) := by simp [World.setCell, Array.getElem?_modify, h]
   have ih := set_row17 (W := W) (b := b) r (i + 1) (cs.set i v) _ h1 (by simp at hl ⊢; omega)
   show ((W.setCell ⟨b, i, none⟩ v).setCells b (i + 1) r).heap[b]? = _
   rw [ih]
   congr 3
   have hi : i < cs.length := by simp at hl; omega
   rw [List.length_cons, show i + (r.length + 1) = i + 1 + r.length by omega, List.drop_set_of_lt (by omega)]
   congr 1
   rw [show cs.take i ++ v :: r = (cs.take i ++ [v]) ++ r by simp]
   congr 1
   rw [List.take_add_one, List.take_set_of_le (Nat.le_refl _)]
   simp [hi]
structure S17 (w : World) (p : Pls) (P : Pol) (a : As) (V : World) : Prop where
 bel : Below w.heap.size w V
 pol : V.heap[w.heap.size]? = some (.cells (plC p P).toArray 32 (0, 0))
 asg : V.heap[w.heap.size + 1]? = some (.cells (asC a).toArray 37 (0, 0))
 res : V.heap[w.heap.size + 2]? = some (.cells ([.slice none 0 0, .int .u8 0, .slice none 0 0, .int .u32 0, .int .u8 0, .slice none 0 0, .slice none 0 0, .int .u8 0, .int .u64 0, .bool false, .bool false, .bool false, .bool false] : List Value).toArray 32 (0, 0))
theorem S17.on {w : World} {p : Pls} {P : Pol} {a : As} {V V' : World} (h : S17 w p P a V) (b : Below V.heap.size V V') : S17 w p P a V' :=
 ⟨thn16 h.bel b, (b.block _ (Array.getElem?_eq_some_iff.1 h.pol).1).trans h.pol, (b.block _ (Array.getElem?_eq_some_iff.1 h.asg).1).trans h.asg, (b.block _ (Array.getElem?_eq_some_iff.1 h.res).1).trans h.res⟩
theorem S17.start (w : World) (p : Pls) (P : Pol) (a : As) : S17 w p P a (((w.alloc (.cells (plC p P).toArray 32)).alloc (.cells (asC a).toArray 37)).alloc (.cells ([.slice none 0 0, .int .u8 0, .slice none 0 0, .int .u32 0, .int .u8 0, .slice none 0 0, .slice none 0 0, .int .u8 0, .int .u64 0, .bool false, .bool false, .bool false, .bool false] : List Value).toArray 32)) := by
 obtain ⟨X, hX⟩ : ∃ X, X = w.alloc (.cells (plC p P).toArray 32) := ⟨_, rfl⟩
 obtain ⟨Y, hY⟩ : ∃ Y, Y = X.alloc (.cells (asC a).toArray 37) := ⟨_, rfl⟩
 obtain ⟨Z, hZ⟩ : ∃ Z, Z = Y.alloc (.cells ([.slice none 0 0, .int .u8 0, .slice none 0 0, .int .u32 0, .int .u8 0, .slice none 0 0, .slice none 0 0, .int .u8 0, .int .u64 0, .bool false, .bool false, .bool false, .bool false] : List Value).toArray 32) := ⟨_, rfl⟩
 rw [← hX, ← hY, ← hZ]
 have sX : X.heap.size = w.heap.size + 1 := by rw [hX, World.size_alloc]
 have sY : Y.heap.size = w.heap.size + 2 := by rw [hY, World.size_alloc, sX]
 have b1 : Below w.heap.size w X := hX ▸ below16 w _
 have b2 : Below X.heap.size X Y := hY ▸ below16 X _
 have b3 : Below Y.heap.size Y Z := hZ ▸ below16 Y _
 have r1 : X.heap[w.heap.size]? = some (.cells (plC p P).toArray 32 (0, 0)) := by rw [hX]; exact heap_alloc_new w _
 have r2 : Y.heap[w.heap.size + 1]? = some (.cells (asC a).toArray 37 (0, 0)) := by rw [hY, ← sX]; exact heap_alloc_new X _
 have r3 : Z.heap[w.heap.size + 2]? = some (.cells ([.slice none 0 0, .int .u8 0, .slice none 0 0, .int .u32 0, .int .u8 0, .slice none 0 0, .slice none 0 0, .int .u8 0, .int .u64 0, .bool false, .bool false, .bool false, .bool false] : List Value).toArray 32 (0, 0)) := by rw [hZ, ← sY]; exact heap_alloc_new Y _
 exact ⟨thn16 b1 (thn16 b2 b3), (b3.block _ (by omega)).trans ((b2.block _ (by omega)).trans r1), (b3.block _ (by omega)).trans r2, r3⟩
theorem S17.store {w : World} {p p' : Pls} {P P' : Pol} {a : As} {V : World} (h : S17 w p P a V) (i : Nat) (vs : List Value) (hi : i + vs.length ≤ 13) (he : (plC p P).take i ++ vs ++ (plC p P).drop (i + vs.length) = plC p' P') : S17 w p' P' a (V.setCells w.heap.size i vs) :=
 ⟨below_setCells16 (Nat.le_refl _) _ _ _ h.bel, by rw [set_row17 (W := V) vs i _ V h.pol (by rw [plC_len]; exact hi), he], (heap_setCells16 V _ _ (by omega) _ _).trans h.asg, (heap_setCells16 V _ _ (by omega) _ _).trans h.res⟩
theorem rows_box17 {W : World} {b : Nat} {cs : Array Value} {fz : Nat × Nat} (hb : W.heap[b]? = some (.cells cs 32 fz)) {B s k i : Nat} {t : TypeId} (ht : t ≠ 32) {u : Value} {xs : List Value} (ho : W.ownsRow B t s u k xs) (l : List Value) : (W.setCells b i l).ownsRow B t s u k xs := owns_same16 ho fun g cs fz _ hk => (heap_setCells16 W _ _ (ne_type16 hk hb ht) _ _).trans hk
theorem cells17 {V : World} {p : Pls} {P : Pol} {a : As} {g g' : Nat} (h : V.heap[g]? = some (.cells (plC p P).toArray 32 (0, 0))) (k : V.heap[g']? = some (.cells (asC a).toArray 37 (0, 0))) : V.cell? ⟨g, 0, none⟩ = some (.slice p.aq p.an p.ac) ∧ V.cell? ⟨g, 1, none⟩ = some (.int .u8 (P.fl.1 : Nat)) ∧ V.cell? ⟨g, 2, none⟩ = some (.slice p.fq p.fn p.fc) ∧ V.cell? ⟨g, 3, none⟩ = some (.int .u32 (P.dn : Nat)) ∧ V.cell? ⟨g, 4, none⟩ = some (.int .u8 (P.lg.1 : Nat)) ∧ V.cell? ⟨g, 5, none⟩ = some (.slice p.lq p.ln p.lc) ∧ V.cell? ⟨g, 6, none⟩ = some (.slice p.mq p.mn p.mc) ∧ V.cell? ⟨g, 7, none⟩ = some (.int .u8 (P.fm : Nat)) ∧ V.cell? ⟨g, 8, none⟩ = some (.int .u64 (P.sp : Nat)) ∧ V.cell? ⟨g, 9, none⟩ = some (.bool P.b1) ∧ V.cell? ⟨g, 10, none⟩ = some (.bool P.b2) ∧ V.cell? ⟨g, 11, none⟩ = some (.bool P.b3) ∧ V.cell? ⟨g, 12, none⟩ = some (.bool P.b4) ∧ V.cell? ⟨g', 0, none⟩ = some (.string a.file) ∧ V.cell? ⟨g', 1, none⟩ = some (.int .i64 a.line) ∧ V.cell? ⟨g', 2, none⟩ = some (.string a.sec) ∧ V.cell? ⟨g', 3, none⟩ = some (.string a.key) ∧ V.cell? ⟨g', 4, none⟩ = some (.string a.val) :=
 ⟨(cell_of_row V g 0 _ _ (0, 0) h).trans rfl, (cell_of_row V g 1 _ _ (0, 0) h).trans rfl, (cell_of_row V g 2 _ _ (0, 0) h).trans rfl, (cell_of_row V g 3 _ _ (0, 0) h).trans rfl, (cell_of_row V g 4 _ _ (0, 0) h).trans rfl, (cell_of_row V g 5 _ _ (0, 0) h).trans rfl, (cell_of_row V g 6 _ _ (0, 0) h).trans rfl, (cell_of_row V g 7 _ _ (0, 0) h).trans rfl, (cell_of_row V g 8 _ _ (0, 0) h).trans rfl, (cell_of_row V g 9 _ _ (0, 0) h).trans rfl, (cell_of_row V g 10 _ _ (0, 0) h).trans rfl, (cell_of_row V g 11 _ _ (0, 0) h).trans rfl, (cell_of_row V g 12 _ _ (0, 0) h).trans rfl, (cell_of_row V g' 0 _ _ (0, 0) k).trans rfl, (cell_of_row V g' 1 _ _ (0, 0) k).trans rfl, (cell_of_row V g' 2 _ _ (0, 0) k).trans rfl, (cell_of_row V g' 3 _ _ (0, 0) k).trans rfl, (cell_of_row V g' 4 _ _ (0, 0) k).trans rfl⟩
end Go.Proofs.YtlenjfodjkhpmaaGreatDoor
