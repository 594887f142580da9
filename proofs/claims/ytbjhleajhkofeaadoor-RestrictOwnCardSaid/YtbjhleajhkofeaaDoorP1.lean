/- A policy, an assignment, as they lie in memory; what an assignment makes of a policy, as the chapter says; the document's own Errno, Key, Short. Conditions: strings of at most maxLen bytes. What the document's own Placed returns: notes with an assignment's file and line, in new memory. Condition: at most 100,000 notes that can be read. -/
import Derived.Test.YtbjhleajhkofeaaDoorTq
import Derived.Test.YtbjhleajhkofeaaDoorJa
import Derived.Deep.RegionHeld3
import Derived.Deep.AppendLies
namespace Go.Proofs.YtbjhleajhkofeaaDoor
open Go.RowKit
set_option linter.unusedVariables false
set_option linter.unusedSimpArgs false
attribute [local go_sem ↓] Go.wp_at_zero Go.wp_at_succ

/-- A policy: what it says. -/
structure Pol where
  ar : List Int
  fl : Nat × List Cl
  dn : Nat
  lg : Nat × List Cl
  fa : List Nat
  fm : Nat
  sp : Nat
  b1 : Bool
  b2 : Bool
  b3 : Bool
  b4 : Bool
/-- A policy: where its lists lie. -/
structure Pls where
  aq : Option Addr
  an : Nat
  ac : Nat
  fq : Option Addr
  fn : Nat
  fc : Nat
  lq : Option Addr
  ln : Nat
  lc : Nat
  mq : Option Addr
  mn : Nat
  mc : Nat
def plC (p : Pls) (P : Pol) : List Value := [.slice p.aq p.an p.ac, .int .u8 (P.fl.1 : Nat), .slice p.fq p.fn p.fc, .int .u32 (P.dn : Nat), .int .u8 (P.lg.1 : Nat), .slice p.lq p.ln p.lc, .slice p.mq p.mn p.mc, .int .u8 (P.fm : Nat), .int .u64 (P.sp : Nat), .bool P.b1, .bool P.b2, .bool P.b3, .bool P.b4]
def plV (p : Pls) (P : Pol) : Value := .agg (plC p P).toArray
theorem plC_len (p : Pls) (P : Pol) : (plC p P).length = 13 := rfl
theorem plC_one (p : Pls) (P : Pol) : (plC p P).toArray.all (·.oneCell') = true := by unfold plC; simp [Value.oneCell']
theorem pl_info : (Tryd.prog.info? 32).map (·.size) = some 13 := by kernel_rfl
/-- Numbers that can be read. -/
def NumsAt (k : IntKind) (w : World) (q : Option Addr) (l : List Int) : Prop := ∀ i x, l[i]? = some x → ∃ g o, q = some ⟨g, o, none⟩ ∧ w.cell? ⟨g, o + i, none⟩ = some (.int k x)
theorem NumsAt.on {k : IntKind} {w w' : World} {q : Option Addr} {l : List Int} (h : NumsAt k w q l) (hb : Below w.heap.size w w') : NumsAt k w' q l := fun i x hx => by
  obtain ⟨g, o, e, hc⟩ := h i x hx
  exact ⟨g, o, e, (hb.cell (World.block_lt_of_cell? w _ hc)).trans hc⟩
/-- A policy that can be read. -/
structure PolAt (w : World) (p : Pls) (P : Pol) : Prop where
  al : p.an = P.ar.length
  fl : p.fn = P.fl.2.length
  ll : p.ln = P.lg.2.length
  ml : p.mn = P.fa.length
  ar : NumsAt .i64 w p.aq P.ar
  fi : LsAt w p.fq P.fl.2
  lo : LsAt w p.lq P.lg.2
  fa : NumsAt .u32 w p.mq (P.fa.map fun (x : Nat) => (x : Int))
theorem PolAt.on {w w' : World} {p : Pls} {P : Pol} (h : PolAt w p P) (b : Below w.heap.size w w') : PolAt w' p P := ⟨h.al, h.fl, h.ll, h.ml, h.ar.on b, h.fi.on b, h.lo.on b, h.fa.on b⟩
/-- What a policy's numbers keep to. -/
structure Pol.Ok (P : Pol) : Prop where
  f8 : P.fl.1 < 256
  l8 : P.lg.1 < 256
  m8 : P.fm < 256
  d32 : P.dn < 4294967296
  s64 : P.sp < 18446744073709551616
  f32 : ∀ e ∈ P.fl.2, e.2 < 4294967296
  l32 : ∀ e ∈ P.lg.2, e.2 < 4294967296
  a64 : ∀ x ∈ P.ar, (Lit.int .i64 x).wf = true
  m32 : ∀ x ∈ P.fa, x < 4294967296
/-- An assignment. -/
structure As where
  file : ByteArray
  line : Int
  sec : ByteArray
  key : ByteArray
  val : ByteArray
def asC (a : As) : List Value := [.string a.file, .int .i64 a.line, .string a.sec, .string a.key, .string a.val]
def asV (a : As) : Value := .agg #[.string a.file, .int .i64 a.line, .string a.sec, .string a.key, .string a.val]
def nteP (a : As) (x : Int × ByteArray) : Nte := ⟨a.file, a.line, x.1, x.2⟩
theorem eq_str {a : ByteArray} {l : List UInt8} (h : a = bs l) : (a.toList == l) = true := by rw [h, bs_toList]; simp
theorem ne_str {a : ByteArray} {l : List UInt8} (h : a ≠ bs l) : (a.toList == l) = false := beq_eq_false_iff_ne.2 (fun e => h (list_of_bytes10 (e.trans (bs_toList l).symm)))
end Go.Proofs.YtbjhleajhkofeaaDoor
namespace Go.Proofs.YtbjhleajhkofeaaDoor
open Go.RowKit
set_option linter.unusedVariables false
set_option linter.unusedSimpArgs false
attribute [local go_sem ↓] Go.wp_at_zero Go.wp_at_succ

theorem row_nte {w : World} {q : Option Addr} {n c : Nat} {N : List Nte} (h : RowsAt 4 encN w (.slice q n c) N) {k : Nat} {x : Nte} (hx : N[k]? = some x) : ∃ g o, q = some ⟨g, o, none⟩ ∧ w.cell? ⟨g, o + k * 4, none⟩ = some (.string x.file) ∧ w.cell? ⟨g, o + k * 4 + 1, none⟩ = some (.int .i64 x.line) ∧ w.cell? ⟨g, o + k * 4 + 2, none⟩ = some (.int .i64 x.err) ∧ w.cell? ⟨g, o + k * 4 + 3, none⟩ = some (.string x.text) := by
  obtain ⟨q', c', e, hr⟩ := h
  injection e with e1 _ _
  subst e1
  obtain ⟨g, o, e, hc⟩ := hr k x hx
  exact ⟨g, o, e, hc 0 _ rfl, hc 1 _ rfl, hc 2 _ rfl, hc 3 _ rfl⟩
end Go.Proofs.YtbjhleajhkofeaaDoor
