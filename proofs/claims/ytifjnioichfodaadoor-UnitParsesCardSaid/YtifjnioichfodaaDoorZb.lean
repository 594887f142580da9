/- Loops over iterators that read between two rounds; the lines of a string; a builder; small calls of the library. No condition but that a string has at most 2^47 bytes. -/
import Derived.Test.YtifjnioichfodaaDoorLa
import Derived.Test.YtifjnioichfodaaDoorFr
import Derived.Test.YtifjnioichfodaaDoorWh
import Derived.Test.YtifjnioichfodaaDoorHc
import Derived.Deep.DrawnRows
import Derived.RegionTactic
import Derived.BigRegion
import Derived.Deep.AppendLies
import Derived.Lib.AppendIntMem
import Derived.Lib.AtoiErrMem
import Derived.Lib.IndexLaws
import Derived.OwnWalk
import Derived.Deep.QuietTactic
import Derived.WalkSmall
import Derived.Lib.FrozenHead2
import Derived.Lib.OthersKept
import Derived.Laws.Externs
import Derived.Laws.Concat
import Derived.Shelf.Strings.BuilderK
import Derived.RangeFuncBox
import Derived.RangeFuncLeaves
import Derived.RangeFuncCalls
import Derived.WalkKit
import Derived.OwnWalkIn
import Derived.TacticsInMore
import Derived.LoopNIn
import Derived.LoopIn
import Derived.Maps.AppendAt
import Derived.RegionIn
namespace Go.Proofs.YtifjnioichfodaaDoor
open Go.RowKit Go.Shelf
set_option linter.unusedVariables false
set_option linter.unusedSimpArgs false
section
open Go.RowKit
theorem news_lit (w : World) (cs : Array Value) (e : TypeId) (l : List Value) (h : cs.toList = l) : ∀ j u, l[j]? = some u → (w.alloc (.cells cs e)).cell? ((⟨w.heap.size, 0, none⟩ : Addr).add j) = some u := by
  intro j u hu
  subst h
  rw [Addr.add_lit, Nat.zero_add, cell_of_row (w.alloc (.cells cs e)) w.heap.size j cs e (0, 0) (heap_alloc_new w _)]
  simpa using hu
end
section
/-- A text, cut behind each byte 10. -/
def cutsL : List UInt8 → List (List UInt8)
  | [] => []
  | c :: r => if c = 10 then [10] :: cutsL r else match cutsL r with | [] => [[c]] | h :: t => (c :: h) :: t
/-- The first line, and what is behind it. -/
def headN : List UInt8 → List UInt8
  | [] => []
  | c :: r => if c = 10 then [10] else c :: headN r
def tailN : List UInt8 → List UInt8
  | [] => []
  | c :: r => if c = 10 then r else tailN r
theorem cuts_head : ∀ {l : List UInt8}, l ≠ [] → cutsL l = headN l :: cutsL (tailN l)
  | [], h => absurd rfl h
  | c :: r, _ => by
    have e0 : cutsL (c :: r) = if c = 10 then [10] :: cutsL r else match cutsL r with | [] => [[c]] | h :: t => (c :: h) :: t := by rw [cutsL]
    have e1 : headN (c :: r) = if c = 10 then [10] else c :: headN r := by rw [headN]
    have e2 : tailN (c :: r) = if c = 10 then r else tailN r := by rw [tailN]
    rw [e0, e1, e2]
    by_cases h : c = 10
    · rw [if_pos h, if_pos h, if_pos h]
    · rw [if_neg h, if_neg h, if_neg h]
      cases r with
      | nil => rfl
      | cons d t => rw [cuts_head (l := d :: t) (by simp)]
theorem head_le : ∀ (l : List UInt8), (headN l).length ≤ l.length ∧ (tailN l).length ≤ l.length
  | [] => ⟨Nat.le_refl _, Nat.le_refl _⟩
  | c :: r => by
    have := head_le r
    unfold headN tailN
    split
    · simp
    · simp; omega
theorem tail_lt : ∀ {l : List UInt8}, l ≠ [] → (tailN l).length < l.length
  | [], h => absurd rfl h
  | c :: r, _ => by
    have := head_le r
    unfold tailN
    split
    · simp
    · simp; omega
theorem cuts_le {l x : List UInt8} (h : x ∈ cutsL l) : x.length ≤ l.length := by
  induction hn : l.length using Nat.strongRecOn generalizing l with
  | _ n ih =>
    by_cases hl : l = []
    · subst hl; exact absurd h (by simp [cutsL])
    · rw [cuts_head hl] at h
      rcases List.mem_cons.1 h with e | h
      · rw [e, ← hn]; exact (head_le l).1
      · have := tail_lt hl
        have := ih (tailN l).length (by omega) h rfl
        omega
/-- What is left behind so many lines. -/
def restN (l : List UInt8) : Nat → List UInt8
  | 0 => l
  | j + 1 => tailN (restN l j)
theorem rest_cuts (l : List UInt8) : ∀ (j : Nat), cutsL (restN l j) = (cutsL l).drop j
  | 0 => rfl
  | j + 1 => by
    show cutsL (tailN (restN l j)) = _
    rw [← List.drop_drop, ← rest_cuts l j]
    by_cases h : restN l j = []
    · rw [h]; rfl
    · rw [cuts_head h]; rfl
theorem rest_le (l : List UInt8) : ∀ (j : Nat), (restN l j).length ≤ l.length
  | 0 => Nat.le_refl _
  | j + 1 => Nat.le_trans (head_le _).2 (rest_le l j)
end
section
open Go.RowKit Go.Shelf Go.Sort
attribute [local go_sem ↓] Go.wp_at_zero Go.wp_at_succ
theorem trimS_call (l : List UInt8) (hl : l.length ≤ 140737488355328) (w : World) : Calls Tryd.prog 68 #[.string (bs l), .string ⟨#[10]⟩] w fun e w' => e = .returned (.string (bs (Lib.trimSuffix l [10]))) ∧ w = w' :=
  (Tryd.strings_TrimSuffix (bs l) ⟨#[10]⟩ w (by rw [bs_size]; omega)).mono fun e w' ⟨h1, h2⟩ => ⟨h1, h2.symm⟩
theorem index8_call (l : List UInt8) (c : UInt8) (w : World) : Calls Tryd.prog 74 #[.string (bs l), .int .u8 (c.toNat : Int)] w fun e w' => e = .returned (.int .i64 (Lib.indexByte l c)) ∧ w = w' :=
  (Tryd.stringslite_IndexByte (bs l) c.toNat w).mono fun e w' ⟨h1, h2⟩ => ⟨by rw [h1, bs_list, Int.toNat_natCast]; simp, h2.symm⟩
theorem head_index : ∀ (l : List UInt8), (Lib.indexByte l 10 = -1 ∧ headN l = l ∧ tailN l = []) ∨ ∃ i : Nat, Lib.indexByte l 10 = i ∧ i < l.length ∧ headN l = l.take (i + 1) ∧ tailN l = l.drop (i + 1)
  | [] => Or.inl ⟨rfl, rfl, rfl⟩
  | c :: r => by
    unfold Lib.indexByte headN tailN
    by_cases h : c = 10
    · subst h
      exact Or.inr ⟨0, rfl, by simp, rfl, rfl⟩
    · rw [if_neg h, if_neg h, beq_eq_false_iff_ne.2 h, if_neg Bool.false_ne_true]
      rcases head_index r with ⟨h1, h2, h3⟩ | ⟨i, h1, h2, h3, h4⟩
      · rw [h1, h2, h3]; exact Or.inl ⟨rfl, rfl, rfl⟩
      · rw [h1, h3, h4]
        refine Or.inr ⟨i + 1, ?_, by simp; omega, rfl, rfl⟩
        rw [if_neg (by rw [beq_iff_eq]; omega)]
        omega
theorem bs_sub (l : List UInt8) (a b : Nat) : (bs l).extract a b = bs ((l.drop a).take (b - a)) := by
  rw [Lib.extract_eq, bs_list]; rfl
theorem index10_call (l : List UInt8) (w : World) : Calls Tryd.prog 69 #[.string (bs l), .int .u8 10] w fun e w' => e = .returned (.int .i64 (Lib.indexByte l 10)) ∧ w = w' := by
  have HC := Lib.hid (show ∀ W, Calls Tryd.prog 74 #[.string (bs l), .int .u8 10] W fun e w' => e = .returned (.int .i64 (Lib.indexByte l 10)) ∧ W = w' from fun W => index8_call l 10 W)
  go_enter Tryd.func69, Tryd.ntmps69
  go_wp2_with (go_at_call 74; ((with_reducible refine (HC.out _).mono ?_); rintro e w1 ⟨rfl, rfl⟩))
  go_ret
  exact ⟨rfl, rfl⟩
end
section
open Go.RowKit Go.Shelf
attribute [local go_sem ↓] Go.wp_at_zero Go.wp_at_succ
/-- A builder of one's own that holds these bytes. -/
abbrev Bld (B b : Nat) (l : List UInt8) (w : World) : Prop := Lib.IsBuilderF 88 5 B b (Lib.byteCells l) w
abbrev OthK (b : Nat) (w w' : World) : Prop := Lib.OthersKept 5 (some b) w w'
theorem bld_info : (Tryd.prog.info? 88).map (·.size) = some 2 := by kernel_rfl
theorem byte_info : (Tryd.prog.info? 5).map (fun i => (i.zero, i.size, i.bytes)) = some (some (.int .u8 0), 1, 1) := by kernel_rfl
set_option maxHeartbeats 1000000 in
set_option maxRecDepth 100000 in
theorem check_used (b : Nat) (w : World) (h0 : w.cell? ⟨b, 0, none⟩ = some (.pointer (some ⟨b, 0, none⟩))) :
    Calls Tryd.prog 70 #[.pointer (some ⟨b, 0, none⟩)] w fun e w' => e = .returned (.tuple #[]) ∧ w' = w := by
  obtain ⟨j, hj, _⟩ := Option.map_eq_some_iff.1 bld_info
  go_enter Tryd.func70, Tryd.ntmps70
  go_wp2
  rw [Lib.run_neq_ptr_same w _ Tryd.underlying86 hj]
  go_wp2
  go_end0
  exact ⟨rfl, rfl⟩
set_option maxHeartbeats 1000000 in
set_option maxRecDepth 100000 in
theorem check_fresh (b : Nat) (w : World) (h0 : w.cell? ⟨b, 0, none⟩ = some (.pointer none)) (hsh : w.shape? b = some (88, 2)) (hfz : w.frozen? ⟨b, 0, none⟩ = false) :
    Calls Tryd.prog 70 #[.pointer (some ⟨b, 0, none⟩)] w fun e w' => e = .returned (.tuple #[]) ∧ w' = w.setCell ⟨b, 0, none⟩ (.pointer (some ⟨b, 0, none⟩)) := by
  obtain ⟨j, hj, hjs⟩ := Option.map_eq_some_iff.1 bld_info
  go_enter Tryd.func70, Tryd.ntmps70
  go_wp2
  rw [Lib.run_to_unsafe w ⟨b, 0, none⟩ Tryd.underlying86 Tryd.underlying108 hj (by rw [hjs]; decide) hsh (Nat.zero_lt_succ 1)]
  simp only [Result.andThen]
  rw [Oper.upon_value]
  go_wp2
  rw [run_callFunc_extern Tryd.func82 (by kernel_rfl) (by kernel_rfl) (by kernel_rfl) (e := Extern.AbiNoEscape.same) (by kernel_rfl)]
  rw [Lib.run_noEscape]
  simp only [Result.andThen]
  rw [Oper.upon_value]
  go_wp2
  rw [Lib.run_from_unsafe w ⟨b, 0, none⟩ Tryd.underlying108 Tryd.underlying86 hj hsh (by kernel_rfl)]
  simp only [Result.andThen]
  rw [Oper.upon_value]
  go_wp2
  go_end0
  exact ⟨rfl, rfl⟩
theorem check_call (B b : Nat) (l : List Value) (w : World) (h : Lib.IsBuilderF 88 5 B b l w) :
    Calls Tryd.prog 70 #[.pointer (some ⟨b, 0, none⟩)] w fun e w' => e = .returned (.tuple #[]) ∧ (Lib.BuilderAtF 88 5 B b (.pointer (some ⟨b, 0, none⟩)) l w' ∧ Below B w w' ∧ OthK b w w') := by
  rcases h with h | h
  · refine (check_fresh b w h.cell0 h.shape h.frozen0).mono ?_
    rintro e w' ⟨rfl, rfl⟩
    exact ⟨rfl, h.used _, (Below.refl B w).setCell (p := ⟨b, 0, none⟩) h.1 _, (Lib.OthersKept.refl _ _ w).setCell ⟨b, 0, none⟩ rfl _⟩
  · refine (check_used b w h.cell0).mono ?_
    rintro e w' ⟨rfl, rfl⟩
    exact ⟨rfl, h, Below.refl B _, Lib.OthersKept.refl _ _ _⟩
set_option maxHeartbeats 2000000 in
set_option maxRecDepth 100000 in
theorem write_in (B b : Nat) (l : List Value) (s : ByteArray) (w : World) (h : Lib.IsBuilderF 88 5 B b l w) (hlen : l.length + s.size ≤ 140737488355328) (hBw : B ≤ w.heap.size) :
    Calls Tryd.prog 55 #[.pointer (some ⟨b, 0, none⟩), .string s] w fun e w' => e = .returned (.tuple #[.int .i64 s.size, .nilIface]) ∧ (Lib.BuilderAtF 88 5 B b (.pointer (some ⟨b, 0, none⟩)) (l ++ Lib.strCells s) w' ∧ Below B w w' ∧ OthK b w w') := by
  obtain ⟨i0, hi, hz0, hz1, hz2⟩ := info_parts byte_info
  go_enter Tryd.func55, Tryd.ntmps55
  go_wp2_with (go_at_call 70; refine (check_call B b l _ h).mono ?_)
  rintro e w1 ⟨rfl, h1, hb1, hk1⟩
  obtain ⟨hB, v, hbk, hown, hne⟩ := h1
  have c0 : w1.cell? ⟨b, 0, none⟩ = some (.pointer (some ⟨b, 0, none⟩)) := by rw [Lib.cell_of_heap hbk]; rfl
  have c1 : w1.cell? ⟨b, 1, none⟩ = some v := by rw [Lib.cell_of_heap hbk]; rfl
  go_wp2_with (at_builtin; refine Lib.wpList_append_own_stringF _ rfl _ _ 22 9 rfl B 5 i0 Tryd.underlying22 Tryd.underlying9 hi hz0 hz1 hz2 _ _ _ rfl hown s rfl ?c3 ?c4 ?c5 ?_)
  case c3 => unfold maxLen; omega
  case c4 => omega
  case c5 => have := hb1.size; omega
  intro v' w2 hown' hgrow _
  have hlt : b < w1.heap.size := by
    rcases Nat.lt_or_ge b w1.heap.size with h' | h'
    · exact h'
    · simp [Array.getElem?_eq_none h'] at hbk
  have hb2 : w2.heap[b]? = some (.cells #[.pointer (some ⟨b, 0, none⟩), v] 88 (0, 0)) := by
    rw [hgrow.block b hlt (fun e => hne e.symm)]
    exact hbk
  have d0 : w2.cell? ⟨b, 0, none⟩ = some (.pointer (some ⟨b, 0, none⟩)) := by rw [Lib.cell_of_heap hb2]; rfl
  have d1 : w2.cell? ⟨b, 1, none⟩ = some v := by rw [Lib.cell_of_heap hb2]; rfl
  have f1 : w2.frozen? ⟨b, 1, none⟩ = false := Lib.frozen_of_heap hb2 1
  obtain ⟨ao, n', cap, rfl⟩ : ∃ ao n' cap, v' = .slice ao n' cap := by
    rcases hown'.2 with ⟨hv, _⟩ | ⟨g, cap, cur, fz, hv, _⟩
    · exact ⟨_, _, _, hv⟩
    · exact ⟨_, _, _, hv⟩
  go_wp2
  go_ret2
  refine ⟨rfl, ?_, ?_, (hk1.grown hgrow (Lib.ownsRowF_kind hown)).setCell ⟨b, 1, none⟩ rfl _⟩
  · exact Lib.BuilderAtF.put (T := 88) (e := 5) hB hb2 (bs' := l ++ Lib.strCells s) (by simpa [Lib.strCells_length] using hown') (by decide)
  · exact (hb1.grown hgrow (by have := hb1.size; omega) (fun k hk => (hown.lt k hk).1)).setCell (p := ⟨b, 1, none⟩) hB _
theorem strCells_bs (l : List UInt8) : Lib.strCells (bs l) = Lib.byteCells l := rfl
theorem byteCells_app (a b : List UInt8) : Lib.byteCells (a ++ b) = Lib.byteCells a ++ Lib.byteCells b := by
  unfold Lib.byteCells; rw [List.map_append]
theorem write_call (B b : Nat) (l t : List UInt8) (w : World) (h : Bld B b l w) (hlen : l.length + t.length ≤ 140737488355328) (hBw : B ≤ w.heap.size) :
    Calls Tryd.prog 55 #[.pointer (some ⟨b, 0, none⟩), .string (bs t)] w fun e w' => (∃ v, e = .returned v) ∧ Bld B b (l ++ t) w' ∧ Below B w w' ∧ OthK b w w' :=
  (write_in B b (Lib.byteCells l) (bs t) w h (by rw [Lib.byteCells_length, bs_size]; exact hlen) hBw).mono fun e w' ⟨h1, h2, h3, h4⟩ => ⟨⟨_, h1⟩, Or.inr (by rw [byteCells_app, ← strCells_bs t]; exact h2), h3, h4⟩
theorem string_call (B b : Nat) (l : List UInt8) (w : World) (h : Bld B b l w) (hBw : B ≤ w.heap.size) :
    Calls Tryd.prog 52 #[.pointer (some ⟨b, 0, none⟩)] w fun e w' => e = .returned (.string (bs l)) ∧ Below B w w' :=
  (Tryd.Builder_String_any_k B b l w h hBw).mono fun e w' ⟨h1, _, h2, _⟩ => ⟨h1, h2⟩
theorem bld_fresh (w : World) : Bld w.heap.size w.heap.size [] (w.alloc (.cells #[.pointer none, .slice none 0 0] 88)) := Lib.IsBuilderF.of (Lib.fresh_isBuilder _ _ w)
theorem bld_alloc {B b : Nat} {l : List UInt8} {w : World} (h : Bld B b l w) (o : Obj) : Bld B b l (w.alloc o) := h.elim (fun h => Or.inl (h.alloc o)) (fun h => Or.inr (h.alloc o))
theorem th2 {A B C : World} (h : Below A.heap.size A B) (k : Below B.heap.size B C) : Below A.heap.size A C := h.trans (k.mono h.size)
theorem ball (w : World) (o : Obj) : Below w.heap.size w (w.alloc o) := (Below.refl _ _).alloc (Nat.le_refl _) o
end
section
open Go.RowKit Go.Shelf
attribute [local go_sem ↓] Go.wp_at_zero Go.wp_at_succ
/-- Strings that lie in memory, in a row of one's own. -/
def strV (l : List (List UInt8)) : List Value := l.map (fun t => .string (bs t))
theorem strV_len (l : List (List UInt8)) : (strV l).length = l.length := by simp [strV]
end
section
open Go.RowKit
/-- What a loop's own marks may turn: blocks that are no cells, from B on. -/
structure RelK (B : Nat) (Kp : World → World → Prop) : Prop where
  refl : ∀ V, Kp V V
  trans : ∀ {A B C}, Kp A B → Kp B C → Kp A C
  put : ∀ (V : World) (l : Nat) (o o' : Obj), B ≤ l → V.heap[l]? = some o → o.isCells = false → Kp V (V.putObj l o')
theorem keepsUp {B C : Nat} {V V' : World} (h : KeepsFrom B V V') (hn : B ≤ C) : KeepsFrom C V V' := ⟨h.size, fun k o hB hk ho => h.same k o (by omega) hk ho⟩
/-- The iterator's promise: the values xs, one behind the other, or as many of them as are wanted. It writes no cells but those of the blocks of Z. -/
def GivesK (P : Program) (gf : Nat) (lb : Array Value) (Kp : World → World → Prop) (Z : Nat → Prop) (xs : List Value) (w0 : World) : Prop :=
  ∀ (l : Nat) (J Jx : Nat → World → Prop) (W : World), Below w0.heap.size w0 W → OwnFrom W.heap.size J → OwnFrom W.heap.size Jx →
    (∀ (k z : Nat) (V : World) (v : Value), Z z → J k V → J k (V.setCell ⟨z, 0, none⟩ v)) →
    (∀ (k : Nat) (x : Value) (V : World), xs[k]? = some x → J k V → W.heap.size ≤ V.heap.size → YieldAt Fence.wide 3 P l #[x] V fun e V' =>
      KeepsFrom W.heap.size V V' ∧ ((e = .returned (.bool true) ∧ J (k + 1) V' ∧ Kp V V') ∨ (e = .returned (.bool false) ∧ Jx (k + 1) V'))) →
    J 0 W → Calls P gf (#[.func (.yield l) #[] #[]] ++ lb) W fun e W' => (∃ v, e = .returned v) ∧ (J xs.length W' ∨ ∃ k, Jx k W')
/-- The ways in which a round's body may be left. -/
def goesK (B : Nat) (Kp : World → World → Prop) (I Ix : Nat → World → Prop) (k : Nat) (V : World) : Exit → Act → World → Prop
  | .normal, _, V' => KeepsFrom B V V' ∧ Kp V V' ∧ I k V'
  | .ret, _, V' => KeepsFrom B V V' ∧ Ix k V'
  | _, _, _ => False
theorem wp_givesK {P : Program} {g : Operand} {p : Tmp} {assign body : Code} {Q : Exit → Act → World → Prop} {a : Act} {w w0 : World} {gf : Nat} {Kp : World → World → Prop} {Z : Nat → Prop} {lb : Array Value} {xs : List Value}
    (hg : a.eval g = .func (.func gf) #[] lb) (eg : ∀ args W, (callFunc gf args).run P W = .ok (.enter gf args) W) (hseq : GivesK P gf lb Kp Z xs w0) (hb0 : Below w0.heap.size w0 w) (hK : RelK w.heap.size Kp)
    (I Ix : Nat → World → Prop) (hI : OwnFrom w.heap.size I) (hIx : OwnFrom w.heap.size Ix) (hZ : ∀ z, Z z → z < w.heap.size) (hIZ : ∀ (k z : Nat) (V : World) (v : Value), Z z → I k V → I k (V.setCell ⟨z, 0, none⟩ v)) (h0 : I 0 w) (after : Value → Act)
    (hassign : ∀ (l : Nat) (x : Value) (V : World) (K : Act → World → Prop), K (after x) V → assign.wpIn (Fence.wide.inRound l) 3 P (Exit.then K (fun _ _ _ => False)) { tmps := a.tmps.setIfInBounds p x, defers := [] } V)
    (hbody : ∀ (l k : Nat) (x : Value) (V : World), xs[k]? = some x → I k V → w.heap.size + 2 ≤ V.heap.size → body.wpIn (Fence.wide.inRound l) 3 P (goesK w.heap.size Kp I Ix (k + 1) V) (after x) V)
    (hdone : ∀ (V : World), I xs.length V → V.heap[w.heap.size]? = some (.deferred (some [])) → Q .normal { a with defers := { target := .collected w.heap.size, args := #[] } :: a.defers } V)
    (hstop : ∀ (k : Nat) (V : World), Ix k V → V.heap[w.heap.size]? = some (.deferred (some [])) → Code.ret.wpIn Fence.wide 4 P Q { a with defers := { target := .collected w.heap.size, args := #[] } :: a.defers } V) :
    (Code.rangeFunc g #[p] assign body).wpIn Fence.wide 4 P Q a w := by
  refine wpIn_rangeFunc fun fn _ => ?_
  obtain ⟨rec, hrec⟩ : ∃ rec : LoopState → Option Code → Loop, rec = fun s j => { state := s, pending := j, fn, tmps := a.tmps, params := #[p], assign, body, defers := w.heap.size } := ⟨_, rfl⟩
  obtain ⟨v0, hv0⟩ : ∃ v0, v0 = w.alloc (.deferred (some [])) := ⟨_, rfl⟩
  obtain ⟨v1, hv1⟩ : ∃ v1, v1 = v0.alloc (.loop (rec .ready none)) := ⟨_, rfl⟩
  have hz0 : v0.heap.size = w.heap.size + 1 := by rw [hv0, World.size_alloc]
  have hz1 : v1.heap.size = w.heap.size + 2 := by rw [hv1, World.size_alloc, hz0]
  have q1 : v1.heap[w.heap.size + 1]? = some (.loop (rec .ready none)) := by rw [← hz0, hv1]; exact World.alloc_heap_new v0 _
  have q0 : v1.heap[w.heap.size]? = some (.deferred (some [])) := by rw [hv1, Below.heap_alloc v0 _ _ (by omega), hv0]; exact World.alloc_heap_new w _
  have hb1 : Below w0.heap.size w0 v1 := by
    rw [hv1, hv0]; exact (hb0.alloc hb0.size _).alloc (by have := hb0.size; simp; omega) _
  have i1 : I 0 v1 := by rw [hv1, hv0]; exact hI.alloc _ (hI.alloc _ h0)
  have henter : (Instr.enterLoop fn a.tmps #[p] assign body Fence.wide.round).run P w = .ok (w.heap.size + 1, [{ target := .collected w.heap.size, args := #[] }]) v1 := by
    rw [hv1, hv0, hrec]; exact run_enterLoop_outer fn a.tmps #[p] assign body
  clear hv0 hv1
  refine ⟨w.heap.size + 1, [{ target := .collected w.heap.size, args := #[] }], v1, { target := .fn (.func gf) lb, args := #[.func (.yield (w.heap.size + 1)) #[] #[]] }, v1, gf, #[.func (.yield (w.heap.size + 1)) #[] #[]] ++ lb, v1, ?_, ?_, ?_, ?_, fun _ => by omega, ?_⟩
  · exact henter
  · simp only [resolve, hg]
    simp [go_sem]
  · intro f' _; trivial
  · simp [invoke, go_sem, eg]
  have kept : ∀ {A B : World} {row : Option Nat} {k : Nat} {o : Obj}, A.grownBy B row → (∀ r, row = some r → v1.heap.size ≤ r ∧ ∃ o : Obj, A.heap[r]? = some o ∧ o.isCells = false) → A.heap[k]? = some o → k < v1.heap.size → B.heap[k]? = some o :=
    fun hgr hr hk hlt => (hgr.block _ (Array.getElem?_eq_some_iff.1 hk).1 (fun e => by have := (hr _ e.symm).1; omega)).trans hk
  have up : ∀ {A : World} {row : Option Nat}, (∀ r, row = some r → v1.heap.size ≤ r ∧ ∃ o : Obj, A.heap[r]? = some o ∧ o.isCells = false) → (∀ r, row = some r → w.heap.size ≤ r ∧ ∃ o : Obj, A.heap[r]? = some o ∧ o.isCells = false) :=
    fun hr r e => ⟨by have := (hr r e).1; omega, (hr r e).2⟩
  have ownJ : OwnFrom v1.heap.size (fun (k : Nat) V => I k V ∧ V.heap[w.heap.size + 1]? = some (.loop (rec .ready none)) ∧ V.heap[w.heap.size]? = some (.deferred (some []))) :=
    fun k A B row h hgr hr => ⟨hI k A B row h.1 hgr (up hr), kept hgr hr h.2.1 (by omega), kept hgr hr h.2.2 (by omega)⟩
  have ownX : OwnFrom v1.heap.size (fun (k : Nat) V => Ix k V ∧ V.heap[w.heap.size + 1]? = some (.loop (rec .done (some .ret))) ∧ V.heap[w.heap.size]? = some (.deferred (some []))) :=
    fun k A B row h hgr hr => ⟨hIx k A B row h.1 hgr (up hr), kept hgr hr h.2.1 (by omega), kept hgr hr h.2.2 (by omega)⟩
  refine (callsIn_wide.2 (hseq (w.heap.size + 1) _ _ v1 hb1 ownJ ownX ?_ ?_ ⟨i1, q1, q0⟩)).mono ?_
  · -- what the iterator writes
    rintro k z V v hz ⟨hi, hl, hd⟩
    have := hZ z hz
    exact ⟨hIZ k z V v hz hi, (heap_setCell_other V _ _ _ (show w.heap.size + 1 ≠ z by omega)).trans hl, (heap_setCell_other V _ _ _ (show w.heap.size ≠ z by omega)).trans hd⟩
  · -- one round
    rintro k x V hk ⟨hi, hl, hd⟩ hz
    have hlt : w.heap.size + 1 < V.heap.size := (Array.getElem?_eq_some_iff.1 hl).1
    have hy : (Instr.yield (w.heap.size + 1) #[x]).run P V = .ok (.round (w.heap.size + 1) fn (a.tmps.setIfInBounds p x) assign body) V := by
      rw [run_yield (P := P) (args := #[x]) hl (by rw [hrec]; rfl), hrec]; simp
    have hbr : (Instr.beginRound (w.heap.size + 1)).run P V = .ok () (V.putObj (w.heap.size + 1) (.loop (rec .busy none))) := by
      rw [run_beginRound (P := P) hl (by rw [hrec]), hrec]
    refine ⟨fn, _, assign, body, hy, roundIn_of_wpIn trivial ?_⟩
    refine hassign _ x V _ ?_
    refine ⟨_, hbr, ?_⟩
    obtain ⟨U, hU⟩ : ∃ U, U = V.putObj (w.heap.size + 1) (.loop (rec .busy none)) := ⟨_, rfl⟩
    have e1 : U.heap[w.heap.size + 1]? = some (.loop (rec .busy none)) := by rw [hU, World.putObj_heap_same hlt]
    have e0 : U.heap[w.heap.size]? = some (.deferred (some [])) := by rw [hU, World.putObj_heap_other (by omega)]; exact hd
    have iU : I k U := by rw [hU]; exact hI.putObj _ hi (by omega) hl rfl
    have zU : w.heap.size + 2 ≤ U.heap.size := by rw [hU]; simp; omega
    have bU : Kp V U := by rw [hU]; exact hK.put V _ _ _ (by omega) hl rfl
    have kU : KeepsFrom v1.heap.size V U := by rw [hU]; exact KeepsFrom.of_grownBy (grownBy_putObj' _ _ _) (fun j e => by cases e; omega)
    rw [← hU]
    refine wpIn_mono (hbody _ k x U hk iU zU) ?_
    rintro e b U' h
    cases e with
    | normal =>
      obtain ⟨hkf, hbl, hi'⟩ := h
      have r1 := hkf.same _ _ (by omega) e1 rfl
      have r0 := hkf.same _ _ (Nat.le_refl _) e0 rfl
      have hend := run_endRound (P := P) none r1
      refine ⟨_, _, hend, (kU.trans (keepsUp hkf (by omega))).trans (KeepsFrom.of_grownBy (grownBy_putObj' _ _ _) (fun j e => by cases e; omega)), .inl ⟨rfl, ⟨hI.putObj _ hi' (by omega) r1 rfl, ?_, ?_⟩, hK.trans (hK.trans bU hbl) (hK.put U' _ _ _ (by omega) r1 rfl)⟩⟩
      · rw [World.putObj_heap_same (Array.getElem?_eq_some_iff.1 r1).1, hrec]; rfl
      · rw [World.putObj_heap_other (by omega)]; exact r0
    | ret =>
      obtain ⟨hkf, hi'⟩ := h
      have r1 := hkf.same _ _ (by omega) e1 rfl
      have r0 := hkf.same _ _ (Nat.le_refl _) e0 rfl
      have hend := run_endRound (P := P) (some .ret) r1
      refine ⟨_, _, hend, (kU.trans (keepsUp hkf (by omega))).trans (KeepsFrom.of_grownBy (grownBy_putObj' _ _ _) (fun j e => by cases e; omega)), .inr ⟨rfl, hIx.putObj _ hi' (by omega) r1 rfl, ?_, ?_⟩⟩
      · rw [World.putObj_heap_same (Array.getElem?_eq_some_iff.1 r1).1, hrec]; rfl
      · rw [World.putObj_heap_other (by omega)]; exact r0
    | exit id => exact h.elim
    | goto t => exact h.elim
    | panic c => exact h.elim
    | outgrown => exact h.elim
  · -- behind the iterator
    rintro e V ⟨⟨v, rfl⟩, (⟨hi, hl, hd⟩ | ⟨k, hi, hl, hd⟩)⟩
    · have hend := run_endLoop (P := P) hl (by rw [hrec]; simp)
      refine ⟨none, _, by rw [hend, hrec], hdone _ (hI.putObj _ hi (by omega) hl rfl) ?_⟩
      rw [World.putObj_heap_other (by omega)]; exact hd
    · have hend := run_endLoop (P := P) hl (by rw [hrec]; simp)
      refine ⟨some .ret, _, by rw [hend, hrec], hstop k _ (hIx.putObj _ hi (by omega) hl rfl) ?_⟩
      rw [World.putObj_heap_other (by omega)]; exact hd
theorem grownNone {w w' : World} (b : Below w.heap.size w w') : w.grownBy w' none := ⟨b.os, b.tape, b.output, b.size, fun k hk _ => b.block k hk⟩
theorem ownOn {β : Type} {B : Nat} {J : β → World → Prop} (h : OwnFrom B J) {s : β} {w w' : World} (hs : J s w) (b : Below w.heap.size w w') : J s w' := h s w w' none hs (grownNone b) (fun r e => by cases e)
/-- What a round that writes into a builder keeps: all below C, and each block of cells that is neither the builder's nor a row of bytes. -/
def KeepT (e : TypeId) (C b : Nat) (V V' : World) : Prop := Below C V V' ∧ ∀ k o, V.heap[k]? = some o → o.isCells = true → k ≠ b → (∀ c fz, o ≠ .cells c e fz) → V'.heap[k]? = some o
theorem keepT_rel (e : TypeId) (C b B : Nat) (hC : C ≤ B) : RelK B (KeepT e C b) where
  refl := fun V => ⟨Below.refl _ _, fun _ _ h _ _ _ => h⟩
  trans := fun h k => ⟨h.1.trans k.1, fun i o hi hc hb ho => k.2 i o (h.2 i o hi hc hb ho) hc hb ho⟩
  put := fun V l o o' hB hl ho => ⟨(Below.refl _ V).grown (grownBy_putObj' V l o') (by have := (Array.getElem?_eq_some_iff.1 hl).1; omega) (fun k e => by cases e; omega), fun k x hk hc hb hx => by
    rw [World.putObj_heap_other (fun e => by subst e; rw [hl] at hk; cases hk; rw [ho] at hc; cases hc)]; exact hk⟩
/-- What a round keeps that leaves one block alone. -/
def KeepZ (z : Nat) (V V' : World) : Prop := V.heap.size ≤ V'.heap.size ∧ ∀ o, V.heap[z]? = some o → V'.heap[z]? = some o
theorem keepZ_rel (z B : Nat) (hz : z < B) : RelK B (KeepZ z) where
  refl := fun V => ⟨Nat.le_refl _, fun _ h => h⟩
  trans := fun h k => ⟨Nat.le_trans h.1 k.1, fun o ho => k.2 o (h.2 o ho)⟩
  put := fun V l o o' hB hl ho => ⟨by simp, fun x hx => by rw [World.putObj_heap_other (by omega)]; exact hx⟩
end
section
open Go.RowKit Go.Shelf
attribute [local go_sem] Oper.semAt_some
theorem bldAt_grown {T e : TypeId} {B b : Nat} {p : Value} {l : List Value} {w w' : World} {row : Option Nat} (h : Lib.BuilderAtF T e B b p l w) (hg : w.grownBy w' row) (hr : ∀ r, row = some r → ∃ o : Obj, w.heap[r]? = some o ∧ o.isCells = false) : Lib.BuilderAtF T e B b p l w' := by
  have keep : ∀ {k : Nat} {c : Array Value} {t : TypeId} {fz : Nat × Nat}, w.heap[k]? = some (.cells c t fz) → w'.heap[k]? = some (.cells c t fz) := fun {k c t fz} hk =>
    (hg.block k (Array.getElem?_eq_some_iff.1 hk).1 (fun e => by
      obtain ⟨o, ho, hc⟩ := hr k e.symm
      rw [hk] at ho; cases ho; cases hc)).trans hk
  obtain ⟨hB, v, hb, hown, hne⟩ := h
  refine ⟨hB, v, keep hb, ⟨hown.1, ?_⟩, hne⟩
  rcases hown.2 with hn | ⟨g, cap, cur, fz, hv, hbg, hg2, rest⟩
  · exact .inl hn
  · exact .inr ⟨g, cap, cur, fz, hv, hbg, keep hg2, rest⟩
theorem bld_grown {B b : Nat} {l : List UInt8} {w w' : World} {row : Option Nat} (h : Bld B b l w) (hg : w.grownBy w' row) (hr : ∀ r, row = some r → ∃ o : Obj, w.heap[r]? = some o ∧ o.isCells = false) : Bld B b l w' :=
  h.elim (fun h => Or.inl (bldAt_grown h hg hr)) (fun h => Or.inr (bldAt_grown h hg hr))
theorem bld_below {B b : Nat} {l : List UInt8} {w w' : World} (h : Bld B b l w) (hb : Below w.heap.size w w') : Bld B b l w' := bld_grown h (grownNone hb) (fun r e => by cases e)
theorem strV_at {l : List (List UInt8)} {j : Nat} {v : Value} (h : (strV l)[j]? = some v) : ∃ t, l[j]? = some t ∧ v = .string (bs t) := by
  unfold strV at h
  rw [List.getElem?_map] at h
  cases hx : l[j]? with
  | none => rw [hx] at h; cases h
  | some x => rw [hx] at h; injection h with h; exact ⟨x, rfl, h.symm⟩
end
section
open Go.RowKit Go.Shelf
section
attribute [local go_sem ↓] Go.wp_at_zero Go.wp_at_succ
end
/-- The box's string's length. -/
def boxLen (z : Nat) (V : World) : Nat := match V.cell? ⟨z, 0, none⟩ with | some (.string b) => b.size | _ => 0
theorem boxLen_of {z : Nat} {V : World} {t : TypeId} {m : List UInt8} (h : Boxed V z t (.string (bs m))) : boxLen z V = m.length := by
  unfold boxLen
  rw [h.cell]
  exact bs_size m
theorem cuts_at {s : List UInt8} {k : Nat} (h : restN s k ≠ []) : (cutsL s)[k]? = some (headN (restN s k)) := by
  have e := rest_cuts s k
  rw [cuts_head h] at e
  have : ((cutsL s).drop k)[0]? = some (headN (restN s k)) := by rw [← e]; rfl
  rwa [List.getElem?_drop, Nat.add_zero] at this
theorem cuts_end {s : List UInt8} {k : Nat} (hk : k ≤ (cutsL s).length) (h : restN s k = []) : (cutsL s).length = k := by
  have e := rest_cuts s k
  rw [h] at e
  have : ((cutsL s).drop k).length = 0 := by rw [← e]; rfl
  rw [List.length_drop] at this
  omega
section
attribute [local go_sem] Oper.semAt_some
set_option maxRecDepth 100000 in
set_option maxHeartbeats 8000000 in
theorem linesS_gives (z : Nat) (s : List UInt8) (hs : s.length ≤ 140737488355328) (w0 : World) (hz : Boxed w0 z 9 (.string (bs s))) :
    GivesK Tryd.prog 80 #[.pointer (some ⟨z, 0, none⟩)] (KeepZ z) (· = z) (strV (cutsL s)) w0 := by
  intro l J Jx W hW hJ hJx hZ hY hj0
  have hzw := (Array.getElem?_eq_some_iff.1 hz).1
  have HB0 := Lib.hid (show Boxed W z 9 (.string (bs s)) from (hW.block z hzw).trans hz)
  have hzW : z < W.heap.size := Nat.lt_of_lt_of_le hzw hW.size
  have HJ := Lib.hid hJ
  have HJX := Lib.hid hJx
  have HY := Lib.hid hY
  have HZ := Lib.hid hZ
  have HS := Lib.hid hs
  have HJ0 := Lib.hid hj0
  have HIX := Lib.hid (fun (m : List UInt8) V => index10_call m V)
  obtain ⟨xs, hxs⟩ : ∃ xs, xs = strV (cutsL s) := ⟨_, rfl⟩
  have HXL := Lib.hid (show xs.length = (cutsL s).length by rw [hxs, strV_len])
  have HGT := Lib.hid (fun j t (h : (cutsL s)[j]? = some t) => show xs[j]? = some (Value.string (bs t)) from by
    rw [hxs]; unfold strV; rw [List.getElem?_map, h]; rfl)
  rw [← hxs] at HY ⊢
  clear hW hJ hJx hZ hY hj0 hz hzw hs hxs
  refine (callsIn_wide (n := 4)).1 ?_
  refine callsIn_of_wp Tryd.func80 rfl trivial ?_ rfl
  simp only [Tryd.ntmps80, List.size_toArray, List.length_cons, List.length_nil, Nat.reduceAdd, Nat.reduceSub, Array.replicate_succ, Array.replicate_zero, List.push_toArray, List.append_toArray, List.nil_append, List.cons_append]
  gi_wp2
  gi_loopw [] (fun wr => ∃ k : Nat, k ≤ (cutsL s).length ∧ Hid (J k wr) ∧ Hid (Boxed wr z 9 (.string (bs (restN s k)))) ∧ W.heap.size ≤ wr.heap.size) (fun wr => boxLen z wr)
  case atStart => exact ⟨0, Nat.zero_le _, HJ0, HB0, Nat.le_refl _⟩
  case round =>
    clear HB0 HJ0
    obtain ⟨k, hk, HJ1, HB1, hz1⟩ := hrel
    obtain ⟨V, rfl⟩ : ∃ wo : World, wo = wr := ⟨_, rfl⟩
    obtain ⟨m, hm⟩ : ∃ m, m = restN s k := ⟨_, rfl⟩
    have HM := Lib.hid hm
    have hml : m.length ≤ 140737488355328 := by rw [hm]; exact Nat.le_trans (rest_le s k) HS.out
    have HNX := Lib.hid (show restN s (k + 1) = tailN m by rw [hm]; rfl)
    rw [← hm] at HB1
    have c1 := HB1.out.cell
    obtain ⟨n, hn⟩ : ∃ n, n = m.length := ⟨_, rfl⟩
    have hsz : (bs m).size = n := by rw [hn]; exact bs_size m
    have HBL := Lib.hid (show boxLen z V = n by rw [hn]; exact boxLen_of HB1.out)
    have HAT := Lib.hid (fun (h : m ≠ []) => show (cutsL s)[k]? = some (headN m) from by rw [HM.out] at h ⊢; exact cuts_at h)
    have HEN := Lib.hid (fun (h : m = []) => show (cutsL s).length = k from cuts_end hk (by rw [← HM.out]; exact h))
    clear hm
    by_cases h0 : m = []
    · have hn0 : n = 0 := by rw [hn, h0]; rfl
      subst hn0
      have HJE := Lib.hid (show J xs.length V by rw [HXL.out, HEN.out h0]; exact HJ1.out)
      clear h0 hn
      gi_wp2
      go_end0
      exact ⟨⟨_, rfl⟩, .inl HJE.out⟩
    · have hn1 : 0 < n := by rw [hn]; exact List.length_pos_iff.2 h0
      have i1 : (0 : Int) < n := by omega
      have hat := HAT.out h0
      have HX := Lib.hid (HGT.out _ _ hat)
      have hkl : k < (cutsL s).length := (List.getElem?_eq_some_iff.1 hat).1
      have HTL := Lib.hid (tail_lt h0)
      rw [← hn] at HTL hml
      have hfz := HB1.out.frozen
      have n47 : (n : Int) ≤ 140737488355328 := by omega
      rcases head_index m with ⟨h1, h2, h3⟩ | ⟨i, h1, hi, h2, h3⟩
      · have HI := Lib.hid (fun V => HIX.out m V)
        rw [h1] at HI
        rw [h2] at HX
        rw [h3] at HNX HTL
        have HBn := Lib.hid (show Boxed (V.setCell ⟨z, 0, none⟩ (.string ⟨#[]⟩)) z 9 (.string (bs [])) from HB1.out.set (.string ⟨#[]⟩))
        have hzz : W.heap.size ≤ (V.setCell ⟨z, 0, none⟩ (.string ⟨#[]⟩)).heap.size := by simp; exact hz1
        obtain ⟨fn, tmps, assign, body, hy, hR⟩ := HY.out k (.string (bs m)) (V.setCell ⟨z, 0, none⟩ (.string ⟨#[]⟩)) HX.out (HZ.out k z V _ rfl HJ1.out) hzz
        have HR := Lib.hid hR
        have HZZ := Lib.hid hzz
        clear hR hzz h0 hn hat h1 h2 h3 hml
        gi_wp2_with (refine ⟨trivial, ?_⟩
                     gi_at_call 69
                     refine (callsIn_wide.2 (HI.out _)).mono ?_
                     rintro e w2 ⟨rfl, rfl⟩)
        refine HR.out.mono ?_
        rintro e V' ⟨hkf, ⟨rfl, hJ3, hk3⟩ | ⟨rfl, hJx3⟩⟩
        · have hb3 : Boxed V' z 9 (.string (bs [])) := hk3.2 _ HBn.out
          have HB3 := Lib.hid hb3
          have HZ3 := Lib.hid (Nat.le_trans HZZ.out hk3.1)
          clear hkf hk3 hb3 hy
          gi_wp2
          go_roundw
          case rel => exact ⟨k + 1, hkl, Lib.hid hJ3, Lib.hid (by rw [HNX.out]; exact HB3.out), HZ3.out⟩
          case measure => rw [HBL.out, boxLen_of HB3.out]; exact hn1
        · gi_wp2
          refine bodyPost_ret (results_none rfl _ _ _) rfl ?_
          exact ⟨⟨_, rfl⟩, .inr ⟨_, hJx3⟩⟩
      · have HI := Lib.hid (fun V => HIX.out m V)
        rw [h1] at HI
        have H2 := Lib.hid (show (bs m).extract 0 (i + 1) = bs (headN m) by rw [bs_sub, h2]; rfl)
        have H3 := Lib.hid (show (bs m).extract (i + 1) n = bs (tailN m) by rw [bs_sub, h3, hn, List.take_of_length_le (by simp)])
        rw [← hn] at hi
        have i0 : (0 : Int) ≤ i := by omega
        have i2 : (i : Int) < n := by omega
        have w1 : IntKind.i64.wrap ((i : Int) + 1) = i + 1 := IntWalk.i64_in _ (by omega)
        have j0 : (0 : Int) ≤ (i : Int) + 1 := by omega
        have j1 : ((i : Int) + 1).toNat = i + 1 := by omega
        have j2 : (i : Int) + 1 ≤ n := by omega
        clear h0 hn hat h1 h2 h3 hml
        gi_wp2_with (refine ⟨trivial, ?_⟩
                     gi_at_call 69
                     refine (callsIn_wide.2 (HI.out _)).mono ?_
                     rintro e w2 ⟨rfl, rfl⟩)
        gi_region
        have HBn := Lib.hid (show Boxed (V.setCell ⟨z, 0, none⟩ (.string ((bs m).extract (i + 1) n))).drew z 9 (.string (bs (tailN m))) from by
          have h := HB1.out.set (.string ((bs m).extract (i + 1) n))
          rw [H3.out] at h ⊢
          exact h)
        have hzz : W.heap.size ≤ (V.setCell ⟨z, 0, none⟩ (.string ((bs m).extract (i + 1) n))).drew.heap.size := by simp [World.drew]; exact hz1
        obtain ⟨fn, tmps, assign, body, hy, hR⟩ := HY.out k (.string ((bs m).extract 0 (i + 1))) (V.setCell ⟨z, 0, none⟩ (.string ((bs m).extract (i + 1) n))).drew (by rw [H2.out]; exact HX.out) (ownOn HJ.out (HZ.out k z V _ rfl HJ1.out) (Below.refl _ _).drew) hzz
        have HR := Lib.hid hR
        have HZZ := Lib.hid hzz
        clear hR hzz
        gi_wp2
        refine HR.out.mono ?_
        rintro e V' ⟨hkf, ⟨rfl, hJ3, hk3⟩ | ⟨rfl, hJx3⟩⟩
        · have hb3 : Boxed V' z 9 (.string (bs (tailN m))) := hk3.2 _ HBn.out
          have HB3 := Lib.hid hb3
          have HZ3 := Lib.hid (Nat.le_trans HZZ.out hk3.1)
          clear hkf hk3 hb3 hy
          gi_wp2
          go_roundw
          case rel => exact ⟨k + 1, hkl, Lib.hid hJ3, Lib.hid (by rw [HNX.out]; exact HB3.out), HZ3.out⟩
          case measure => rw [HBL.out, boxLen_of HB3.out]; exact HTL.out
        · gi_wp2
          refine bodyPost_ret (results_none rfl _ _ _) rfl ?_
          exact ⟨⟨_, rfl⟩, .inr ⟨_, hJx3⟩⟩
end
/-- What the library's Lines returns. -/
theorem linesS_call (s : ByteArray) (w : World) : Calls Tryd.prog 67 #[.string s] w fun e w' => e = .returned (.func (.func 80) #[] #[.pointer (some ⟨w.heap.size, 0, none⟩)]) ∧ w' = w.alloc (.cells #[.string s] 9) := by
  go_enter Tryd.func67, Tryd.ntmps67
  go_wp2
  go_ret
  exact ⟨rfl, rfl⟩
end
section
open Go.RowKit Go.Shelf
attribute [local go_sem] Oper.semAt_some
theorem suffix_le (l : List UInt8) : (Lib.trimSuffix l [10]).length ≤ l.length := by
  unfold Lib.trimSuffix
  split
  · rw [List.length_take]; omega
  · exact Nat.le_refl _
theorem boxed_grown {W W' : World} {B : Nat} {t : TypeId} {v : Value} {row : Option Nat} (h : Boxed W B t v) (hg : W.grownBy W' row) (hr : ∀ r, row = some r → ∃ o : Obj, W.heap[r]? = some o ∧ o.isCells = false) : Boxed W' B t v := h.kept hg fun e => by
  obtain ⟨o, ho2, hc⟩ := hr _ e.symm
  rw [show W.heap[B]? = _ from h] at ho2; cases ho2; cases hc
theorem boxed_below {W W' : World} {B : Nat} {t : TypeId} {v : Value} (h : Boxed W B t v) (b : Below W.heap.size W W') : Boxed W' B t v := (b.block _ (Array.getElem?_eq_some_iff.1 h).1).trans h
theorem owned_grown {W W' : World} {B n s : Nat} {e : TypeId} {v : Value} {xs : List Value} {row : Option Nat} (h : W.ownsRow B e s v n xs) (hg : W.grownBy W' row) (hr : ∀ r, row = some r → ∃ o : Obj, W.heap[r]? = some o ∧ o.isCells = false) : W'.ownsRow B e s v n xs := by
  refine h.kept hg ?_
  rcases h.2 with ⟨rfl, _⟩ | ⟨g, cap, cur, rfl, _, hgb, _⟩
  · exact .inl rfl
  · refine .inr fun e => ?_
    obtain ⟨o, ho2, hc⟩ := hr g e.symm
    rw [hgb] at ho2; cases ho2; cases hc
theorem news_lit' (w : World) (cs : Array Value) (e : TypeId) (l : List Value) {s : Nat} (hs : s = w.heap.size) (h : cs.toList = l) : ∀ j u, l[j]? = some u → (w.alloc (.cells cs e)).cell? ((⟨s, 0, none⟩ : Addr).add j) = some u := by
  subst hs; exact news_lit w cs e l h
theorem drop_at {ls : List (List UInt8)} {k : Nat} {t : List UInt8} (h : ls[k]? = some t) : ls.drop k = t :: ls.drop (k + 1) := by
  obtain ⟨hk, e⟩ := List.getElem?_eq_some_iff.1 h
  rw [List.drop_eq_getElem_cons hk, e]
end
end Go.Proofs.YtifjnioichfodaaDoor
