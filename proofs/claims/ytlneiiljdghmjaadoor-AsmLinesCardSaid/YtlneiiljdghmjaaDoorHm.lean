/- The text of a program: what the landed call returns. Conditions: a slice is as long as its capacity allows; the tables lie in their variables. -/
import Derived.Test.YtlneiiljdghmjaaDoorHl
namespace Go.Proofs.YtlneiiljdghmjaaDoor
open Go.RowKit Go.Shelf
set_option linter.unusedVariables false
set_option linter.unusedSimpArgs false
attribute [local go_sem] Oper.semAt_some

theorem bldAt_grown {T e : TypeId} {B b : Nat} {p : Value} {l : List Value} {w w' : World} {row : Option Nat} (h : Lib.BuilderAtF T e B b p l w) (hg : w.grownBy w' row) (hr : ∀ r, row = some r → ∃ o : Obj, w.heap[r]? = some o ∧ o.isCells = false) : Lib.BuilderAtF T e B b p l w' := by
  have keep : ∀ {k : Nat} {c : Array Value} {t : TypeId} {fz : Nat × Nat}, w.heap[k]? = some (.cells c t fz) → w'.heap[k]? = some (.cells c t fz) := fun {k c t fz} hk =>
    (hg.block k (Array.getElem?_eq_some_iff.1 hk).1 (fun e => by
      obtain ⟨o, ho, hc⟩ := hr k e.symm
      rw [hk] at ho; cases ho; cases hc)).trans hk
  obtain ⟨hB, v, hb, hown, hne⟩ := h
  refine ⟨hB, v, keep hb, ⟨hown.1, ?_⟩, hne⟩
  rcases hown.2 with hn | ⟨g, cap, cur, fz, hv, hbg, hg2, rest⟩
  · exact .inl hn
  · exact .inr ⟨g, cap, cur, fz, hv, hbg, keep hg2, rest⟩
theorem bld_grown {B b : Nat} {l : List UInt8} {w w' : World} {row : Option Nat} (h : Bld B b l w) (hg : w.grownBy w' row) (hr : ∀ r, row = some r → ∃ o : Obj, w.heap[r]? = some o ∧ o.isCells = false) : Bld B b l w' :=
  h.elim (fun h => Or.inl (bldAt_grown h hg hr)) (fun h => Or.inr (bldAt_grown h hg hr))
theorem bld_below {B b : Nat} {l : List UInt8} {w w' : World} (h : Bld B b l w) (hb : Below w.heap.size w w') : Bld B b l w' := bld_grown h (grownNone hb) (fun r e => by cases e)
/-- Between two rounds: what the builder holds. -/
def TextI (C b : Nat) (wC : World) (xs : List (List UInt8)) (j : Nat) (V : World) : Prop := Bld C b (flatL (xs.take j)) V ∧ Below wC.heap.size wC V
theorem textI_own (b : Nat) (wC : World) (xs : List (List UInt8)) (B : Nat) (hB : wC.heap.size ≤ B) : OwnFrom B (TextI wC.heap.size b wC xs) := fun j V V' row h hg hr =>
  ⟨bld_grown h.1 hg (fun r e => (hr r e).2), h.2.grown hg h.2.size (fun k e => by have := (hr k e).1; omega)⟩
theorem flat_more {xs : List (List UInt8)} {j : Nat} {t : List UInt8} (h : xs[j]? = some t) : flatL (xs.take (j + 1)) = flatL (xs.take j) ++ (t ++ [10]) := by
  rw [List.take_add_one, h, flatL_app]
  congr 1
theorem flat_le (xs : List (List UInt8)) (j : Nat) : (flatL (xs.take j)).length ≤ (flatL xs).length := by
  conv => rhs; rw [← List.take_append_drop j xs, flatL_app, List.length_append]
  omega
theorem strV_at {l : List (List UInt8)} {j : Nat} {v : Value} (h : (strV l)[j]? = some v) : ∃ t, l[j]? = some t ∧ v = .string (bs t) := by
  unfold strV at h
  rw [List.getElem?_map] at h
  cases hx : l[j]? with
  | none => rw [hx] at h; cases h
  | some x => rw [hx] at h; injection h with h; exact ⟨x, rfl, h.symm⟩
theorem text_no (a0 : Option Addr) (n cap : Nat) (p : List Ins) (w : World) (hG : GA w) (hl : p.length = n) (hok : OkL p) (hR : RdI w w.heap.size a0 p) (hc : canL p = false) :
    Calls Tryd.prog 10 #[.slice a0 n cap] w fun e w' => e = .returned (.tuple #[.string (bs []), .int .i64 70]) ∧ Below w.heap.size w w' := by
  have HC := Lib.hid (can_call a0 n cap p w hG hl hok hR)
  rw [hc] at HC
  clear hG hl hok hR hc
  go_enter Tryd.func10, Tryd.ntmps10
  go_wp2_with (go_at_call 11; ((with_reducible refine (HC.out).mono ?_); rintro e w1 ⟨rfl, b1⟩))
  go_ret2
  exact ⟨rfl, b1⟩
set_option maxRecDepth 100000 in
set_option maxHeartbeats 8000000 in
theorem text_yes (a0 : Option Addr) (n cap : Nat) (p : List Ins) (w : World) (hG : GA w) (hl : p.length = n) (hok : OkL p) (hR : RdI w w.heap.size a0 p) (hc : canL p = true) :
    Calls Tryd.prog 10 #[.slice a0 n cap] w fun e w' => e = .returned (.tuple #[.string (bs (textL p)), .int .i64 0]) ∧ Below w.heap.size w w' := by
  have h1 : n ≤ 4096 := by rw [← hl]; exact (can_of hc).1
  have HC := Lib.hid (can_call a0 n cap p w hG hl hok hR)
  rw [hc] at HC
  have HL := Lib.hid hl
  have HLC := Lib.hid (fun W (b : Below w.heap.size w W) => lines_call a0 n cap p W (hG.on b) hl hok h1 hc ((hR.keep fun q hq => b.cell hq).more b.size))
  unfold LinesTo at HLC
  have HLG := Lib.hid (fun (b s0 B3 R R0 : Nat) (wC w0 : World) (hb : Below w.heap.size w wC) (h2 : b < w0.heap.size) (h3 : s0 ≠ b) (h4 : B3 ≠ b) (h5 : R ≠ b) (h0 : LnI wC s0 B3 R R0 a0 n cap p w0) =>
    lines_gives (Z := fun _ => False) b s0 B3 R R0 n cap a0 p wC w0 (hG.on hb) hl hok h1 hc ((hR.keep fun q hq => hb.cell hq).more hb.size) h2 h3 h4 h5 h0)
  have HTL := Lib.hid (show flatL (linesTo p n) = textL p by rw [← hl]; exact (text_flat p p.length).symm)
  have HTB := Lib.hid (show (textL p).length ≤ 130 * 4096 by have := text_le hok (k := p.length) (by omega); exact Nat.le_trans this (by omega))
  obtain ⟨xs, hxs⟩ : ∃ xs, xs = linesTo p n := ⟨_, rfl⟩
  rw [← hxs] at HLG HTL
  have HWR := Lib.hid (fun (B b : Nat) (x t : List UInt8) W (h : Bld B b x W) (hl : x.length + t.length ≤ 140737488355328) (hB : B ≤ W.heap.size) => write_call B b x t W h hl hB)
  have HST := Lib.hid (fun (B b : Nat) (x : List UInt8) W (h : Bld B b x W) (hB : B ≤ W.heap.size) => Tryd.Builder_String_any_k B b x W h hB)
  clear hG hl hok hR hc h1 hxs
  refine (callsIn_wide (n := 4)).1 ?_
  refine callsIn_of_wp_marks Tryd.func10 rfl trivial ?_ rfl
  simp only [Tryd.ntmps10, List.size_toArray, List.length_cons, List.length_nil, Nat.reduceAdd, Nat.reduceSub, Array.replicate_succ, Array.replicate_zero, List.push_toArray, List.append_toArray, List.nil_append, List.cons_append]
  gi_wp2_with (first
    | (refine ⟨trivial, ?_⟩
       gi_at_call 11
       refine (callsIn_wide.2 HC.out).mono ?_
       rintro e w1 ⟨rfl, b1⟩
       have B1 := Lib.hid b1
       have BA := Lib.hid (ball w1 (.cells #[.pointer none, .slice none 0 0] 47))
       clear b1)
    | (refine ⟨trivial, ?_⟩
       gi_at_call 21
       refine (callsIn_wide.2 (HLC.out _ (th2 B1.out BA.out))).mono ?_
       rintro e w2 ⟨B3, rfl, hB3, hA⟩
       have HA := Lib.hid hA
       clear hA))
  have hA := HA.out
  unfold LinesAt at hA
  rw [World.size_alloc] at hA hB3
  obtain ⟨a1, a2, a3, a4⟩ := hA
  have a5 := a4.size
  rw [World.size_alloc] at a5
  have b0 : Bld w1.heap.size w1.heap.size [] w2 := bld_below (bld_fresh w1) (by rw [World.size_alloc]; exact a4)
  have bw : Below w1.heap.size w1 w2 := BA.out.trans (a4.mono (Nat.le_succ _))
  have hg := HLG.out w1.heap.size (w1.heap.size + 1) B3 (w1.heap.size + 1 + 1) (w1.heap.size + 1 + 1) w1 w2 B1.out (by omega) (by omega) (by omega) (by omega) ⟨a1, a2, a3, bw⟩
  have BW := Lib.hid bw
  have BB := Lib.hid b0
  clear HA a1 a2 a3 a4 HLC HLG HC b0 bw
  refine wp_givesK (w0 := w2) (gf := 38) (lb := #[.pointer (some ⟨w1.heap.size + 1, 0, none⟩), .pointer (some ⟨B3, 0, none⟩)]) (Kp := KeepT 5 w1.heap.size w1.heap.size) (Z := fun _ => False) (xs := strV xs)
    rfl (enters_of Tryd.func38 (by kernel_rfl) rfl) hg (Below.refl _ _) (keepT_rel _ _ _ _ (by omega)) (TextI w1.heap.size w1.heap.size w1 xs) (fun _ _ => False)
    (textI_own _ _ _ _ (by omega)) (fun _ _ _ _ h _ _ => h) (fun z h => h.elim) (fun _ _ _ _ h => h.elim) ⟨BB.out, BW.out⟩ ?after ?assign ?body ?done ?stop
  case assign =>
    intro lp x V K hK
    gi_wp2
    exact hK
  case body =>
    rintro lp j x V hx ⟨hbl, hB⟩ hz
    obtain ⟨t, ht, rfl⟩ := strV_at hx
    have HF := Lib.hid (flat_more ht)
    have hle := flat_le xs (j + 1)
    rw [HTL.out] at hle
    have h3 := HTB.out
    have hsz : (flatL (xs.take j)).length + (t ++ [10]).length ≤ 130 * 4096 := by rw [← List.length_append, ← HF.out]; omega
    have htl : t.length ≤ 130 * 4096 := by rw [List.length_append] at hsz; omega
    have hbV := hB.size
    have HB := Lib.hid hB
    have HW := Lib.hid (HWR.out w1.heap.size w1.heap.size (flatL (xs.take j)) (t ++ [10]) V hbl (by omega) hbV)
    obtain ⟨t2, ht2⟩ : ∃ t2, t2 = t ++ [10] := ⟨_, rfl⟩
    rw [← ht2] at HW HF
    have HT2 := Lib.hid ht2.symm
    clear hx ht hle h3 hsz hbl hB ht2 hg
    gi_wp2_with (first
      | ((with_reducible show wpListIn _ _ _ _ _ (⟨some 13, _, _, _, _, _⟩ :: _) _ _)
         refine wpListIn_cat (x := t) (y := [10]) HT2.out rfl rfl rfl rfl (by simp; omega) ?_)
      | (refine ⟨trivial, ?_⟩
         gi_at_call 22
         refine (CallsIn.inRound lp (callsIn_wide.2 HW.out)).mono ?_
         rintro e V' ⟨⟨v, rfl⟩, h2, b2, k2⟩))
    refine ⟨⟨b2.size, fun k o hk ho hc => k2 k o ho (fun e => by injection e with e; omega) (by rintro c fz rfl; cases hc)⟩, ⟨b2, fun k o ho hc hk hx => k2 k o ho (fun e => hk (by injection e)) hx⟩, ⟨by rw [HF.out]; exact h2, HB.out.trans b2⟩⟩
  case done =>
    rintro V ⟨hbl, hB⟩ hK
    rw [strV_len, List.take_of_length_le (Nat.le_refl _), HTL.out] at hbl
    have HS := Lib.hid (HST.out w1.heap.size w1.heap.size (textL p) V hbl hB.size)
    have HB := Lib.hid hB
    clear hbl hB hg
    gi_wp2_with (refine ⟨trivial, ?_⟩
                 gi_at_call 23
                 refine (callsIn_wide.2 HS.out).mono ?_
                 rintro e V' ⟨rfl, _, b2, k2⟩)
    have hK2 := k2 _ _ hK (fun e => by injection e with e; omega) (by rintro c fz e; cases e)
    have hlt := (Array.getElem?_eq_some_iff.1 hK2).1
    refine ⟨by simp, .inl ⟨_, _, rfl, run_takeDeferred hK2, ?_⟩⟩
    refine ⟨_, results_tmp2 rfl _ _ _, rfl, ?_⟩
    have bf : Below w.heap.size w V' := B1.out.trans ((HB.out.trans b2).mono B1.out.size)
    exact bf.grown (grownBy_putObj' _ _ _) bf.size (fun k e => by cases e; have := B1.out.size; omega)
  case stop =>
    rintro j V h _
    exact h.elim
/-- What the landed Text returns. -/
theorem text_call (a0 : Option Addr) (n cap : Nat) (p : List Ins) (w : World) (hG : GA w) (hl : p.length = n) (hok : OkL p) (hR : RdI w w.heap.size a0 p) :
    Calls Tryd.prog 10 #[.slice a0 n cap] w fun e w' => e = .returned (.tuple #[.string (bs (textE p)), .int .i64 (textN p)]) ∧ Below w.heap.size w w' := by
  unfold textE textN
  cases hc : canL p with
  | false => rw [if_neg Bool.false_ne_true, if_neg Bool.false_ne_true]; exact text_no a0 n cap p w hG hl hok hR hc
  | true => rw [if_pos rfl, if_pos rfl]; exact text_yes a0 n cap p w hG hl hok hR hc
end Go.Proofs.YtlneiiljdghmjaaDoor
