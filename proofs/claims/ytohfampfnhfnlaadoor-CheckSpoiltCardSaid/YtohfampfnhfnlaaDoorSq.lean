/- The statement CheckSpoilt holds, over what the calls have to return: a program in which something is wrong with one instruction is not taken; it is told there, or ahead of it. -/
import Derived.Test.YtohfampfnhfnlaaDoorRows
import Derived.Test.YtohfampfnhfnlaaDoorCards
import Derived.Test.YtohfampfnhfnlaaDoorTie
import Derived.SevenTiedAt
import Derived.Test.YtohfampfnhfnlaaDoorWd
import Derived.Test.YtohfampfnhfnlaaDoorLw
import Derived.Test.YtohfampfnhfnlaaDoorUc
import Derived.Test.YtohfampfnhfnlaaDoorSa
import Derived.Test.YtohfampfnhfnlaaDoorId
import Derived.Deep.RegionHeld3
import Derived.BigQuiet
import Derived.Deep.QuietTactic
import Derived.Test.YtohfampfnhfnlaaDoorSo
import Derived.Deep.MidRow
import Derived.Laws.CopyOwn
import Derived.Deep.DeepCutAuto
namespace Go.Proofs.YtohfampfnhfnlaaDoor.checkSpoilt
open Go.ChangeShapes Go.WideShapes Go.ChangeAt Go.RowKit
open Go.ChangeMaps (open_string shut_string)
set_option linter.unusedVariables false
attribute [local go_sem ↓] Go.wp_at_zero Go.wp_at_succ
/-- 'copy(q, p)' into a row of as many elements, of whatever size. -/
theorem run_copy_whole (w : World) (dT sT ty elem : TypeId) (g n dCap : Nat) (sp : Option Addr) (sCap s : Nat) (cur : Array Value) (t : TypeId) (cs : List Value)
    (hu : Tryd.prog.underlying dT = some (.slice elem)) (hs : (Tryd.prog.info? elem).map (·.size) = some s)
    (hg : w.heap[g]? = some (.cells cur t (0, 0))) (hn : cs.length = n * s) (hcur : cur.size = n * s)
    (hsrc : 0 < n → ∃ a, sp = some a ∧ ∀ j v, cs[j]? = some v → w.cell? (a.add j) = some v) (h1 : ∀ v ∈ cs, v.oneCell' = true) :
    (Builtin.copy_ #[dT, sT] ty #[.slice (some ⟨g, 0, none⟩) n dCap, .slice sp n sCap]).run Tryd.prog w = .ok (goInt n) (w.setRow g cs.toArray) := by
  have hst := run_storeCells_at Tryd.prog g 0 t cs 0 cur w hg (by omega) h1
  have e : (cur.toList.take (0 + 0) ++ cs ++ cur.toList.drop (0 + 0 + cs.length)).toArray = cs.toArray := by
    rw [List.drop_of_length_le (by rw [Array.length_toList]; omega)]; simp
  rw [e] at hst
  cases hq : Tryd.prog.info? elem with
  | none => simp [hq] at hs
  | some i =>
    have hi : i.size = s := by simpa [hq] using hs
    by_cases h0 : 0 < n
    · obtain ⟨a, rfl, ha⟩ := hsrc h0
      have hl := run_loadCells_list (P := Tryd.prog) w a cs ha
      rw [hn] at hl
      simp [Builtin.copy_, run_underlying hu, Builtin.lenOf, Builtin.firstCells, sizeOf, typeInfo, hq, hi, hl, hst]
    · obtain rfl : n = 0 := by omega
      obtain rfl : cs = [] := List.eq_nil_of_length_eq_zero (by omega)
      have hl : ∀ (x : Addr), (loadCells x 0).run Tryd.prog w = .ok #[] w := fun x => by simpa using run_loadCells_list (P := Tryd.prog) w x [] (by simp)
      cases sp <;> simp [Builtin.copy_, run_underlying hu, Builtin.lenOf, Builtin.firstCells, sizeOf, typeInfo, hq, hl, hst]
theorem wpList_copy_whole {w : World} {ops : Array Oper} {rest : List Oper} {o : Oper} {a : Act} {Q : Exit → Act → World → Prop} (hgd : o.guard = none) (d s : Operand) (dT sT : TypeId)
    (ho : o.op = .call { callee := .builtin .copy, args := #[d, s], argTypes := #[dT, sT] }) (elem : TypeId) (g n dCap : Nat) (sp : Option Addr) (sCap sz : Nat) (cur : Array Value) (t : TypeId) (cs : List Value)
    (hu : Tryd.prog.underlying dT = some (.slice elem)) (hs : (Tryd.prog.info? elem).map (·.size) = some sz) (hd : a.eval d = .slice (some ⟨g, 0, none⟩) n dCap) (he : a.eval s = .slice sp n sCap)
    (hg : w.heap[g]? = some (.cells cur t (0, 0))) (hn : cs.length = n * sz) (hcur : cur.size = n * sz)
    (hsrc : 0 < n → ∃ a, sp = some a ∧ ∀ j v, cs[j]? = some v → w.cell? (a.add j) = some v) (h1 : ∀ v ∈ cs, v.oneCell' = true)
    (h : wpList Tryd.prog ops Q rest (a.put o.dst (goInt n)) (w.setRow g cs.toArray)) : wpList Tryd.prog ops Q (o :: rest) a w := by
  refine wpList_plain hgd fun K hK => ?_
  have hrun := run_copy_whole w dT sT o.type elem g n dCap sp sCap sz cur t cs hu hs hg hn hcur hsrc h1
  unfold Oper.wp
  simp [execOp, ho, resolve, invoke, builtin, hd, he, hrun, Result.andThen]
  exact hK _ _ h
theorem own4_heap {w : World} {base g n : Nat} {e : TypeId} {xs : List Value} (h : w.ownsRow base e 4 (.slice (some ⟨g, 0, none⟩) n n) n xs) : w.heap[g]? = some (.cells xs.toArray e (0, 0)) := by
  rcases h.2 with ⟨h', _⟩ | ⟨g', cap', cur, h', _, hg, _, _, hcs, htake⟩
  · simp at h'
  · simp only [Value.slice.injEq, Option.some.injEq, Addr.mk.injEq, and_true, true_and] at h'
    obtain ⟨rfl, rfl⟩ := h'
    rw [List.take_of_length_le (by rw [Array.length_toList, hcs]; exact Nat.le_refl _)] at htake
    rw [hg, ← htake]
theorem own4_of_heap {w : World} {base g n : Nat} {e : TypeId} {xs : List Value} (h : w.heap[g]? = some (.cells xs.toArray e (0, 0))) (hn : xs.length = n * 4) (hb : base ≤ g) (hm : n ≤ maxLen) :
    w.ownsRow base e 4 (.slice (some ⟨g, 0, none⟩) n n) n xs :=
  ⟨by omega, .inr ⟨g, n, xs.toArray, rfl, hb, h, Nat.le_refl _, hm, by simp; omega, by rw [List.take_of_length_le (by simp; omega)]⟩⟩
theorem progC_set : ∀ (l : List Ins) (i : Nat) (c jt jf k : Int), i < l.length → ((((progC l).set (i * 4) (.int .u16 c)).set (i * 4 + 1) (.int .u8 jt)).set (i * 4 + 2) (.int .u8 jf)).set (i * 4 + 3) (.int .u32 k) = progC (l.set i ⟨c, jt, jf, k⟩)
  | [], i, c, jt, jf, k, h => absurd h (by simp)
  | a :: r, 0, c, jt, jf, k, h => rfl
  | a :: r, i + 1, c, jt, jf, k, h => by
    have ih := progC_set r i c jt jf k (by simpa using h)
    show ((((insC a ++ progC r).set ((i + 1) * 4) (.int .u16 c)).set ((i + 1) * 4 + 1) (.int .u8 jt)).set ((i + 1) * 4 + 2) (.int .u8 jf)).set ((i + 1) * 4 + 3) (.int .u32 k) = insC a ++ progC (r.set i ⟨c, jt, jf, k⟩)
    have hl : (insC a).length = 4 := rfl
    rw [List.set_append_right _ _ (by rw [hl]; omega), List.set_append_right _ _ (by rw [hl]; omega), List.set_append_right _ _ (by rw [hl]; omega), List.set_append_right _ _ (by rw [hl]; omega), hl,
      show (i + 1) * 4 - 4 = i * 4 by omega, show (i + 1) * 4 + 1 - 4 = i * 4 + 1 by omega, show (i + 1) * 4 + 2 - 4 = i * 4 + 2 by omega, show (i + 1) * 4 + 3 - 4 = i * 4 + 3 by omega, ih]
theorem OkL.set_ {l : List Ins} (h : OkL l) (n : Nat) {i : Ins} (hi : i.Ok) : OkL (l.set n i) := fun x hx => by
  rcases List.mem_or_eq_of_mem_set hx with h1 | h1
  · exact h x h1
  · rw [h1]; exact hi
/-- An instruction in the place of another one. -/
theorem put_at {v : World} {g : Nat} {l : List Ins} (h : v.heap[g]? = some (.cells (progC l).toArray 35 (0, 0))) {n : Nat} (hn : n < l.length) (i : Ins) :
    (v.setCells g (n * 4) [.int .u16 i.c, .int .u8 i.jt, .int .u8 i.jf, .int .u32 i.k]).heap[g]? = some (.cells (progC (l.set n i)).toArray 35 (0, 0)) := by
  have h1 := heap_setCell_same v g (n * 4) _ _ (.int .u16 i.c) h
  have h2 := heap_setCell_same _ g (n * 4 + 1) _ _ (.int .u8 i.jt) h1
  have h3 := heap_setCell_same _ g (n * 4 + 1 + 1) _ _ (.int .u8 i.jf) h2
  have h4 := heap_setCell_same _ g (n * 4 + 1 + 1 + 1) _ _ (.int .u32 i.k) h3
  have e := progC_set l n i.c i.jt i.jf i.k hn
  refine h4.trans ?_
  simp only [List.setIfInBounds_toArray]
  rw [show n * 4 + 1 + 1 = n * 4 + 2 from rfl, show n * 4 + 2 + 1 = n * 4 + 3 from rfl, e]
theorem at_there {v : World} {g : Nat} {l : List Ins} (h : v.heap[g]? = some (.cells (progC l).toArray 35 (0, 0))) {n : Nat} (hn : n < l.length) : v.there g (n * 4) 4 := fun j hj => by
  have hl := progC_length l
  refine ⟨?_, frozen_of_row _ _ _ _ _ h⟩
  rw [cell_of_row v g (n * 4 + j) _ _ (0, 0) h, List.getElem?_toArray, List.getElem?_eq_getElem (by omega)]; rfl
theorem insn_size4 : (Tryd.prog.info? 35).map (·.size) = some 4 := by kernel_rfl
theorem prog_news {w : World} {B : Nat} {p : Option Addr} {l : List Ins} (h : RdI w B p l) {n : Nat} (hn : l.length = n) (h0 : 0 < n) : ∃ a, p = some a ∧ ∀ j v, (progC l)[j]? = some v → w.cell? (a.add j) = some v := by
  obtain ⟨b, o, rfl, _, hc⟩ := h (by omega)
  refine ⟨_, rfl, fun j v hv => ?_⟩
  have hj : j < (progC l).length := (List.getElem?_eq_some_iff.1 hv).1
  rw [progC_length] at hj
  obtain ⟨i, r, rfl, hr⟩ : ∃ i r, j = i * 4 + r ∧ r < 4 := ⟨j / 4, j % 4, by omega, by omega⟩
  have hi : i < l.length := by omega
  have h := hc i hi
  rw [progC_get hi r hr] at hv
  rw [Addr.add_mid]
  match r, hr with
  | 0, _ => rw [show o + (i * 4 + 0) = o + i * 4 by omega]; exact h.a0.trans hv
  | 1, _ => rw [show o + (i * 4 + 1) = o + i * 4 + 1 by omega]; exact h.a1.trans hv
  | 2, _ => rw [show o + (i * 4 + 2) = o + i * 4 + 2 by omega]; exact h.a2.trans hv
  | 3, _ => rw [show o + (i * 4 + 3) = o + i * 4 + 3 by omega]; exact h.a3.trans hv
  | r + 4, hr => omega
theorem below_setCells {w0 : World} {b : Nat} (hb : w0.heap.size ≤ b) : ∀ (vs : List Value) (o : Nat) (w : World), Below w0.heap.size w0 w → Below w0.heap.size w0 (w.setCells b o vs)
  | [], o, w, h => h
  | v :: vs, o, w, h => below_setCells hb vs (o + 1) (w.setCell ⟨b, o, none⟩ v) (h.setCell hb v)
theorem rd_row {w : World} {g : Nat} {l : List Ins} (h : w.heap[g]? = some (.cells (progC l).toArray 35 (0, 0))) : RdI w w.heap.size (some ⟨g, 0, none⟩) l := by
  refine RdI.of_cells (Array.getElem?_eq_some_iff.1 h).1 fun j u hu => ?_
  rw [Nat.zero_add, cell_of_row _ _ j _ _ (0, 0) h, List.getElem?_toArray]
  exact hu
set_option maxRecDepth 100000 in
set_option maxHeartbeats 16000000 in
theorem walk {G : World → Prop} (HC : CheckC G) (a0 : Option Addr) (len0 cap0 : Nat) (z0 : List Ins) (a1 : Int) (a2 : Ins) (w : World) (hG : G w) (w0 : IsInsns w a0 len0 cap0 z0) (w1 : (Lit.int .i64 a1).wf = true) (w2 : a2.Ok) :
    Calls Tryd.prog 9 #[.slice a0 len0 cap0, .int .i64 a1, .agg #[.int .u16 a2.c, .int .u8 a2.jt, .int .u8 a2.jf, .int .u32 a2.k]] w fun e w' => e = .returned (.bool true) ∧ Below w.heap.size w w' := by
  have HB0 := Lib.hid (show Below w.heap.size w (w.alloc (.cells #[.int .u16 a2.c, .int .u8 a2.jt, .int .u8 a2.jf, .int .u32 a2.k] 35)) from (Below.refl _ _).alloc (Nat.le_refl _) _)
  have hG1 := HC.al hG (.cells #[.int .u16 a2.c, .int .u8 a2.jt, .int .u8 a2.jf, .int .u32 a2.k] 35)
  have HA := Lib.hid (awake6_any HC (w.alloc (.cells #[.int .u16 a2.c, .int .u8 a2.jt, .int .u8 a2.jf, .int .u32 a2.k] 35)) hG1)
  by_cases hin : ¬ (300 : Int) < len0 ∧ 0 ≤ a1 ∧ a1 < len0
  case neg =>
    clear HC hG hG1 w0 w2
    by_cases c1 : (300 : Int) < len0
    · go_enter Tryd.func9, Tryd.ntmps9
      go_wp2_with (go_at_call 17; ((with_reducible refine (HA.out).mono ?_); rintro e v1 ⟨rfl, b1⟩))
      go_ret
      exact ⟨rfl, HB0.out.trans (b1.mono (by simp))⟩
    · by_cases c2 : a1 < 0
      · go_enter Tryd.func9, Tryd.ntmps9
        go_wp2_with (go_at_call 17; ((with_reducible refine (HA.out).mono ?_); rintro e v1 ⟨rfl, b1⟩))
        go_ret
        exact ⟨rfl, HB0.out.trans (b1.mono (by simp))⟩
      · have c3 : (len0 : Int) ≤ a1 := by omega
        go_enter Tryd.func9, Tryd.ntmps9
        go_wp2_with (go_at_call 17; ((with_reducible refine (HA.out).mono ?_); rintro e v1 ⟨rfl, b1⟩))
        go_ret
        exact ⟨rfl, HB0.out.trans (b1.mono (by simp))⟩
  obtain ⟨hbig, ha0, ha1⟩ := hin
  obtain ⟨n, rfl⟩ := Int.eq_ofNat_of_zero_le ha0
  obtain ⟨i0, ki, kz0, kz1, kz2⟩ := info_parts insn_info
  have KI := Lib.hid ki
  have K0 := Lib.hid kz0
  have K1 := Lib.hid kz1
  have hm0 : i0.bytes * len0 ≤ 281474976710656 := by rw [kz2]; omega
  have hm1 : len0 ≤ maxLen := by unfold maxLen; omega
  have HON := Lib.hid (fun (w w' : World) => HC.on (w := w) (w' := w'))
  have HG1 := Lib.hid hG1
  have HSZ := Lib.hid w0.size
  have hn : n < z0.length := by rw [w0.size]; omega
  have hq : (z0.set n a2).length = len0 := by rw [List.length_set]; exact w0.size
  have HSP := Lib.hid (fun he => spoilt (q := z0.set n a2) (i := n) (x := a2) (by rw [List.getElem?_set_self hn]) (by rw [hq]; omega) he)
  rw [hq] at HSP
  have HONE := Lib.hid (fun (W : World) (g : G W) => HC.one a2 ((len0 : Int) - 1 - n) W g w2 (by omega) (by omega))
  have HAT := Lib.hid (fun (W : World) (s : Nat) (g : G W) (h : RdI W W.heap.size (some ⟨s, 0, none⟩) (z0.set n a2)) => HC.at_ (some ⟨s, 0, none⟩) len0 len0 _ W g hq (OkL.set_ w0.ok n w2) (Nat.le_refl _) hm1 (fun h => by cases h) h)
  obtain ⟨e, he⟩ : ∃ e, e = oneE a2 ((len0 : Int) - 1 - n) := ⟨_, rfl⟩
  obtain ⟨x, hx⟩ : ∃ x : Int, x = ((atL (z0.set n a2)).1 : Nat) := ⟨_, rfl⟩
  obtain ⟨f, hf⟩ : ∃ f, f = (atL (z0.set n a2)).2 := ⟨_, rfl⟩
  have hsp : e ≠ 0 → f ≠ 0 ∧ x ≤ n ∧ (x < n ∨ f = e) := fun h => by
    rw [he] at h
    obtain ⟨p1, p2, p3⟩ := HSP.out h
    rw [hf, hx, he]
    exact ⟨p1, by omega, p3.imp (fun h => by omega) id⟩
  rw [← he] at HONE
  rw [← hx, ← hf] at HAT
  have HSPX := Lib.hid hsp
  have HN := Lib.hid hn
  have R0 := Lib.hid (w0.rd.on HB0.out)
  have HOC : Hid ((#[Value.int .u16 a2.c, .int .u8 a2.jt, .int .u8 a2.jf, .int .u32 a2.k] : Array Value).all (·.oneCell') = true) := Lib.hid (by kernel_rfl)
  have e1 : (len0 : Int) ≤ 300 := by omega
  have e2 : (n : Int) < len0 := ha1
  have e3 : (0 : Int) ≤ n := ha0
  clear HC hG hG1 w0 w2 ki kz0 kz1 kz2 HSP he hx hf hsp hq hn ha0 ha1
  by_cases q0 : e = 0
  · subst q0
    clear HSPX
    go_enter Tryd.func9, Tryd.ntmps9
    go_wp2_with (first
      | (go_at_call 17; ((with_reducible refine (HA.out).mono ?_); rintro e' v1 ⟨rfl, b1⟩); have G1 := Lib.hid (HON.out _ _ HG1.out b1); have R1 := R0.out.on b1; have B1 := Lib.hid b1)
      | ((with_reducible show wpList _ _ _ (⟨some 28, _, _, _, _, _⟩ :: _) _ _)
         refine wpList_make_full _ rfl _ _ 22 rfl v1.heap.size 35 i0 _ 4 Tryd.underlying22 KI.out K0.out K1.out .i64 .i64 len0 len0 len0 rfl rfl rfl rfl hm0 hm1 (Nat.le_refl _) ?_
         intro v4 o4 g4
         have b4 : Below v1.heap.size v1 v4 := (Below.refl _ _).grown g4 (Nat.le_refl _) (by intro k hk; cases hk)
         have R4 := R1.on b4
         have hh4 := Lib.hid (own4_heap o4)
         have hl4 := Lib.hid o4.1
         have hz4 := Lib.hid (o4.lt v1.heap.size rfl)
         clear o4 g4)
      | ((with_reducible show wpList _ _ _ (⟨some 31, _, _, _, _, _⟩ :: _) _ _)
         refine wpList_copy_whole (o := ⟨some 31, _, _, _, _, _⟩) rfl (.tmp 29) (.tmp 30) 22 22 rfl 35 v1.heap.size len0 len0 a0 cap0 4 _ 35 (progC z0) Tryd.underlying22 insn_size4 rfl rfl hh4.out (by rw [progC_length, HSZ.out]) (by have := hl4.out; simp at this ⊢; omega) (fun h => prog_news R4 HSZ.out h) (progC_one _) ?_
         obtain ⟨v5, hv5⟩ : ∃ v5, v5 = v4.setRow v1.heap.size (progC z0).toArray := ⟨_, rfl⟩
         rw [← hv5]
         have h5 := Lib.hid (show v5.heap[v1.heap.size]? = some (.cells (progC z0).toArray 35 (0, 0)) by rw [hv5]; exact setRow_heap v4 _ _ _ _ _ hh4.out)
         have b5 : Below v1.heap.size v1 v5 := by rw [hv5]; exact below_setRow b4 (Nat.le_refl _) _
         have BB5 := thn B1.out b5
         obtain ⟨s0, s1, s2, s3⟩ := And.intro (box_cells BB5 0 _ rfl) (And.intro (box_cells BB5 1 _ rfl) (And.intro (box_cells BB5 2 _ rfl) (box_cells BB5 3 _ rfl)))
         have HTH := Lib.hid (at_there h5.out HN.out)
         have HP := Lib.hid (put_at h5.out HN.out a2)
         have HBB := Lib.hid (below_setCells (Nat.le_refl _) [.int .u16 a2.c, .int .u8 a2.jt, .int .u8 a2.jf, .int .u32 a2.k] (n * 4) _ b5)
         clear hh4 hl4 hz4 hv5 b4 R4 BB5 b5)
      | ((with_reducible show wpList _ _ _ (⟨none, .store 35 (.tmp 35) (.tmp 34), _, _, _, _⟩ :: _) _ _)
         refine wpList_store_mid rfl 35 (.tmp 35) (.tmp 34) rfl v1.heap.size (n * 4) #[.int .u16 a2.c, .int .u8 a2.jt, .int .u8 a2.jf, .int .u32 a2.k] rfl rfl HTH.out insn_size4 HOC.out ?_
         obtain ⟨v6, hv6⟩ : ∃ v6, v6 = v5.setCells v1.heap.size (n * 4) [.int .u16 a2.c, .int .u8 a2.jt, .int .u8 a2.jf, .int .u32 a2.k] := ⟨_, rfl⟩
         rw [← hv6] at HP HBB
         simp only [] at *
         rw [show v5.setCells v1.heap.size (n * 4) (#[.int .u16 a2.c, .int .u8 a2.jt, .int .u8 a2.jf, .int .u32 a2.k] : Array Value).toList = v6 from hv6.symm]
         have BB6 := thn B1.out HBB.out
         clear s0 s1 s2 s3 hv6
         obtain ⟨s0, s1, s2, s3⟩ := And.intro (box_cells BB6 0 _ rfl) (And.intro (box_cells BB6 1 _ rfl) (And.intro (box_cells BB6 2 _ rfl) (box_cells BB6 3 _ rfl)))
         have G6 := HON.out _ _ G1.out HBB.out
         have R6 := rd_row HP.out)
      | (go_at_call 15; ((with_reducible refine (HONE.out _ G6).mono ?_); rintro e' v7 ⟨rfl, b7⟩); have G7 := HON.out _ _ G6 b7; have R7 := R6.on b7; have B7 := thn BB6 b7)
      | (go_at_call 11; ((with_reducible refine (HAT.out _ _ G7 R7).mono ?_); rintro e' v8 ⟨rfl, b8⟩); have B8 := Lib.hid (HB0.out.trans ((thn B7 b8).mono (by simp)))))
    go_ret
    exact ⟨rfl, B8.out⟩
  obtain ⟨p1, p2, p3⟩ := HSPX.out q0
  have q1 : (e == 0) = false := by simp [q0]
  have q2 : (f != 0) = true := by simp [p1]
  have q5 : (f == f) = true := by simp
  clear HSPX
  by_cases q3 : x < n
  · clear p3
    go_enter Tryd.func9, Tryd.ntmps9
    go_wp2_with (first
      | (go_at_call 17; ((with_reducible refine (HA.out).mono ?_); rintro e' v1 ⟨rfl, b1⟩); have G1 := Lib.hid (HON.out _ _ HG1.out b1); have R1 := R0.out.on b1; have B1 := Lib.hid b1)
      | ((with_reducible show wpList _ _ _ (⟨some 28, _, _, _, _, _⟩ :: _) _ _)
         refine wpList_make_full _ rfl _ _ 22 rfl v1.heap.size 35 i0 _ 4 Tryd.underlying22 KI.out K0.out K1.out .i64 .i64 len0 len0 len0 rfl rfl rfl rfl hm0 hm1 (Nat.le_refl _) ?_
         intro v4 o4 g4
         have b4 : Below v1.heap.size v1 v4 := (Below.refl _ _).grown g4 (Nat.le_refl _) (by intro k hk; cases hk)
         have R4 := R1.on b4
         have hh4 := Lib.hid (own4_heap o4)
         have hl4 := Lib.hid o4.1
         have hz4 := Lib.hid (o4.lt v1.heap.size rfl)
         clear o4 g4)
      | ((with_reducible show wpList _ _ _ (⟨some 31, _, _, _, _, _⟩ :: _) _ _)
         refine wpList_copy_whole (o := ⟨some 31, _, _, _, _, _⟩) rfl (.tmp 29) (.tmp 30) 22 22 rfl 35 v1.heap.size len0 len0 a0 cap0 4 _ 35 (progC z0) Tryd.underlying22 insn_size4 rfl rfl hh4.out (by rw [progC_length, HSZ.out]) (by have := hl4.out; simp at this ⊢; omega) (fun h => prog_news R4 HSZ.out h) (progC_one _) ?_
         obtain ⟨v5, hv5⟩ : ∃ v5, v5 = v4.setRow v1.heap.size (progC z0).toArray := ⟨_, rfl⟩
         rw [← hv5]
         have h5 := Lib.hid (show v5.heap[v1.heap.size]? = some (.cells (progC z0).toArray 35 (0, 0)) by rw [hv5]; exact setRow_heap v4 _ _ _ _ _ hh4.out)
         have b5 : Below v1.heap.size v1 v5 := by rw [hv5]; exact below_setRow b4 (Nat.le_refl _) _
         have BB5 := thn B1.out b5
         obtain ⟨s0, s1, s2, s3⟩ := And.intro (box_cells BB5 0 _ rfl) (And.intro (box_cells BB5 1 _ rfl) (And.intro (box_cells BB5 2 _ rfl) (box_cells BB5 3 _ rfl)))
         have HTH := Lib.hid (at_there h5.out HN.out)
         have HP := Lib.hid (put_at h5.out HN.out a2)
         have HBB := Lib.hid (below_setCells (Nat.le_refl _) [.int .u16 a2.c, .int .u8 a2.jt, .int .u8 a2.jf, .int .u32 a2.k] (n * 4) _ b5)
         clear hh4 hl4 hz4 hv5 b4 R4 BB5 b5)
      | ((with_reducible show wpList _ _ _ (⟨none, .store 35 (.tmp 35) (.tmp 34), _, _, _, _⟩ :: _) _ _)
         refine wpList_store_mid rfl 35 (.tmp 35) (.tmp 34) rfl v1.heap.size (n * 4) #[.int .u16 a2.c, .int .u8 a2.jt, .int .u8 a2.jf, .int .u32 a2.k] rfl rfl HTH.out insn_size4 HOC.out ?_
         obtain ⟨v6, hv6⟩ : ∃ v6, v6 = v5.setCells v1.heap.size (n * 4) [.int .u16 a2.c, .int .u8 a2.jt, .int .u8 a2.jf, .int .u32 a2.k] := ⟨_, rfl⟩
         rw [← hv6] at HP HBB
         simp only [] at *
         rw [show v5.setCells v1.heap.size (n * 4) (#[.int .u16 a2.c, .int .u8 a2.jt, .int .u8 a2.jf, .int .u32 a2.k] : Array Value).toList = v6 from hv6.symm]
         have BB6 := thn B1.out HBB.out
         clear s0 s1 s2 s3 hv6
         obtain ⟨s0, s1, s2, s3⟩ := And.intro (box_cells BB6 0 _ rfl) (And.intro (box_cells BB6 1 _ rfl) (And.intro (box_cells BB6 2 _ rfl) (box_cells BB6 3 _ rfl)))
         have G6 := HON.out _ _ G1.out HBB.out
         have R6 := rd_row HP.out)
      | (go_at_call 15; ((with_reducible refine (HONE.out _ G6).mono ?_); rintro e' v7 ⟨rfl, b7⟩); have G7 := HON.out _ _ G6 b7; have R7 := R6.on b7; have B7 := thn BB6 b7)
      | (go_at_call 11; ((with_reducible refine (HAT.out _ _ G7 R7).mono ?_); rintro e' v8 ⟨rfl, b8⟩); have B8 := Lib.hid (HB0.out.trans ((thn B7 b8).mono (by simp)))))
    go_ret
    exact ⟨by first | rfl | simp | simp [q3, q5], B8.out⟩
  · obtain rfl := p3.resolve_left q3
    go_enter Tryd.func9, Tryd.ntmps9
    go_wp2_with (first
      | (go_at_call 17; ((with_reducible refine (HA.out).mono ?_); rintro e' v1 ⟨rfl, b1⟩); have G1 := Lib.hid (HON.out _ _ HG1.out b1); have R1 := R0.out.on b1; have B1 := Lib.hid b1)
      | ((with_reducible show wpList _ _ _ (⟨some 28, _, _, _, _, _⟩ :: _) _ _)
         refine wpList_make_full _ rfl _ _ 22 rfl v1.heap.size 35 i0 _ 4 Tryd.underlying22 KI.out K0.out K1.out .i64 .i64 len0 len0 len0 rfl rfl rfl rfl hm0 hm1 (Nat.le_refl _) ?_
         intro v4 o4 g4
         have b4 : Below v1.heap.size v1 v4 := (Below.refl _ _).grown g4 (Nat.le_refl _) (by intro k hk; cases hk)
         have R4 := R1.on b4
         have hh4 := Lib.hid (own4_heap o4)
         have hl4 := Lib.hid o4.1
         have hz4 := Lib.hid (o4.lt v1.heap.size rfl)
         clear o4 g4)
      | ((with_reducible show wpList _ _ _ (⟨some 31, _, _, _, _, _⟩ :: _) _ _)
         refine wpList_copy_whole (o := ⟨some 31, _, _, _, _, _⟩) rfl (.tmp 29) (.tmp 30) 22 22 rfl 35 v1.heap.size len0 len0 a0 cap0 4 _ 35 (progC z0) Tryd.underlying22 insn_size4 rfl rfl hh4.out (by rw [progC_length, HSZ.out]) (by have := hl4.out; simp at this ⊢; omega) (fun h => prog_news R4 HSZ.out h) (progC_one _) ?_
         obtain ⟨v5, hv5⟩ : ∃ v5, v5 = v4.setRow v1.heap.size (progC z0).toArray := ⟨_, rfl⟩
         rw [← hv5]
         have h5 := Lib.hid (show v5.heap[v1.heap.size]? = some (.cells (progC z0).toArray 35 (0, 0)) by rw [hv5]; exact setRow_heap v4 _ _ _ _ _ hh4.out)
         have b5 : Below v1.heap.size v1 v5 := by rw [hv5]; exact below_setRow b4 (Nat.le_refl _) _
         have BB5 := thn B1.out b5
         obtain ⟨s0, s1, s2, s3⟩ := And.intro (box_cells BB5 0 _ rfl) (And.intro (box_cells BB5 1 _ rfl) (And.intro (box_cells BB5 2 _ rfl) (box_cells BB5 3 _ rfl)))
         have HTH := Lib.hid (at_there h5.out HN.out)
         have HP := Lib.hid (put_at h5.out HN.out a2)
         have HBB := Lib.hid (below_setCells (Nat.le_refl _) [.int .u16 a2.c, .int .u8 a2.jt, .int .u8 a2.jf, .int .u32 a2.k] (n * 4) _ b5)
         clear hh4 hl4 hz4 hv5 b4 R4 BB5 b5)
      | ((with_reducible show wpList _ _ _ (⟨none, .store 35 (.tmp 35) (.tmp 34), _, _, _, _⟩ :: _) _ _)
         refine wpList_store_mid rfl 35 (.tmp 35) (.tmp 34) rfl v1.heap.size (n * 4) #[.int .u16 a2.c, .int .u8 a2.jt, .int .u8 a2.jf, .int .u32 a2.k] rfl rfl HTH.out insn_size4 HOC.out ?_
         obtain ⟨v6, hv6⟩ : ∃ v6, v6 = v5.setCells v1.heap.size (n * 4) [.int .u16 a2.c, .int .u8 a2.jt, .int .u8 a2.jf, .int .u32 a2.k] := ⟨_, rfl⟩
         rw [← hv6] at HP HBB
         simp only [] at *
         rw [show v5.setCells v1.heap.size (n * 4) (#[.int .u16 a2.c, .int .u8 a2.jt, .int .u8 a2.jf, .int .u32 a2.k] : Array Value).toList = v6 from hv6.symm]
         have BB6 := thn B1.out HBB.out
         clear s0 s1 s2 s3 hv6
         obtain ⟨s0, s1, s2, s3⟩ := And.intro (box_cells BB6 0 _ rfl) (And.intro (box_cells BB6 1 _ rfl) (And.intro (box_cells BB6 2 _ rfl) (box_cells BB6 3 _ rfl)))
         have G6 := HON.out _ _ G1.out HBB.out
         have R6 := rd_row HP.out)
      | (go_at_call 15; ((with_reducible refine (HONE.out _ G6).mono ?_); rintro e' v7 ⟨rfl, b7⟩); have G7 := HON.out _ _ G6 b7; have R7 := R6.on b7; have B7 := thn BB6 b7)
      | (go_at_call 11; ((with_reducible refine (HAT.out _ _ G7 R7).mono ?_); rintro e' v8 ⟨rfl, b8⟩); have B8 := Lib.hid (HB0.out.trans ((thn B7 b8).mono (by simp)))))
    go_ret
    exact ⟨by first | rfl | simp | simp [q3, q5], B8.out⟩

set_option maxRecDepth 100000 in
theorem lifted (HC : CheckC GW) (os : Os) (started : os.Started) (H : Type) (enc : TypeId × Value → H) :
    ReturnsInHanded {} Tryd.checked os 9 .any (fun w args => (Rows.checkSpoiltSpec.pre enc Tryd.prog Tryd.f9 [] false w args ∧ laidMetH Tryd.prog listed w) ∧ sizedMet enc Tryd.prog Tryd.f9 (OpenSpec.ofChange Rows.checkSpoiltSpec) false w args)
      (Rows.checkSpoiltSpec.post enc Tryd.prog Tryd.f9 false true false false) := by
  refine returnsInHanded_of_change_and (C := Tryd.checked) (X := fun w _ => laidMetH Tryd.prog listed w) (fun _ _ _ hh h => h.of_heap hh) ownKnob_none started (by kernel_rfl) Tryd.func9
    (ChangeSpec.witness_shaped (enc := enc) (C := Tryd.checked) (os := os) (X := fun w _ => laidMetH Tryd.prog listed w) false (World.doorLaid Tryd.prog 400 os) #[.slice none 0 0, .int .i64 0, .agg #[.int .u16 0, .int .u8 0, .int .u8 0, .int .u32 0]] 8 rfl (World.shaped_of_RefB (by kernel_rfl) (by kernel_rfl)) (by kernel_rfl) (by kernel_rfl) (by kernel_rfl) (door_met os _)) ?_
  intro W base args ds gs before hval0 hW _ _ hL _
  have hG : GW W := of_laid hL
  have hval : ∀ (j : Nat) t v, Tryd.f9.params[j]? = some t → args[j]? = some v → Value.okWide Tryd.prog W .any base t v := hval0
  have hW' := hW
  obtain ⟨p, q, hA0, hV, rfl, hfz, hnd⟩ := hW
  have hA : DataW.TrodAll enc Tryd.prog W 0 (fun _ => true) true Tryd.f9.params.toList args.toList ds p := hA0
  rw [Tryd.params9] at hA hval
  obtain ⟨v0, vs0, d0, ds0, p0, q0, hargs, rfl, rfl, h0, r0⟩ := trodAll_cons hA
  obtain ⟨v1, vs1, d1, ds1, p1, q1, rfl, rfl, rfl, h1, r1⟩ := trodAll_cons r0
  obtain ⟨v2, vs2, d2, ds2, p2, q2, rfl, rfl, rfl, h2, r2⟩ := trodAll_cons r1
  obtain ⟨rfl, rfl, rfl⟩ := trodAll_nil r2
  obtain rfl : args = #[v0, v1, v2] := by cases args; simp_all
  obtain ⟨rfl, rfl⟩ := trodVars_none hV
  obtain ⟨a0, len0, cap0, rfl⟩ := okWide_slice Tryd.underlying22 (hval 0 22 v0 rfl rfl)
  have k0 := h0
  have lt0 : ∀ x ∈ p0, x.block < W.heap.size := by obtain ⟨m, hm⟩ := k0; exact DataW.trod_lt m _ _ _ hm
  obtain ⟨z0, w0⟩ := insns_open h0 lt0
  obtain ⟨a1, rfl, rfl, rfl, w1⟩ := open_int Tryd.underlying3 (hval 1 3 v1 rfl rfl) h1
  have k2 := h2
  have lt2 : ∀ x ∈ p2, x.block < W.heap.size := by obtain ⟨m, hm⟩ := k2; exact DataW.trod_lt m _ _ _ hm
  obtain ⟨a2, w2, rfl⟩ := insn_open (hval 2 35 v2 rfl rfl) h2
  clear hA0 hval0
  refine (walk HC a0 len0 cap0 z0 a1 a2 W hG w0 w1 w2).mono fun e W' ⟨he, bel⟩ => ?_
  subst he
  exact ⟨_, rfl, _, _, _, [], _, [], hW', trodAll_mk1 (shut_bool Tryd.underlying4 _), (trodAll_cons_mk (Below.trod laidOut (by kernel_rfl) (of_decide_eq_true (by kernel_rfl)) k0 bel lt0) (trodAll_cons_mk (shut_int Tryd.underlying3 w1) (trodAll_cons_mk (Below.trod laidOut (by kernel_rfl) (of_decide_eq_true (by kernel_rfl)) k2 bel lt2) trodAll_mk0))), rfl, bel.frame _, fun h => by cases h⟩

theorem over (HC : CheckC GW) : Rows.checkSpoiltRow.holds Tryd.pinned (OpenSpec.ofChange Rows.checkSpoiltSpec) :=
  OpenClaim.holds_of_wide 9 Tryd.f9 rfl rfl rfl rfl rfl rfl rfl ⟨rfl, rfl, rfl, rfl, rfl⟩ rfl rfl rfl rfl rfl (by kernel_rfl) Tryd.func9 (by kernel_rfl)
    (of_decide_eq_true (by kernel_rfl)) (by unfold Func.isWrapper; first | (rw [if_pos (by decide +kernel)]; kernel_rfl) | (rw [if_neg (by decide +kernel)]; exact ⟨rfl, rfl⟩))
    (fun os started H enc _ => lifted HC os started H enc)

/-- The row's statement. -/
theorem row_holds : Rows.CheckSpoiltSaid := over checkC
/-- The statement: the row, its table tied to the program's text. -/
theorem proved : Rows.CheckSpoiltCardSaid :=
  Claim7.holds_tied_plain_at .later [] [.data] true Rows.checkSpoiltCard.stood.harness Rows.checkSpoiltCard.stood.looks
    row_holds (fun _ h => by cases h) (by kernel_rfl) (fun _ h => by cases h) checkSpoilt_row_tie rfl ⟨rfl, rfl⟩ (by kernel_rfl) rfl
    (fun f fn hf hfn => by
      obtain rfl : f = 9 := Option.some.inj ((show Tryd.prog.funcNamed "vestibule/vestibulelaw06.CheckSpoilt" = some 9 by kernel_rfl).symm.trans hf) |>.symm
      obtain rfl : fn = Tryd.f9 := (Option.some.inj (Tryd.func9.symm.trans hfn)).symm
      exact ⟨by kernel_rfl, fun j t ht => by
        have hm : t ∈ Tryd.f9.params.toList := by simpa using Array.mem_of_getElem? ht
        have hall : (Tryd.f9.params.toList.all fun u => !Tryd.prog.wantsStandIn u) = true := by kernel_rfl
        exact (show Tryd.prog.wantsStandIn t = false by simpa using List.all_eq_true.1 hall t hm)⟩)
    (by kernel_rfl)
#print axioms proved
end Go.Proofs.YtohfampfnhfnlaaDoor.checkSpoilt
