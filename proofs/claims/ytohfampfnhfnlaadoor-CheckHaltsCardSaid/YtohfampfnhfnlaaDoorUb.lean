/- What the landed call One returns: what is wrong with an instruction. Condition: the table of codes lies in the package's variable. -/
import Derived.Test.YtohfampfnhfnlaaDoorUa
import Derived.Test.YtohfampfnhfnlaaDoorSa
import Derived.Laws.EntriesVeiled
namespace Go.Proofs.YtohfampfnhfnlaaDoor
open Go.RowKit
set_option linter.unusedVariables false
attribute [local go_sem ↓] Go.wp_at_zero Go.wp_at_succ

/-- What is wrong with an instruction is the first of the six faults. -/
theorem ckOneFlt (i : Ins) (left : Int) : oneE i left = if flt 0 i (max left 0) = true then 40 else if flt 1 i (max left 0) = true then 41 else if flt 2 i (max left 0) = true then 43 else if flt 3 i (max left 0) = true then 44 else if flt 4 i (max left 0) = true then 45 else if flt 5 i (max left 0) = true then 42 else 0 := by
  obtain ⟨c, jt, jf, k⟩ := i
  unfold oneE flt cellC shiftC farN knownB
  simp only
  by_cases h0 : clsI c = 0
  · rw [if_pos h0, show (ofL allL c).cls = 0 from h0]; rfl
  rw [if_neg h0, show (!decide ((ofL allL c).cls ≠ 0)) = false from by rw [decide_eq_true (show (ofL allL c).cls ≠ 0 from h0)]; rfl, if_neg Bool.false_ne_true]
  by_cases h1 : c = 32
  · have h4 : (clsI c == 4) = false := by rw [h1]; decide +kernel
    rw [if_pos h1, h4]
    subst h1
    cases wordB k <;> simp
  rw [if_neg h1, beq_eq_false_iff_ne.2 h1, Bool.false_and, if_neg Bool.false_ne_true]
  by_cases h2 : c = 96 ∨ c = 97 ∨ c = 2 ∨ c = 3
  · have h4 : (clsI c == 4) = false := by rcases h2 with e | e | e | e <;> rw [e] <;> decide +kernel
    have hc : (c == 96 || c == 97 || c == 2 || c == 3) = true := by rcases h2 with e | e | e | e <;> rw [e] <;> rfl
    have h5 : (c == 52) = false := by rcases h2 with e | e | e | e <;> rw [e] <;> rfl
    have h6 : (c == 100 || c == 116) = false := by rcases h2 with e | e | e | e <;> rw [e] <;> rfl
    rw [if_pos h2, hc, h4, h5, h6]
    by_cases hk : k < 16
    · rw [if_pos hk, decide_eq_false (by omega)]; rfl
    · rw [if_neg hk, decide_eq_true (by omega)]; rfl
  rw [if_neg h2, show (c == 96 || c == 97 || c == 2 || c == 3) = false from by
    rw [beq_eq_false_iff_ne.2 (fun e => h2 (Or.inl e)), beq_eq_false_iff_ne.2 (fun e => h2 (Or.inr (Or.inl e))), beq_eq_false_iff_ne.2 (fun e => h2 (Or.inr (Or.inr (Or.inl e)))), beq_eq_false_iff_ne.2 (fun e => h2 (Or.inr (Or.inr (Or.inr e))))]; rfl, Bool.false_and, if_neg Bool.false_ne_true]
  by_cases h3 : c = 52
  · have h4 : (clsI c == 4) = false := by rw [h3]; decide +kernel
    rw [if_pos h3, h4]
    subst h3
    by_cases hk : k = 0 <;> simp [hk]
  rw [if_neg h3, beq_eq_false_iff_ne.2 h3, Bool.false_and, if_neg Bool.false_ne_true]
  by_cases h5 : c = 100 ∨ c = 116
  · have h4 : (clsI c == 4) = false := by rcases h5 with e | e <;> rw [e] <;> decide +kernel
    have hc : (c == 100 || c == 116) = true := by rcases h5 with e | e <;> rw [e] <;> rfl
    rw [if_pos h5, hc, h4]
    by_cases hk : 31 < k <;> simp [hk]
  rw [if_neg h5, show (c == 100 || c == 116) = false from by rw [beq_eq_false_iff_ne.2 (fun e => h5 (Or.inl e)), beq_eq_false_iff_ne.2 (fun e => h5 (Or.inr e))]; rfl, Bool.false_and, if_neg Bool.false_ne_true]
  by_cases h6 : c = 5
  · have h4 : (clsI c == 4) = true := by rw [h6]; decide +kernel
    rw [if_pos h6, if_pos h6, h4, Bool.true_and]
    by_cases hk : max left 0 ≤ k
    · rw [if_pos hk, if_pos (decide_eq_true hk)]
    · rw [if_neg hk, if_neg (by rw [decide_eq_false hk]; decide)]
  rw [if_neg h6, if_neg h6]
  by_cases h7 : clsI c = 4
  · rw [beq_iff_eq.2 h7, Bool.true_and]
    by_cases hk : max left 0 ≤ jt ∨ max left 0 ≤ jf
    · rw [if_pos ⟨h7, hk⟩, if_pos (decide_eq_true (by omega))]
    · rw [if_neg (fun e => hk e.2), if_neg (by rw [decide_eq_false (by omega)]; decide)]
  · rw [if_neg (fun e => h7 e.1), beq_eq_false_iff_ne.2 h7, Bool.false_and, if_neg Bool.false_ne_true]
theorem below_setCells6 {w0 : World} {b : Nat} (hb : w0.heap.size ≤ b) : ∀ (vs : List Value) (o : Nat) (w : World), Below w0.heap.size w0 w → Below w0.heap.size w0 (w.setCells b o vs)
  | [], o, w, h => h
  | v :: vs, o, w, h => below_setCells6 hb vs (o + 1) (w.setCell ⟨b, o, none⟩ v) (h.setCell hb v)
theorem faults_there (W : World) : (W.alloc (.cells #[.int .i64 0, .nilFunc, .int .i64 0, .nilFunc, .int .i64 0, .nilFunc, .int .i64 0, .nilFunc, .int .i64 0, .nilFunc, .int .i64 0, .nilFunc] 60)).there W.heap.size 0 12 := fun j hj => by
  refine ⟨?_, frozen_of_row _ _ _ _ _ (heap_alloc_new W _)⟩
  rw [cell_of_row _ _ (0 + j) _ _ (0, 0) (heap_alloc_new W _)]
  match j, hj with
  | 0, _ => rfl
  | 1, _ => rfl
  | 2, _ => rfl
  | 3, _ => rfl
  | 4, _ => rfl
  | 5, _ => rfl
  | 6, _ => rfl
  | 7, _ => rfl
  | 8, _ => rfl
  | 9, _ => rfl
  | 10, _ => rfl
  | 11, _ => rfl
  | j + 12, hj => omega
/-- An operation of a plain region that yields a value. -/
theorem wpList_val6 {ops : Array Oper} {rest : List Oper} {op : Oper} {a : Act} {w : World} {Q : Exit → Act → World → Prop} (hgd : op.guard = none) (v : Value) (hr : (execOp a.eval op).run Tryd.prog w = .ok (.value v) w)
    (h : wpList Tryd.prog ops Q rest (a.put op.dst v) w) : wpList Tryd.prog ops Q (op :: rest) a w :=
  wpList_plain hgd fun _ hK => by unfold Oper.wp; rw [hr]; exact hK _ _ h
/-- A result that lies in memory. -/
theorem results_row6 {fn : Func} {tmps : Array Value} {w : World} {t : Nat} {ty : TypeId} {p : Addr} {v : Value} (hr : fn.results = #[.cell t ty]) (ha : tmps.getD t undef = .pointer (some p)) (hl : (loadVar ty p).run Tryd.prog w = .ok v w) : (results fn tmps).run Tryd.prog w = .ok v w := by
  have ha' : tmps[t]?.getD undef = .pointer (some p) := by simpa using ha
  simp [results, hr, asAddr, ha', hl]
set_option maxRecDepth 100000 in
set_option maxHeartbeats 8000000 in
theorem faults_any (w : World) : Calls Tryd.prog 24 #[] w fun e w' => e = .returned (.agg #[.int .i64 40, .func (.func 37) #[] #[], .int .i64 41, .func (.func 39) #[] #[], .int .i64 43, .func (.func 40) #[] #[], .int .i64 44, .func (.func 42) #[] #[], .int .i64 45, .func (.func 43) #[] #[], .int .i64 42, .func (.func 45) #[] #[]]) ∧ Below w.heap.size w w' := by
  have hth : (w.alloc (.cells #[.int .i64 0, .nilFunc, .int .i64 0, .nilFunc, .int .i64 0, .nilFunc, .int .i64 0, .nilFunc, .int .i64 0, .nilFunc, .int .i64 0, .nilFunc] 60)).there w.heap.size 0 (#[.int .i64 40, .func (.func 37) #[] #[], .int .i64 41, .func (.func 39) #[] #[], .int .i64 43, .func (.func 40) #[] #[], .int .i64 44, .func (.func 42) #[] #[], .int .i64 45, .func (.func 43) #[] #[], .int .i64 42, .func (.func 45) #[] #[]] : Array Value).size := faults_there w
  have hinf : (Tryd.prog.info? 60).map (·.size) = some (#[.int .i64 40, .func (.func 37) #[] #[], .int .i64 41, .func (.func 39) #[] #[], .int .i64 43, .func (.func 40) #[] #[], .int .i64 44, .func (.func 42) #[] #[], .int .i64 45, .func (.func 43) #[] #[], .int .i64 42, .func (.func 45) #[] #[]] : Array Value).size := by kernel_rfl
  have hone : (#[.int .i64 40, .func (.func 37) #[] #[], .int .i64 41, .func (.func 39) #[] #[], .int .i64 43, .func (.func 40) #[] #[], .int .i64 44, .func (.func 42) #[] #[], .int .i64 45, .func (.func 43) #[] #[], .int .i64 42, .func (.func 45) #[] #[]] : Array Value).all (·.oneCell') = true := by kernel_rfl
  have hrg := World.rangeAt_setCells_same (w.alloc (.cells #[.int .i64 0, .nilFunc, .int .i64 0, .nilFunc, .int .i64 0, .nilFunc, .int .i64 0, .nilFunc, .int .i64 0, .nilFunc, .int .i64 0, .nilFunc] 60)) w.heap.size 0 (#[.int .i64 40, .func (.func 37) #[] #[], .int .i64 41, .func (.func 39) #[] #[], .int .i64 43, .func (.func 40) #[] #[], .int .i64 44, .func (.func 42) #[] #[], .int .i64 45, .func (.func 43) #[] #[], .int .i64 42, .func (.func 45) #[] #[]] : Array Value).toList hth
  have hBl : Below w.heap.size w ((w.alloc (.cells #[.int .i64 0, .nilFunc, .int .i64 0, .nilFunc, .int .i64 0, .nilFunc, .int .i64 0, .nilFunc, .int .i64 0, .nilFunc, .int .i64 0, .nilFunc] 60)).setCells w.heap.size 0 (#[.int .i64 40, .func (.func 37) #[] #[], .int .i64 41, .func (.func 39) #[] #[], .int .i64 43, .func (.func 40) #[] #[], .int .i64 44, .func (.func 42) #[] #[], .int .i64 45, .func (.func 43) #[] #[], .int .i64 42, .func (.func 45) #[] #[]] : Array Value).toList) := below_setCells6 (Nat.le_refl _) _ _ _ ((Below.refl _ _).alloc (Nat.le_refl _) _)
  have HTH := Lib.hid hth
  have HIN := Lib.hid hinf
  have HON := Lib.hid hone
  have HRG := Lib.hid hrg
  have HBL := Lib.hid hBl
  clear hth hinf hone hrg hBl
  go_enter Tryd.func24, Tryd.ntmps24
  go_wp2_with (first
    | ((with_reducible show wpList _ _ _ (⟨some 7, _, _, _, _, _⟩ :: _) _ _)
       refine wpList_val6 rfl (.agg #[.int .i64 40, .func (.func 37) #[] #[], .int .i64 41, .func (.func 39) #[] #[], .int .i64 43, .func (.func 40) #[] #[], .int .i64 44, .func (.func 42) #[] #[], .int .i64 45, .func (.func 43) #[] #[], .int .i64 42, .func (.func 45) #[] #[]]) (by kernel_rfl) ?_)
    | ((with_reducible show wpList _ _ _ (⟨none, .store 60 (.tmp 0) (.tmp 7), _, _, _, _⟩ :: _) _ _)
       refine wpList_store_mid rfl 60 (.tmp 0) (.tmp 7) rfl w.heap.size 0 #[.int .i64 40, .func (.func 37) #[] #[], .int .i64 41, .func (.func 39) #[] #[], .int .i64 43, .func (.func 40) #[] #[], .int .i64 44, .func (.func 42) #[] #[], .int .i64 45, .func (.func 43) #[] #[], .int .i64 42, .func (.func 45) #[] #[]] rfl rfl HTH.out HIN.out HON.out ?_
       generalize hV : (w.alloc (.cells #[.int .i64 0, .nilFunc, .int .i64 0, .nilFunc, .int .i64 0, .nilFunc, .int .i64 0, .nilFunc, .int .i64 0, .nilFunc, .int .i64 0, .nilFunc] 60)).setCells w.heap.size 0 (#[.int .i64 40, .func (.func 37) #[] #[], .int .i64 41, .func (.func 39) #[] #[], .int .i64 43, .func (.func 40) #[] #[], .int .i64 44, .func (.func 42) #[] #[], .int .i64 45, .func (.func 43) #[] #[], .int .i64 42, .func (.func 45) #[] #[]] : Array Value).toList = V at HRG HBL ⊢
       clear hV))
  have hld := run_loadVar_mid (P := Tryd.prog) V w.heap.size 0 60 (#[.int .i64 40, .func (.func 37) #[] #[], .int .i64 41, .func (.func 39) #[] #[], .int .i64 43, .func (.func 40) #[] #[], .int .i64 44, .func (.func 42) #[] #[], .int .i64 45, .func (.func 43) #[] #[], .int .i64 42, .func (.func 45) #[] #[]] : Array Value).toList _ HRG.out Tryd.underlying60 rfl HIN.out
  exact bodyPost_ret (v := .agg #[.int .i64 40, .func (.func 37) #[] #[], .int .i64 41, .func (.func 39) #[] #[], .int .i64 43, .func (.func 40) #[] #[], .int .i64 44, .func (.func 42) #[] #[], .int .i64 45, .func (.func 43) #[] #[], .int .i64 42, .func (.func 45) #[] #[]]) (results_row6 Tryd.results24 rfl hld) rfl ⟨rfl, HBL.out⟩
theorem ckBox2 (w : World) (c0 c1 : Value) (t : TypeId) : (w.alloc (.cells #[c0, c1] t)).cell? ⟨w.heap.size, 0, none⟩ = some c0 := by
  rw [cell_of_row _ _ _ _ _ (0, 0) (heap_alloc_new w _)]; rfl
/-- The value that the first of the faults gives. -/
def fltV (i : Ins) (m : Int) : Int := if flt 0 i m = true then 40 else if flt 1 i m = true then 41 else if flt 2 i m = true then 43 else if flt 3 i m = true then 44 else if flt 4 i m = true then 45 else if flt 5 i m = true then 42 else 0
theorem ckFltVal {i : Ins} {m : Int} (n : Nat) (hn : n < 6) (h0 : ∀ j, j < n → flt j i m = false) (h : flt n i m = true) : fltV i m = [40, 41, 43, 44, 45, 42].getD n 0 := by
  unfold fltV
  match n, hn with
  | 0, _ => rw [if_pos h]; rfl
  | 1, _ => rw [h0 0 (by omega), if_neg Bool.false_ne_true, if_pos h]; rfl
  | 2, _ => rw [h0 0 (by omega), if_neg Bool.false_ne_true, h0 1 (by omega), if_neg Bool.false_ne_true, if_pos h]; rfl
  | 3, _ => rw [h0 0 (by omega), if_neg Bool.false_ne_true, h0 1 (by omega), if_neg Bool.false_ne_true, h0 2 (by omega), if_neg Bool.false_ne_true, if_pos h]; rfl
  | 4, _ => rw [h0 0 (by omega), if_neg Bool.false_ne_true, h0 1 (by omega), if_neg Bool.false_ne_true, h0 2 (by omega), if_neg Bool.false_ne_true, h0 3 (by omega), if_neg Bool.false_ne_true, if_pos h]; rfl
  | 5, _ => rw [h0 0 (by omega), if_neg Bool.false_ne_true, h0 1 (by omega), if_neg Bool.false_ne_true, h0 2 (by omega), if_neg Bool.false_ne_true, h0 3 (by omega), if_neg Bool.false_ne_true, h0 4 (by omega), if_neg Bool.false_ne_true, if_pos h]; rfl
  | n + 6, hn => omega
theorem ckFltNone {i : Ins} {m : Int} (h0 : ∀ j, j < 6 → flt j i m = false) : fltV i m = 0 := by
  unfold fltV
  rw [h0 0 (by omega), if_neg Bool.false_ne_true, h0 1 (by omega), if_neg Bool.false_ne_true, h0 2 (by omega), if_neg Bool.false_ne_true, h0 3 (by omega), if_neg Bool.false_ne_true, h0 4 (by omega), if_neg Bool.false_ne_true, h0 5 (by omega), if_neg Bool.false_ne_true]
theorem ckFltStep {i : Ins} {m : Int} {n : Nat} (h0 : ∀ j, j < n → flt j i m = false) (h : flt n i m = false) : ∀ j, j < n + 1 → flt j i m = false := fun j hj => by
  by_cases e : j = n
  · rw [e]; exact h
  · exact h0 j (by omega)
set_option maxRecDepth 100000 in
set_option maxHeartbeats 8000000 in
theorem one_c (i : Ins) (hi : i.Ok) (left : Int) (l0 : -9223372036854775808 ≤ left) (l1 : left ≤ 9223372036854775807) (w : World) (hG : GW w) : Calls Tryd.prog 15 #[.agg #[.int .u16 i.c, .int .u8 i.jt, .int .u8 i.jf, .int .u32 i.k], .int .i64 left] w fun e w' => e = .returned (.int .i64 (oneE i left)) ∧ Below w.heap.size w w' := by
  have HE := Lib.hid (show oneE i left = fltV i (max left 0) from ckOneFlt i left)
  obtain ⟨m, hm⟩ : ∃ m, m = max left 0 := ⟨_, rfl⟩
  rw [← hm] at HE
  have hw : IntKind.u64.wrap (max left 0) = m := by rw [IntKind.wrap_u64]; omega
  have HFS := Lib.hid faults_any
  obtain ⟨c, jt, jf, k⟩ := i
  have B0 := Lib.hid (show Below w.heap.size w (w.alloc (.cells #[.int .u16 c, .int .u8 jt, .int .u8 jf, .int .u32 k] 35)) from (Below.refl _ _).alloc (Nat.le_refl _) _)
  have HB := Lib.hid (ckBox4 w (.int .u16 c) (.int .u8 jt) (.int .u8 jf) (.int .u32 k) 35)
  have HG0 := Lib.hid hG
  clear hm l0 l1 hG
  go_enter Tryd.func15, Tryd.ntmps15
  go_wp2_with (go_at_call 24; ((with_reducible refine (HFS.out _).mono ?_); rintro e v1 ⟨rfl, b1⟩); have B1 := Lib.hid (B0.out.trans (b1.mono (by simp))); have S1 := Lib.hid (ckKeep4 b1 HB.out); clear b1)
  go_loopw [12] (fun v12 wr => ∃ n : Nat, n ≤ 6 ∧ v12 = .int .i64 n ∧ Hid (∀ j, j < n → flt j ⟨c, jt, jf, k⟩ m = false) ∧ Hid (Below v1.heap.size v1 wr)) (fun v12 _ => 6 - (intOf v12).toNat)
  case atStart => exact ⟨0, by omega, rfl, Lib.hid (fun j hj => absurd hj (by omega)), Lib.hid (Below.refl _ _)⟩
  case round =>
    obtain ⟨n, hn, rfl, HN, PB⟩ := hrel
    obtain ⟨W, rfl⟩ : ∃ wo : World, wo = wr := ⟨_, rfl⟩
    by_cases h6 : n < 6
    · have PG := Lib.hid (HG0.out.on (B1.out.trans (PB.out.mono B1.out.size)))
      obtain ⟨s0, s1, s2, s3⟩ := ckKeep4 PB.out S1.out
      have hlt := World.block_lt_of_cell? W _ s0
      simp only at hlt
      rcases (by omega : n = 0 ∨ n = 1 ∨ n = 2 ∨ n = 3 ∨ n = 4 ∨ n = 5) with rfl | rfl | rfl | rfl | rfl | rfl
      · have HF := Lib.hid (fun W hG => flt_any 0 ⟨c, jt, jf, k⟩ hi m W hG 37 rfl)
        have HG := Lib.hid (GW.alloc (PG.out) (.cells #[.int .i64 40, .func (.func 37) #[] #[]] 59))
        have HC := Lib.hid (ckBox2 W (.int .i64 40) (.func (.func 37) #[] #[]) 59)
        have HA := Lib.hid ((Below.refl W.heap.size W).alloc (Nat.le_refl _) (.cells #[.int .i64 40, .func (.func 37) #[] #[]] 59))
        obtain ⟨b, hb⟩ : ∃ b, b = flt 0 ⟨c, jt, jf, k⟩ m := ⟨_, rfl⟩
        rw [← hb] at HF
        simp only at HF
        have HB := Lib.hid hb
        clear hb hi PG
        cases b with
        | true =>
          have HV := Lib.hid (HE.out.trans (ckFltVal 0 (by omega) HN.out HB.out.symm))
          go_wp2_with (first
            | ((with_reducible show wpList _ _ _ (⟨some 14, _, _, _, _, _⟩ :: _) _ _)
               refine wpList_val6 rfl (.agg #[.int .i64 40, .func (.func 37) #[] #[]]) (by kernel_rfl) ?_)
            | (go_at_call 37; ((with_reducible refine (HF.out _ HG.out).mono ?_); rintro e w1 ⟨rfl, b1⟩); have t0 := (b1.cell (World.block_lt_of_cell? _ _ HC.out)).trans HC.out))
          go_ret
          exact ⟨congrArg (fun v => Ending.returned (.int .i64 v)) HV.out.symm, thn (thn B1.out PB.out) (HA.out.trans (b1.mono HA.out.size))⟩
        | false =>
          go_wp2_with (first
            | ((with_reducible show wpList _ _ _ (⟨some 14, _, _, _, _, _⟩ :: _) _ _)
               refine wpList_val6 rfl (.agg #[.int .i64 40, .func (.func 37) #[] #[]]) (by kernel_rfl) ?_)
            | (go_at_call 37; ((with_reducible refine (HF.out _ HG.out).mono ?_); rintro e w1 ⟨rfl, b1⟩)))
          go_roundw
          case rel => exact ⟨0 + 1, by omega, by go_num, Lib.hid (ckFltStep HN.out HB.out.symm), Lib.hid (thn PB.out (HA.out.trans (b1.mono HA.out.size)))⟩
          case measure => simp [intOf]
      · have HF := Lib.hid (fun W hG => flt_any 1 ⟨c, jt, jf, k⟩ hi m W hG 39 rfl)
        have HG := Lib.hid (GW.alloc (PG.out) (.cells #[.int .i64 41, .func (.func 39) #[] #[]] 59))
        have HC := Lib.hid (ckBox2 W (.int .i64 41) (.func (.func 39) #[] #[]) 59)
        have HA := Lib.hid ((Below.refl W.heap.size W).alloc (Nat.le_refl _) (.cells #[.int .i64 41, .func (.func 39) #[] #[]] 59))
        obtain ⟨b, hb⟩ : ∃ b, b = flt 1 ⟨c, jt, jf, k⟩ m := ⟨_, rfl⟩
        rw [← hb] at HF
        simp only at HF
        have HB := Lib.hid hb
        clear hb hi PG
        cases b with
        | true =>
          have HV := Lib.hid (HE.out.trans (ckFltVal 1 (by omega) HN.out HB.out.symm))
          go_wp2_with (first
            | ((with_reducible show wpList _ _ _ (⟨some 14, _, _, _, _, _⟩ :: _) _ _)
               refine wpList_val6 rfl (.agg #[.int .i64 41, .func (.func 39) #[] #[]]) (by kernel_rfl) ?_)
            | (go_at_call 39; ((with_reducible refine (HF.out _ HG.out).mono ?_); rintro e w1 ⟨rfl, b1⟩); have t0 := (b1.cell (World.block_lt_of_cell? _ _ HC.out)).trans HC.out))
          go_ret
          exact ⟨congrArg (fun v => Ending.returned (.int .i64 v)) HV.out.symm, thn (thn B1.out PB.out) (HA.out.trans (b1.mono HA.out.size))⟩
        | false =>
          go_wp2_with (first
            | ((with_reducible show wpList _ _ _ (⟨some 14, _, _, _, _, _⟩ :: _) _ _)
               refine wpList_val6 rfl (.agg #[.int .i64 41, .func (.func 39) #[] #[]]) (by kernel_rfl) ?_)
            | (go_at_call 39; ((with_reducible refine (HF.out _ HG.out).mono ?_); rintro e w1 ⟨rfl, b1⟩)))
          go_roundw
          case rel => exact ⟨1 + 1, by omega, by go_num, Lib.hid (ckFltStep HN.out HB.out.symm), Lib.hid (thn PB.out (HA.out.trans (b1.mono HA.out.size)))⟩
          case measure => simp [intOf]
      · have HF := Lib.hid (fun W hG => flt_any 2 ⟨c, jt, jf, k⟩ hi m W hG 40 rfl)
        have HG := Lib.hid (GW.alloc (PG.out) (.cells #[.int .i64 43, .func (.func 40) #[] #[]] 59))
        have HC := Lib.hid (ckBox2 W (.int .i64 43) (.func (.func 40) #[] #[]) 59)
        have HA := Lib.hid ((Below.refl W.heap.size W).alloc (Nat.le_refl _) (.cells #[.int .i64 43, .func (.func 40) #[] #[]] 59))
        obtain ⟨b, hb⟩ : ∃ b, b = flt 2 ⟨c, jt, jf, k⟩ m := ⟨_, rfl⟩
        rw [← hb] at HF
        simp only at HF
        have HB := Lib.hid hb
        clear hb hi PG
        cases b with
        | true =>
          have HV := Lib.hid (HE.out.trans (ckFltVal 2 (by omega) HN.out HB.out.symm))
          go_wp2_with (first
            | ((with_reducible show wpList _ _ _ (⟨some 14, _, _, _, _, _⟩ :: _) _ _)
               refine wpList_val6 rfl (.agg #[.int .i64 43, .func (.func 40) #[] #[]]) (by kernel_rfl) ?_)
            | (go_at_call 40; ((with_reducible refine (HF.out _ HG.out).mono ?_); rintro e w1 ⟨rfl, b1⟩); have t0 := (b1.cell (World.block_lt_of_cell? _ _ HC.out)).trans HC.out))
          go_ret
          exact ⟨congrArg (fun v => Ending.returned (.int .i64 v)) HV.out.symm, thn (thn B1.out PB.out) (HA.out.trans (b1.mono HA.out.size))⟩
        | false =>
          go_wp2_with (first
            | ((with_reducible show wpList _ _ _ (⟨some 14, _, _, _, _, _⟩ :: _) _ _)
               refine wpList_val6 rfl (.agg #[.int .i64 43, .func (.func 40) #[] #[]]) (by kernel_rfl) ?_)
            | (go_at_call 40; ((with_reducible refine (HF.out _ HG.out).mono ?_); rintro e w1 ⟨rfl, b1⟩)))
          go_roundw
          case rel => exact ⟨2 + 1, by omega, by go_num, Lib.hid (ckFltStep HN.out HB.out.symm), Lib.hid (thn PB.out (HA.out.trans (b1.mono HA.out.size)))⟩
          case measure => simp [intOf]
      · have HF := Lib.hid (fun W hG => flt_any 3 ⟨c, jt, jf, k⟩ hi m W hG 42 rfl)
        have HG := Lib.hid (GW.alloc (PG.out) (.cells #[.int .i64 44, .func (.func 42) #[] #[]] 59))
        have HC := Lib.hid (ckBox2 W (.int .i64 44) (.func (.func 42) #[] #[]) 59)
        have HA := Lib.hid ((Below.refl W.heap.size W).alloc (Nat.le_refl _) (.cells #[.int .i64 44, .func (.func 42) #[] #[]] 59))
        obtain ⟨b, hb⟩ : ∃ b, b = flt 3 ⟨c, jt, jf, k⟩ m := ⟨_, rfl⟩
        rw [← hb] at HF
        simp only at HF
        have HB := Lib.hid hb
        clear hb hi PG
        cases b with
        | true =>
          have HV := Lib.hid (HE.out.trans (ckFltVal 3 (by omega) HN.out HB.out.symm))
          go_wp2_with (first
            | ((with_reducible show wpList _ _ _ (⟨some 14, _, _, _, _, _⟩ :: _) _ _)
               refine wpList_val6 rfl (.agg #[.int .i64 44, .func (.func 42) #[] #[]]) (by kernel_rfl) ?_)
            | (go_at_call 42; ((with_reducible refine (HF.out _ HG.out).mono ?_); rintro e w1 ⟨rfl, b1⟩); have t0 := (b1.cell (World.block_lt_of_cell? _ _ HC.out)).trans HC.out))
          go_ret
          exact ⟨congrArg (fun v => Ending.returned (.int .i64 v)) HV.out.symm, thn (thn B1.out PB.out) (HA.out.trans (b1.mono HA.out.size))⟩
        | false =>
          go_wp2_with (first
            | ((with_reducible show wpList _ _ _ (⟨some 14, _, _, _, _, _⟩ :: _) _ _)
               refine wpList_val6 rfl (.agg #[.int .i64 44, .func (.func 42) #[] #[]]) (by kernel_rfl) ?_)
            | (go_at_call 42; ((with_reducible refine (HF.out _ HG.out).mono ?_); rintro e w1 ⟨rfl, b1⟩)))
          go_roundw
          case rel => exact ⟨3 + 1, by omega, by go_num, Lib.hid (ckFltStep HN.out HB.out.symm), Lib.hid (thn PB.out (HA.out.trans (b1.mono HA.out.size)))⟩
          case measure => simp [intOf]
      · have HF := Lib.hid (fun W hG => flt_any 4 ⟨c, jt, jf, k⟩ hi m W hG 43 rfl)
        have HG := Lib.hid (GW.alloc (PG.out) (.cells #[.int .i64 45, .func (.func 43) #[] #[]] 59))
        have HC := Lib.hid (ckBox2 W (.int .i64 45) (.func (.func 43) #[] #[]) 59)
        have HA := Lib.hid ((Below.refl W.heap.size W).alloc (Nat.le_refl _) (.cells #[.int .i64 45, .func (.func 43) #[] #[]] 59))
        obtain ⟨b, hb⟩ : ∃ b, b = flt 4 ⟨c, jt, jf, k⟩ m := ⟨_, rfl⟩
        rw [← hb] at HF
        simp only at HF
        have HB := Lib.hid hb
        clear hb hi PG
        cases b with
        | true =>
          have HV := Lib.hid (HE.out.trans (ckFltVal 4 (by omega) HN.out HB.out.symm))
          go_wp2_with (first
            | ((with_reducible show wpList _ _ _ (⟨some 14, _, _, _, _, _⟩ :: _) _ _)
               refine wpList_val6 rfl (.agg #[.int .i64 45, .func (.func 43) #[] #[]]) (by kernel_rfl) ?_)
            | (go_at_call 43; ((with_reducible refine (HF.out _ HG.out).mono ?_); rintro e w1 ⟨rfl, b1⟩); have t0 := (b1.cell (World.block_lt_of_cell? _ _ HC.out)).trans HC.out))
          go_ret
          exact ⟨congrArg (fun v => Ending.returned (.int .i64 v)) HV.out.symm, thn (thn B1.out PB.out) (HA.out.trans (b1.mono HA.out.size))⟩
        | false =>
          go_wp2_with (first
            | ((with_reducible show wpList _ _ _ (⟨some 14, _, _, _, _, _⟩ :: _) _ _)
               refine wpList_val6 rfl (.agg #[.int .i64 45, .func (.func 43) #[] #[]]) (by kernel_rfl) ?_)
            | (go_at_call 43; ((with_reducible refine (HF.out _ HG.out).mono ?_); rintro e w1 ⟨rfl, b1⟩)))
          go_roundw
          case rel => exact ⟨4 + 1, by omega, by go_num, Lib.hid (ckFltStep HN.out HB.out.symm), Lib.hid (thn PB.out (HA.out.trans (b1.mono HA.out.size)))⟩
          case measure => simp [intOf]
      · have HF := Lib.hid (fun W hG => flt_any 5 ⟨c, jt, jf, k⟩ hi m W hG 45 rfl)
        have HG := Lib.hid (GW.alloc (PG.out) (.cells #[.int .i64 42, .func (.func 45) #[] #[]] 59))
        have HC := Lib.hid (ckBox2 W (.int .i64 42) (.func (.func 45) #[] #[]) 59)
        have HA := Lib.hid ((Below.refl W.heap.size W).alloc (Nat.le_refl _) (.cells #[.int .i64 42, .func (.func 45) #[] #[]] 59))
        obtain ⟨b, hb⟩ : ∃ b, b = flt 5 ⟨c, jt, jf, k⟩ m := ⟨_, rfl⟩
        rw [← hb] at HF
        simp only at HF
        have HB := Lib.hid hb
        clear hb hi PG
        cases b with
        | true =>
          have HV := Lib.hid (HE.out.trans (ckFltVal 5 (by omega) HN.out HB.out.symm))
          go_wp2_with (first
            | ((with_reducible show wpList _ _ _ (⟨some 14, _, _, _, _, _⟩ :: _) _ _)
               refine wpList_val6 rfl (.agg #[.int .i64 42, .func (.func 45) #[] #[]]) (by kernel_rfl) ?_)
            | (go_at_call 45; ((with_reducible refine (HF.out _ HG.out).mono ?_); rintro e w1 ⟨rfl, b1⟩); have t0 := (b1.cell (World.block_lt_of_cell? _ _ HC.out)).trans HC.out))
          go_ret
          exact ⟨congrArg (fun v => Ending.returned (.int .i64 v)) HV.out.symm, thn (thn B1.out PB.out) (HA.out.trans (b1.mono HA.out.size))⟩
        | false =>
          go_wp2_with (first
            | ((with_reducible show wpList _ _ _ (⟨some 14, _, _, _, _, _⟩ :: _) _ _)
               refine wpList_val6 rfl (.agg #[.int .i64 42, .func (.func 45) #[] #[]]) (by kernel_rfl) ?_)
            | (go_at_call 45; ((with_reducible refine (HF.out _ HG.out).mono ?_); rintro e w1 ⟨rfl, b1⟩)))
          go_roundw
          case rel => exact ⟨5 + 1, by omega, by go_num, Lib.hid (ckFltStep HN.out HB.out.symm), Lib.hid (thn PB.out (HA.out.trans (b1.mono HA.out.size)))⟩
          case measure => simp [intOf]
    · obtain rfl : n = 6 := by omega
      have HV := Lib.hid (HE.out.trans (ckFltNone HN.out))
      go_wp2_with fail
      go_ret
      exact ⟨congrArg (fun v => Ending.returned (.int .i64 v)) HV.out.symm, thn B1.out PB.out⟩
end Go.Proofs.YtohfampfnhfnlaaDoor
