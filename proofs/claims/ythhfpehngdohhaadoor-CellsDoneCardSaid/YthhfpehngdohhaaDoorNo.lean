/- What the landed run returns: what the plain function says, whatever the function that visits does with its own memory. Condition: a program of at most a thousand instructions; the table lies in the package's variable. -/
import Derived.Test.YthhfpehngdohhaaDoorNl
namespace Go.Proofs.YthhfpehngdohhaaDoor
open Go.RowKit
set_option linter.unusedVariables false
attribute [local go_sem ↓] Go.wp_at_zero Go.wp_at_succ

/-- The blocks of P are as they were. -/
structure Kp (P : Nat → Prop) (w w' : World) : Prop where
  os : w'.os = w.os
  tape : w'.tape = w.tape
  output : w'.output = w.output
  size : w.heap.size ≤ w'.heap.size
  block : ∀ k, P k → w'.heap[k]? = w.heap[k]?
theorem Kp.refl (P : Nat → Prop) (w : World) : Kp P w w := ⟨rfl, rfl, rfl, Nat.le_refl _, fun _ _ => rfl⟩
theorem Kp.trans {P : Nat → Prop} {a b c : World} (h : Kp P a b) (k : Kp P b c) : Kp P a c := ⟨k.os.trans h.os, k.tape.trans h.tape, k.output.trans h.output, Nat.le_trans h.size k.size, fun i hi => (k.block i hi).trans (h.block i hi)⟩
theorem Kp.imp {P Q : Nat → Prop} {a b : World} (h : Kp P a b) (i : ∀ k, Q k → P k) : Kp Q a b := ⟨h.os, h.tape, h.output, h.size, fun k hk => h.block k (i k hk)⟩
theorem Kp.of_grown {P : Nat → Prop} {w w' : World} {j : Nat} (hg : w.grownBy w' (some j)) (hP : ∀ k, P k → k < w.heap.size ∧ k ≠ j) : Kp P w w' :=
  ⟨hg.os, hg.tape, hg.output, hg.size, fun k hk => hg.block k (hP k hk).1 (fun e => (hP k hk).2 (by injection e))⟩
theorem Kp.of_below {P : Nat → Prop} {w w' : World} {n : Nat} (hb : Below n w w') (hP : ∀ k, P k → k < n) : Kp P w w' := ⟨hb.os, hb.tape, hb.output, hb.size, fun k hk => hb.block k (hP k hk)⟩
theorem Kp.below {P : Nat → Prop} {w w' : World} {n : Nat} (h : Kp P w w') (hP : ∀ k, k < n → P k) : Below n w w' := ⟨h.os, h.tape, h.output, h.size, fun k hk => h.block k (hP k hk)⟩
theorem Kp.cell {P : Nat → Prop} {w w' : World} (h : Kp P w w') {p : Addr} (hp : P p.block) : w'.cell? p = w.cell? p := World.cell?_of_block (h.block _ hp)
theorem ML.kp {P : Nat → Prop} {w w' : World} {M : Nat} {a x : Int} {c : Nat → Int} {d : Dat} {st : Int} {ov : Bool} {an : Int} (h : ML w M a x c d st ov an) (k : Kp P w w') (hM : P M) : ML w' M a x c d st ov an := (k.block M hM).trans h
theorem GW.kp {P : Nat → Prop} {w w' : World} (h : GW w) (k : Kp P w w') (hR : P 0) : GW w' := fun j u hu => (k.cell hR).trans (h j u hu)
theorem GW.lt {w : World} (h : GW w) : 0 < w.heap.size := World.block_lt_of_cell? w _ (h 0 _ rfl)
/-- Block E holds the error that is returned. -/
def EAt (w : World) (E : Nat) (r : Int) : Prop := w.heap[E]? = some (.cells #[.int .i64 r] 58 (0, 0))
theorem EAt.cell {w : World} {E : Nat} {r : Int} (h : EAt w E r) : w.cell? ⟨E, 0, none⟩ = some (.int .i64 r) := by rw [cell_of_row w E 0 _ _ (0, 0) h]; rfl
theorem EAt.free {w : World} {E : Nat} {r : Int} (h : EAt w E r) : w.frozen? ⟨E, 0, none⟩ = false := frozen_of_row w E 0 _ _ h
theorem EAt.set_ {w : World} {E : Nat} {r : Int} (h : EAt w E r) (v : Int) : EAt (w.setCell ⟨E, 0, none⟩ (.int .i64 v)) E v := by
  have := heap_setCell_same w E 0 _ _ (.int .i64 v) h
  unfold EAt
  rw [this]; rfl
theorem EAt.kp {P : Nat → Prop} {w w' : World} {E : Nat} {r : Int} (h : EAt w E r) (k : Kp P w w') (hE : P E) : EAt w' E r := (k.block E hE).trans h
/-- Where things lie: the machine in block M, what the one who visits has of his own in block b, the program and the table below B0. -/
structure Cfg (w : World) (b : Option Nat) (M B0 : Nat) : Prop where
  hB : B0 ≤ w.heap.size
  hBM : B0 ≤ M
  hb : ∀ j, b = some j → B0 ≤ j ∧ j < w.heap.size ∧ j ≠ M
  hg : 0 < B0
  hM : M < w.heap.size
def RR (w : World) (b : Option Nat) (M : Nat) : Nat → Prop := fun j => j < w.heap.size ∧ some j ≠ b ∧ j ≠ M
def VP (w : World) (b : Option Nat) : Nat → Prop := fun j => j < w.heap.size + 1 ∧ some j ≠ b
def Stay (V : List Nat → World → Prop) (w : World) (M : Nat) : Prop := ∀ (pl : List Nat) (W W' : World) (j : Nat), V pl W → (j = M ∨ j = w.heap.size) → W.grownBy W' (some j) → V pl W'
/-- How things stand in a round. -/
structure Sit (w : World) (b : Option Nat) (M : Nat) (V : List Nat → World → Prop) (pl : List Nat) (W : World) : Prop where
  e : EAt W w.heap.size 0
  k : Kp (RR w b M) w W
  s : w.heap.size + 1 ≤ W.heap.size
  g : GW W
  v : V pl W
section
variable {w W W' : World} {b : Option Nat} {M B0 : Nat} {V : List Nat → World → Prop} {pl pl' : List Nat}
theorem Cfg.low (C : Cfg w b M B0) {j : Nat} (h : j < B0) : RR w b M j := ⟨Nat.lt_of_lt_of_le h C.hB, fun e => by have := C.hb j e.symm; omega, by have := C.hBM; omega⟩
theorem Cfg.vM (C : Cfg w b M B0) : VP w b M := ⟨by have := C.hM; omega, fun e => (C.hb M e.symm).2.2 rfl⟩
theorem Cfg.vE (C : Cfg w b M B0) : VP w b w.heap.size := ⟨by omega, fun e => by have := (C.hb _ e.symm).2.1; omega⟩
theorem Cfg.vLow (C : Cfg w b M B0) {j : Nat} (h : j < B0) : VP w b j := ⟨by have := C.hB; omega, fun e => by have := C.hb j e.symm; omega⟩
theorem Sit.grown (C : Cfg w b M B0) (HS : Stay V w M) (h : Sit w b M V pl W) (hg : W.grownBy W' (some M)) : Sit w b M V pl W' :=
  ⟨(hg.block _ (by have := h.s; omega) (fun e => by injection e with e; have := C.hM; omega)).trans h.e,
   h.k.trans (Kp.of_grown hg fun k hk => ⟨by have := h.s; have := hk.1; omega, hk.2.2⟩), Nat.le_trans h.s hg.size,
   h.g.kp (P := RR w b M) (Kp.of_grown hg fun k hk => ⟨by have := h.s; have := hk.1; omega, hk.2.2⟩) (C.low C.hg), HS _ _ _ _ h.v (Or.inl rfl) hg⟩
theorem Sit.below (C : Cfg w b M B0) (HS : Stay V w M) (h : Sit w b M V pl W) (hb : Below W.heap.size W W') : Sit w b M V pl W' := h.grown C HS (of_below hb)
theorem Sit.visit (C : Cfg w b M B0) (h : Sit w b M V pl W) (k : Kp (VP w b) W W') (hv : V pl' W') : Sit w b M V pl' W' :=
  ⟨h.e.kp k C.vE, h.k.trans (k.imp fun j hj => ⟨by have := hj.1; omega, hj.2.1⟩), Nat.le_trans h.s k.size, h.g.kp k (C.vLow C.hg), hv⟩
theorem Sit.ins (C : Cfg w b M B0) (h : Sit w b M V pl W) {bp q : Nat} {i : Ins} (hi : InsAt w bp q i) (hp : bp < B0) : InsAt W bp q i := hi.keep fun a ha => h.k.cell (C.low (by rw [ha]; exact hp))
theorem Sit.shut (C : Cfg w b M B0) (HS : Stay V w M) (h : Sit w b M V pl W) (v : Int) : V pl (W.setCell ⟨w.heap.size, 0, none⟩ (.int .i64 v)) ∧ Kp (RR w b M) w (W.setCell ⟨w.heap.size, 0, none⟩ (.int .i64 v)) :=
  ⟨HS _ _ _ _ h.v (Or.inr rfl) (of_set W _ 0 _), h.k.trans (Kp.of_grown (of_set W w.heap.size 0 _) fun k hk => ⟨by have := h.s; have := hk.1; omega, by have := hk.1; omega⟩)⟩
theorem ML.shut (C : Cfg w b M B0) {a x : Int} {c : Nat → Int} {d : Dat} {st : Int} {ov : Bool} {an : Int} (hm : ML W M a x c d st ov an) (v : Int) : ML (W.setCell ⟨w.heap.size, 0, none⟩ (.int .i64 v)) M a x c d st ov an := hm.but (of_set W w.heap.size 0 _) (by have := C.hM; omega)
end
/-- A run that is under way. -/
def RunI (p : List Ins) (d : Dat) (M : Nat) (cb : Int) (k : Nat) (pl : List Nat) (w : World) : Prop :=
  ∃ (a x : Int) (c : Nat → Int) (f : Nat), ML w M a x c d pl.length false 0 ∧ OkM a x c ∧ pl.length ≤ k ∧ pl.length ≤ p.length ∧ p.length < f + k ∧ runF p d f k a x c (if cb = 4 then 42 else 46) pl = runL p d
/-- A run that is over, with an answer. -/
def DoneI (p : List Ins) (d : Dat) (M : Nat) (pl : List Nat) (w : World) : Prop :=
  ∃ (a x : Int) (c : Nat → Int), ML w M a x c d (runL p d).steps true (runL p d).ans ∧ (runL p d).err = 0 ∧ pl = (runL p d).pl
/-- What is behind it. -/
def RunE (V : List Nat → World → Prop) (p : List Ins) (d : Dat) (M : Nat) (P : Nat → Prop) (w : World) (e : Ending) (w' : World) : Prop :=
  e = .returned (.int .i64 (runL p d).err) ∧ (∃ (a x : Int) (c : Nat → Int) (ov : Bool), ML w' M a x c d (runL p d).steps ov (runL p d).ans) ∧ V (runL p d).pl w' ∧ Kp P w w'
theorem skip_cls {i : Ins} (hi : i.Ok) {d : Dat} {a x a' x' : Int} {c c' : Nat → Int} {n : Nat} (h : doI i d a x c = .go a' x' c' n) : (if (ofL allL i.c).cls = 4 then (42 : Int) else 46) = (if isJump i.c then 42 else 46) := by
  rw [← jump_cls (go_known hi h)]
  by_cases hc : (ofL allL i.c).cls = 4 <;> simp [hc]
theorem cls_small (c : Int) : 0 ≤ (ofL allL c).cls ∧ (ofL allL c).cls ≤ 6 := by
  rcases ofL_in allL c with h | ⟨o, h1, _, h3⟩
  · rw [h]; decide
  · rw [h3]
    have e : allL.all (fun o => decide (0 ≤ o.cls ∧ o.cls ≤ 6)) = true := by decide +kernel
    exact of_decide_eq_true (List.all_eq_true.1 e o h1)
theorem wrap_u64_small {x : Int} (h0 : 0 ≤ x) (h1 : x < 18446744073709551616) : IntKind.u64.wrap x = x := by
  rw [IntKind.wrap_u64]; omega
theorem missing_any (cb : Int) (w : World) : Calls Tryd.prog 41 #[.int .u8 cb] w fun e w' => e = .returned (.int .i64 (if cb = 4 then 42 else 46)) ∧ w = w' := by
  by_cases h : cb = 4
  · rw [if_pos h]
    have t1 : (cb == 4) = true := beq_iff_eq.2 h
    clear h
    go_enter Tryd.func41, Tryd.ntmps41
    go_wp2
    go_ret
    exact ⟨rfl, rfl⟩
  · rw [if_neg h]
    have t1 : (cb == 4) = false := beq_eq_false_iff_ne.2 h
    clear h
    go_enter Tryd.func41, Tryd.ntmps41
    go_wp2
    go_ret
    exact ⟨rfl, rfl⟩
set_option maxRecDepth 100000 in
set_option maxHeartbeats 16000000 in
theorem run_trace (bt : Nat) (V : List Nat → World → Prop) (b : Option Nat) (B0 : Nat) (a0 : Option Addr) (len0 cap0 : Nat) (p : List Ins) (d : Dat) (M : Nat) (w : World) (hl : p.length = len0) (hn : len0 ≤ 1000) (hp : OkL p) (hd : d.Ok) (hr : RdI w B0 a0 p)
    (hm : ML w M 0 0 (fun _ => 0) d 0 false 0) (hG : GW w) (hC : Cfg w b M B0) (hV : V [] (w.alloc (.cells #[.int .i64 0] 58)))
    (HV : ∀ (pl : List Nat) (k : Nat) (W : World), V pl W → pl.length ≤ 1000 → k ≤ 1000 → w.heap.size + 1 ≤ W.heap.size → Calls Tryd.prog 32 #[.int .i64 k, .pointer (some ⟨bt, 0, none⟩)] W fun e w' => e = .returned (.tuple #[]) ∧ V (pl ++ [k]) w' ∧ Kp (VP w b) W w')
    (hS : Stay V w M) :
    Calls Tryd.prog 31 #[.pointer (some ⟨M, 0, none⟩), .slice a0 len0 cap0, .func (.func 32) #[] #[.pointer (some ⟨bt, 0, none⟩)]] w (RunE V p d M (RR w b M) w) := by
  have hmf : ∀ (fn : Fn) (first cap : Array Value) (w : World), (Instr.makeFunc fn first cap).run Tryd.prog w = .ok (.func fn first cap) w := fun _ _ _ _ => rfl
  have HL := Lib.hid hl
  have HP := Lib.hid hp
  have HD := Lib.hid hd
  have HR := Lib.hid hr
  have HVV := Lib.hid HV
  have HS := Lib.hid hS
  have C := Lib.hid hC
  have hn1 : (len0 : Int) ≤ 1000 := by omega
  have h0 : Hid (Sit w b M V [] (w.alloc (.cells #[.int .i64 0] 58)) ∧ RunI p d M 0 0 [] (w.alloc (.cells #[.int .i64 0] 58))) :=
    Lib.hid ⟨⟨heap_alloc_new w _, Kp.of_below ((Below.refl _ _).alloc (Nat.le_refl _) _) (fun k hk => hk.1), by simp, hG.alloc _, hV⟩, 0, 0, fun _ => 0, p.length + 1, hm.al _, ⟨⟨by decide, by decide⟩, ⟨by decide, by decide⟩, fun _ => ⟨Int.le_refl 0, by show (0 : Int) < 4294967296; decide⟩⟩, Nat.zero_le _, Nat.zero_le _, by omega, rfl⟩
  have hME := hm.lt
  clear hl hp hd hr hV HV hS hC hm hG
  go_enter_defers Tryd.func31, Tryd.ntmps31
  go_wp2_with fail
  go_loopw [7, 8] (fun v7 v8 wr => ∃ k : Nat, k ≤ 8589934592 ∧ v8 = .int .u64 k ∧ ∃ cb : Int, v7 = .int .u8 cb ∧ ∃ pl : List Nat, Hid (Sit w b M V pl wr) ∧ Hid (RunI p d M cb k pl wr ∨ DoneI p d M pl wr)) (fun _ v8 _ => 17179869184 - (intOf v8).toNat)
  case atStart => exact ⟨0, by omega, rfl, 0, rfl, [], Lib.hid h0.out.1, Lib.hid (Or.inl h0.out.2)⟩
  case round =>
    clear h0
    obtain ⟨k, hk, rfl, cb, rfl, pl, HSI, HI⟩ := hrel
    obtain ⟨W, rfl⟩ : ∃ wo : World, wo = wr := ⟨_, rfl⟩
    have e0 := HSI.out.e.cell
    have ef := HSI.out.e.free
    rcases HI.out with HI' | HI'
    rotate_left
    · obtain ⟨a, x, c, hm, he, rfl⟩ := HI'
      have m7 := hm.cell 70 _ rfl
      have HM := Lib.hid hm
      have HER := Lib.hid he
      clear hm he HI
      go_wp2_with fail
      refine leaves_cons (f := 40) (args := #[.pointer (some ⟨w.heap.size, 0, none⟩)]) (by simp) (by simp [go_sem]) ?_
      refine (catch_idle ⟨w.heap.size, 0, none⟩ _).mono ?_
      rintro e u' w'' ⟨rfl, rfl, rfl⟩
      simp only [settle, Leaves]
      have e2 := (HSI.out.e.set_ 0).cell
      exact ⟨.int .i64 0, by simp [results, Tryd.results31, go_sem, e2], by rw [HER.out], ⟨a, x, c, true, HM.out.shut C.out 0⟩, HSI.out.shut C.out HS.out 0⟩
    · obtain ⟨a, x, c, f, hm, ho, h1, h2, h3, h4⟩ := HI'
      clear HI
      have m7 := hm.cell 70 _ rfl
      by_cases hlt : k < len0
      · have hkl : k < p.length := by rw [HL.out]; exact hlt
        obtain ⟨bp, o, rfl, hbB, hc⟩ := HR.out (by omega)
        have hat := Lib.hid (hc k hkl)
        have hok := Lib.hid (HP.out.get hkl)
        obtain ⟨i, hi⟩ : ∃ i, i = p[k] := ⟨_, rfl⟩
        rw [← hi] at hat hok
        have HPK := Lib.hid (show p[k]? = some i by rw [hi]; exact List.getElem?_eq_getElem hkl)
        have k1000 : (k : Int) < 1000 := by omega
        have hkn : (k : Int) < len0 := by omega
        have hfuel : ∃ g, f = g + 1 := ⟨f - 1, by omega⟩
        obtain ⟨f, rfl⟩ := hfuel
        have HV1 := Lib.hid (HVV.out pl k W HSI.out.v (by omega) (by omega) HSI.out.s)
        have HOF := Lib.hid (fun W hG => ofC i.c W hG hok.out.c0 hok.out.c1)
        have HST := Lib.hid (fun W hm hG => lStep i hok.out d HD.out a x c ho pl.length M W hm hG)
        have HM := Lib.hid hm
        have HO := Lib.hid ho
        have HF := Lib.hid (And.intro h1 (And.intro h2 (And.intro h3 h4)))
        obtain ⟨cl, hcl⟩ : ∃ cl, cl = (ofL allL i.c).cls := ⟨_, rfl⟩
        rw [← hcl] at HOF HST
        clear hc hi hm ho h1 h2 h3 h4 hkl
        cases hdo : doI i d a x c with
        | bad er =>
          have hres : runL p d = ⟨0, pl.length, pl ++ [k], er⟩ := by
            rw [← HF.out.2.2.2]; simp only [runF, HPK.out, hdo]
          have HRES := Lib.hid hres
          rw [hdo] at HST
          unfold StepTo at HST
          simp only at HST
          clear hdo hres HF HPK hcl
          go_wp2_with (first
          | (go_at_call 32; ((with_reducible refine (HV1.out).mono ?_); rintro e w1 ⟨rfl, v1, k1⟩); have S1 := Lib.hid (HSI.out.visit C.out k1 v1); obtain ⟨q0, q1, q2, q3⟩ := S1.out.ins C.out hat.out hbB; have M1 := Lib.hid (HM.out.kp k1 C.out.vM))
          | (go_at_call 42; ((with_reducible refine (HOF.out _ S1.out.g).mono ?_); rintro e w2 ⟨rfl, b2⟩); have S2 := Lib.hid (S1.out.below C.out HS.out b2); clear q0 q1 q2 q3; obtain ⟨q0, q1, q2, q3⟩ := S2.out.ins C.out hat.out hbB; have M2 := Lib.hid (M1.out.on b2))
          | (go_at_call 43; ((with_reducible refine (HST.out _ M2.out S2.out.g).mono ?_); rintro e w3 ⟨g3, rfl, a2, x2, c2, hm3⟩); have S3 := Lib.hid (S2.out.grown C.out HS.out g3)))
          refine leaves_cons (f := 40) (args := #[.pointer (some ⟨w.heap.size, 0, none⟩)]) (by simp) (by simp [go_sem]) ?_
          refine (catch_pan ⟨w.heap.size, 0, none⟩ 0 er _ S3.out.e.cell S3.out.e.free).mono ?_
          rintro e u' w'' ⟨rfl, rfl, rfl⟩
          show Leaves _ _ _ _ _ .returning _
          simp only [Leaves]
          have e2 := (S3.out.e.set_ er).cell
          refine ⟨.int .i64 er, by simp [results, Tryd.results31, go_sem, e2], ?_⟩
          have h5 := S3.out.shut C.out HS.out er
          rw [RunE, HRES.out]
          exact ⟨rfl, ⟨a2, x2, c2, false, hm3.shut C.out er⟩, h5⟩
        | fin v =>
          have hres : runL p d = ⟨v, pl.length + 1, pl ++ [k], 0⟩ := by
            rw [← HF.out.2.2.2]; simp only [runF, HPK.out, hdo]
          have HRES := Lib.hid hres
          rw [hdo] at HST
          unfold StepTo at HST
          simp only at HST
          have hpl : ((pl.length : Nat) : Int) ≤ 1000 := by have := HF.out.2.1; have := HL.out; omega
          clear hdo hres HF HPK hcl
          go_wp2_with (first
          | (go_at_call 32; ((with_reducible refine (HV1.out).mono ?_); rintro e w1 ⟨rfl, v1, k1⟩); have S1 := Lib.hid (HSI.out.visit C.out k1 v1); obtain ⟨q0, q1, q2, q3⟩ := S1.out.ins C.out hat.out hbB; have M1 := Lib.hid (HM.out.kp k1 C.out.vM))
          | (go_at_call 42; ((with_reducible refine (HOF.out _ S1.out.g).mono ?_); rintro e w2 ⟨rfl, b2⟩); have S2 := Lib.hid (S1.out.below C.out HS.out b2); clear q0 q1 q2 q3; obtain ⟨q0, q1, q2, q3⟩ := S2.out.ins C.out hat.out hbB; have M2 := Lib.hid (M1.out.on b2))
          | (go_at_call 43; ((with_reducible refine (HST.out _ M2.out S2.out.g).mono ?_); rintro e w3 ⟨g3, rfl, a2, x2, c2, hm3⟩); have S3 := Lib.hid (S2.out.grown C.out HS.out g3); have M3 := Lib.hid hm3; have p9 := hm3.cell 69 _ rfl; have pf := hm3.free; have pl3 := hm3.lt; clear hm3))
          go_roundw
          case rel =>
            refine ⟨k + 1, by omega, by go_num, cl, rfl, pl ++ [k], Lib.hid (S3.out.grown C.out HS.out (of_set w3 M 69 _)), Lib.hid (Or.inr ⟨a2, x2, c2, ?_, by rw [HRES.out], by rw [HRES.out]⟩)⟩
            rw [HRES.out]
            exact M3.out.set_ 69 _ rfl
          case measure => simp [intOf]; omega
        | go a' x' c' n =>
          have HNX := Lib.hid (show runF p d f (k + 1 + n) a' x' c' (if cl = 4 then 42 else 46) (pl ++ [k]) = runL p d by rw [hcl, skip_cls hok.out hdo, ← HF.out.2.2.2]; simp only [runF, HPK.out, hdo])
          have HOK : Hid (OkM a' x' c') := Lib.hid (by have := doI_range hok.out d HO.out.1 HO.out.2.1 HO.out.2.2; rw [hdo] at this; exact this)
          have HN4 := Lib.hid (skip_small hok.out hdo)
          have hw1 : IntKind.u64.wrap (n : Int) = n := wrap_u64_small (by omega) (by have := HN4.out; omega)
          have hw2 : IntKind.u64.wrap (1 + (n : Int)) = 1 + n := wrap_u64_small (by omega) (by have := HN4.out; omega)
          have hw3 : IntKind.u64.wrap ((k : Int) + (1 + (n : Int))) = k + (1 + n) := wrap_u64_small (by omega) (by have := HN4.out; omega)
          rw [hdo] at HST
          unfold StepTo at HST
          simp only at HST
          have hpl : ((pl.length : Nat) : Int) ≤ 1000 := by have := HF.out.2.1; have := HL.out; omega
          have HLN := Lib.hid (And.intro HF.out.1 (And.intro HF.out.2.1 HF.out.2.2.1))
          have HLL := Lib.hid hlt
          clear hdo HF HPK hcl
          go_wp2_with (first
          | (go_at_call 32; ((with_reducible refine (HV1.out).mono ?_); rintro e w1 ⟨rfl, v1, k1⟩); have S1 := Lib.hid (HSI.out.visit C.out k1 v1); obtain ⟨q0, q1, q2, q3⟩ := S1.out.ins C.out hat.out hbB; have M1 := Lib.hid (HM.out.kp k1 C.out.vM))
          | (go_at_call 42; ((with_reducible refine (HOF.out _ S1.out.g).mono ?_); rintro e w2 ⟨rfl, b2⟩); have S2 := Lib.hid (S1.out.below C.out HS.out b2); clear q0 q1 q2 q3; obtain ⟨q0, q1, q2, q3⟩ := S2.out.ins C.out hat.out hbB; have M2 := Lib.hid (M1.out.on b2))
          | (go_at_call 43; ((with_reducible refine (HST.out _ M2.out S2.out.g).mono ?_); rintro e w3 ⟨g3, rfl, hm3⟩); have S3 := Lib.hid (S2.out.grown C.out HS.out g3); have M3 := Lib.hid hm3; have p9 := hm3.cell 69 _ rfl; have pf := hm3.free; have pl3 := hm3.lt; clear hm3))
          go_roundw
          case rel =>
            obtain ⟨l1, l2, l3⟩ := HLN.out
            have hn4 := HN4.out
            have l4 := HLL.out
            have l5 := HL.out
            refine ⟨k + 1 + n, by omega, by go_num, cl, rfl, pl ++ [k], Lib.hid (S3.out.grown C.out HS.out (of_set w3 M 69 _)), Lib.hid (Or.inl ⟨a', x', c', f, ?_, HOK.out, ?_, ?_, by omega, HNX.out⟩)⟩
            · rw [List.length_append]
              exact M3.out.set_ 69 _ rfl
            · rw [List.length_append]; simp only [List.length_cons, List.length_nil]; omega
            · rw [List.length_append]; simp only [List.length_cons, List.length_nil]; omega
          case measure => (have hn4 := HN4.out; simp [intOf]; omega)
      · have hnone : p[k]? = none := List.getElem?_eq_none (by rw [HL.out]; omega)
        have hres : runL p d = ⟨0, pl.length, pl, if cb = 4 then 42 else 46⟩ := by
          rw [← h4]
          cases f with
          | zero => rfl
          | succ f => simp only [runF, hnone]
        have HRES := Lib.hid hres
        have HMI := Lib.hid (fun W => missing_any cb W)
        have HM := Lib.hid hm
        obtain ⟨r, hr⟩ : ∃ r : Int, r = if cb = 4 then 42 else 46 := ⟨_, rfl⟩
        rw [← hr] at HRES HMI
        have hge : (len0 : Int) ≤ k := by omega
        clear hres hnone h4 h3 h2 h1 ho hm hlt hr
        go_wp2_with (go_at_call 41; ((with_reducible refine (HMI.out _).mono ?_); rintro e w1 ⟨rfl, rfl⟩))
        refine leaves_cons (f := 40) (args := #[.pointer (some ⟨w.heap.size, 0, none⟩)]) (by simp) (by simp [go_sem]) ?_
        refine (catch_pan ⟨w.heap.size, 0, none⟩ 0 r _ e0 ef).mono ?_
        rintro e u' w'' ⟨rfl, rfl, rfl⟩
        show Leaves _ _ _ _ _ .returning _
        simp only [Leaves]
        have e2 := (HSI.out.e.set_ r).cell
        refine ⟨.int .i64 r, by simp [results, Tryd.results31, go_sem, e2], ?_⟩
        have h5 := HSI.out.shut C.out HS.out r
        rw [RunE, HRES.out]
        exact ⟨rfl, ⟨a, x, c, false, HM.out.shut C.out r⟩, h5⟩
end Go.Proofs.YthhfpehngdohhaaDoor
