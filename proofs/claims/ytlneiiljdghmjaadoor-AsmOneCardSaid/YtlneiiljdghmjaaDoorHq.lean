/- What the landed read makes of a line at a place. Conditions: the tables and the library's two errors lie in their variables; a line of at most 2^47 bytes. -/
import Derived.Test.YtlneiiljdghmjaaDoorHp
import Derived.RegionTactic
namespace Go.Proofs.YtlneiiljdghmjaaDoor
open Go.RowKit Go.Shelf
set_option linter.unusedVariables false
set_option linter.unusedSimpArgs false
attribute [local go_sem ↓] Go.wp_at_zero Go.wp_at_succ

/-- What read has to return. -/
def ReadTo (l : List UInt8) (at_ : Nat) (w : World) (e : Ending) (w' : World) : Prop :=
  ∃ (i : Ins) (b : Bool), e = .returned (.tuple #[.agg #[.int .u16 i.c, .int .u8 i.jt, .int .u8 i.jf, .int .u32 i.k], .bool b]) ∧ (readL l at_ = if b = true then some i else none) ∧ Below w.heap.size w w'
theorem four_ins {V : World} {B : Nat} {c jt jf k : Int} (h : V.heap[B]? = some (insO c jt jf k)) :
    V.cell? ⟨B, 0, none⟩ = some (.int .u16 c) ∧ V.cell? ⟨B, 1, none⟩ = some (.int .u8 jt) ∧ V.cell? ⟨B, 2, none⟩ = some (.int .u8 jf) ∧ V.cell? ⟨B, 3, none⟩ = some (.int .u32 k) := four_of h
theorem free_ins {V : World} {B i : Nat} {c jt jf k : Int} (h : V.heap[B]? = some (insO c jt jf k)) : V.frozen? ⟨B, i, none⟩ = false := Lib.frozen_of_heap h i
theorem bs_le {l : List UInt8} (hl : l.length ≤ 140737488355328) : (bs l).size ≤ maxLen := by rw [bs_size]; unfold maxLen; omega
theorem code_vals {n : List UInt8} {c : Int} (h : codeOfL n = some c) : codeV (bs n) = c ∧ codeB (bs n) = true := by
  unfold codeOfL at h
  unfold codeV codeB
  rw [h]
  refine ⟨rfl, ?_⟩
  cases hc : codeL allL (bs n) with
  | none => rw [hc] at h; cases h
  | some o => rfl
theorem code_none {n : List UInt8} (h : codeOfL n = none) : codeV (bs n) = 0 ∧ codeB (bs n) = false := by
  unfold codeOfL at h
  unfold codeV codeB
  rw [h]
  refine ⟨rfl, ?_⟩
  cases hc : codeL allL (bs n) with
  | none => rfl
  | some o => rw [hc] at h; cases h
theorem skip_case (word : List UInt8) (at_ : Nat) : (skipL word at_ = none ∧ skipB word at_ = false) ∨ ∃ k, skipL word at_ = some k ∧ skipN word at_ = k ∧ skipB word at_ = true := by
  unfold skipB skipN
  cases h : skipL word at_ with
  | none => exact Or.inl ⟨rfl, rfl⟩
  | some k => exact Or.inr ⟨k, rfl, rfl, rfl⟩
theorem readL_J {l : List UInt8} {at_ : Nat} (hc : codeOfL (befL l) = some 5) : readL l at_ = if (true && skipB (befL (aftL l)) at_) = true then some ⟨5, 0, 0, (skipN (befL (aftL l)) at_ : Int) % 4294967296⟩ else none := by
  unfold readL
  rw [hc]
  simp only [if_true]
  rcases skip_case (befL (aftL l)) at_ with ⟨h1, h2⟩ | ⟨k, h1, h2, h3⟩
  · rw [h1, h2]; rfl
  · rw [h1, h2, h3]
    simp
theorem readL_UF {l : List UInt8} {at_ k : Nat} {c : Int} (hc : codeOfL (befL l) = some c) (h5 : c ≠ 5) (hu : usesKB c = true) (hf : forksB c = true) (hp : Lib.parseUintB 32 (befL (aftL l)) = .ok k) :
    readL l at_ = if ((true && skipB (befL (aftL (aftL l))) at_) && skipB (befL (aftL (aftL (aftL l)))) at_) = true then some ⟨c, (skipN (befL (aftL (aftL l))) at_ : Int) % 256, (skipN (befL (aftL (aftL (aftL l)))) at_ : Int) % 256, (k : Int) % 4294967296⟩ else none := by
  have hk := parse_lt hp
  unfold readL
  rw [hc]
  simp only [if_neg h5, hu, hf, hp, if_true]
  rcases skip_case (befL (aftL (aftL l))) at_ with ⟨h1, h2⟩ | ⟨a, h1, h2, h3⟩
  · rw [h1, h2]; rfl
  · rw [h1, h2, h3]
    rcases skip_case (befL (aftL (aftL (aftL l)))) at_ with ⟨g1, g2⟩ | ⟨b, g1, g2, g3⟩
    · rw [g1, g2]; rfl
    · rw [g1, g2, g3]
      simp
      try omega
theorem readL_U {l : List UInt8} {at_ k : Nat} {c : Int} (hc : codeOfL (befL l) = some c) (h5 : c ≠ 5) (hu : usesKB c = true) (hf : forksB c = false) (hp : Lib.parseUintB 32 (befL (aftL l)) = .ok k) :
    readL l at_ = if true = true then some ⟨c, 0, 0, (k : Int) % 4294967296⟩ else none := by
  have hk := parse_lt hp
  unfold readL
  rw [hc]
  simp [h5, hu, hf, hp]
  try omega
theorem readL_Un {l : List UInt8} {at_ : Nat} {c : Int} (hc : codeOfL (befL l) = some c) (h5 : c ≠ 5) (hu : usesKB c = true) (hp : ∀ k, Lib.parseUintB 32 (befL (aftL l)) ≠ .ok k) : readL l at_ = none := by
  unfold readL
  rw [hc]
  simp only [if_neg h5, hu, if_true]
  all_goals
    rcases h : Lib.parseUintB 32 (befL (aftL l)) with k | _ | _
    · exact absurd h (hp k)
    · rfl
    · rfl
theorem readL_F {l : List UInt8} {at_ : Nat} {c : Int} (hc : codeOfL (befL l) = some c) (h5 : c ≠ 5) (hu : usesKB c = false) (hf : forksB c = true) :
    readL l at_ = if ((true && skipB (befL (aftL l)) at_) && skipB (befL (aftL (aftL l))) at_) = true then some ⟨c, (skipN (befL (aftL l)) at_ : Int) % 256, (skipN (befL (aftL (aftL l))) at_ : Int) % 256, 0⟩ else none := by
  unfold readL
  rw [hc]
  simp only [if_neg h5, hu, hf, if_true, if_neg Bool.false_ne_true]
  rcases skip_case (befL (aftL l)) at_ with ⟨h1, h2⟩ | ⟨a, h1, h2, h3⟩
  · rw [h1, h2]; rfl
  · rw [h1, h2, h3]
    rcases skip_case (befL (aftL (aftL l))) at_ with ⟨g1, g2⟩ | ⟨b, g1, g2, g3⟩
    · rw [g1, g2]; rfl
    · rw [g1, g2, g3]
      simp
theorem readL_N {l : List UInt8} {at_ : Nat} {c : Int} (hc : codeOfL (befL l) = some c) (h5 : c ≠ 5) (hu : usesKB c = false) (hf : forksB c = false) : readL l at_ = if true = true then some ⟨c, 0, 0, 0⟩ else none := by
  unfold readL
  rw [hc]
  simp [h5, hu, hf]
set_option maxRecDepth 100000 in
set_option maxHeartbeats 8000000 in
theorem read_J (l : List UInt8) (hl : l.length ≤ 140737488355328) (at_ : Nat) (hat : at_ ≤ 1099511627776) (hc : codeOfL (befL l) = some 5) (w : World) (hG : GP w) : Calls Tryd.prog 51 #[.string (bs l), .int .i64 at_] w (ReadTo l at_ w) := by
  have HCU := Lib.hid (fun W => cut_call l hl W)
  have HCO := Lib.hid (fun W (g : GW W) => codeC (bs (befL l)) W g (bs_le (bef_bound hl)))
  rw [(code_vals hc).1, (code_vals hc).2] at HCO
  have HG := Lib.hid hG
  have HB0 := Lib.hid (th2 (ball w (.cells #[.int .i64 at_] 3)) (ball (w.alloc (.cells #[.int .i64 at_] 3)) (.cells #[.int .u16 0, .int .u8 0, .int .u8 0, .int .u32 0] 33)))
  obtain ⟨_, c0, c1⟩ := code_range hc
  have HU := Lib.hid (fun W (g : GW W) => uses_call 5 c0 (by omega) W g)
  have HF := Lib.hid (fun W (g : GW W) => forks_call 5 c0 (by omega) W g)
  have HWY := Lib.hid (fun (w0 V : World) (A R Z K N I : Nat) (oi orr : Obj) (m : List UInt8) (b : Bool) (D : RdD w0 A R Z K N I) (hm : m.length ≤ 140737488355328) (g : GP w0) (h : RdS w0 A Z K N I R oi orr at_ m b V) => way_call D.p hm hat g V h)
  have HNX := Lib.hid (fun (w0 V : World) (A R Z K N I : Nat) (oi orr : Obj) (m : List UInt8) (b : Bool) (D : RdD w0 A R Z K N I) (hm : m.length ≤ 140737488355328) (h : RdS w0 A Z K N I R oi orr at_ m b V) => next_call D.p hm V h)
  have HL1 := Lib.hid (aft_bound hl)
  have HL2 := Lib.hid (aft_bound (aft_bound hl))
  have HL3 := Lib.hid (aft_bound (aft_bound (aft_bound hl)))
  rw [show forksB 5 = false from by decide +kernel] at HF
  have HE := Lib.hid (readL_J (at_ := at_) hc)
  clear c0 c1
  unfold ReadTo
  clear hl hat hG hc
  go_enter Tryd.func51, Tryd.ntmps51
  go_wp2_with (first
    | (go_at_call 59; ((with_reducible refine (HCU.out _).mono ?_); rintro e w1 ⟨bb, rfl, b1⟩); have B1 := Lib.hid (th2 HB0.out b1); have C1 := Lib.hid b1; clear b1)
    | (go_at_call 60; ((with_reducible refine (HCO.out _ ((HG.out.toGA.on B1.out).alloc _).rows).mono ?_); rintro e w2 ⟨rfl, b2⟩); have D0 := Lib.hid (rds_start (at_ := at_) (c := 5) C1.out b2).1; have S0 := Lib.hid (rds_start (at_ := at_) (c := 5) C1.out b2).2; clear b2)
    | (go_at_call 62; ((with_reducible refine (HWY.out _ _ _ _ _ _ _ _ _ _ _ _ D0.out HL1.out HG.out S0.out).mono ?_); rintro e w3 ⟨rfl, h1⟩); have S1 := Lib.hid h1; clear h1)
    | ((with_reducible show wpList _ _ _ (⟨none, .store 31 _ _, _, _, _, _⟩ :: _) _ _)
       refine put_I3 S1.out D0.out rfl rfl rfl rfl ?_
       intro w4 h2
       have S2 := Lib.hid h2
       clear h2)
    | (go_at_call 43; ((with_reducible refine (HF.out _ (HG.out.toGA.on S2.out.bel).rows).mono ?_); rintro e w5 ⟨rfl, b3⟩); have S3 := Lib.hid (S2.out.on b3); have n3 := S3.out.pn.cell; have k3 := S3.out.pk.cell; clear b3))
  obtain ⟨i0, i1, i2, i3⟩ := four_ins S3.out.pi
  have kk := S3.out.pk.cell
  obtain ⟨r0, r1, r2, r3⟩ := four_ins S3.out.pr
  have f0 := fun i => free_ins (i := i) S3.out.pr
  have BL := Lib.hid S3.out.bel
  have n1 : ¬ w.heap.size + 1 = w2.heap.size := by have := D0.out.z; have := D0.out.k; omega
  have n2 : ¬ w2.heap.size = w.heap.size + 1 := fun e => n1 e.symm
  go_region
  all_goals
    go_wp2
    refine bodyPost_ret (v := .tuple #[.agg #[.int .u16 5, .int .u8 0, .int .u8 0, .int .u32 (((skipN (befL (aftL l)) at_ : Nat) : Int) % 4294967296)], .bool (true && skipB (befL (aftL l)) at_)]) (by simp [results, Tryd.results51, go_sem, r0, r1, r2, r3, n1, n2]) rfl ?_
    exact ⟨⟨5, 0, 0, (((skipN (befL (aftL l)) at_ : Nat) : Int) % 4294967296)⟩, (true && skipB (befL (aftL l)) at_), rfl, HE.out, ((((BL.out.setCell (p := ⟨w.heap.size + 1, 0, none⟩) (Nat.le_succ _) _).setCell (p := ⟨w.heap.size + 1, 1, none⟩) (Nat.le_succ _) _).setCell (p := ⟨w.heap.size + 1, 2, none⟩) (Nat.le_succ _) _).setCell (p := ⟨w.heap.size + 1, 3, none⟩) (Nat.le_succ _) _).drew⟩
set_option maxRecDepth 100000 in
set_option maxHeartbeats 8000000 in
theorem read_UF (l : List UInt8) (hl : l.length ≤ 140737488355328) (at_ : Nat) (hat : at_ ≤ 1099511627776) (c : Int) (hc : codeOfL (befL l) = some c) (h5 : c ≠ 5) (k : Nat) (hu : usesKB c = true) (hf : forksB c = true) (hp : Lib.parseUintB 32 (befL (aftL l)) = .ok k) (w : World) (hG : GP w) : Calls Tryd.prog 51 #[.string (bs l), .int .i64 at_] w (ReadTo l at_ w) := by
  have HCU := Lib.hid (fun W => cut_call l hl W)
  have HCO := Lib.hid (fun W (g : GW W) => codeC (bs (befL l)) W g (bs_le (bef_bound hl)))
  rw [(code_vals hc).1, (code_vals hc).2] at HCO
  have HG := Lib.hid hG
  have HB0 := Lib.hid (th2 (ball w (.cells #[.int .i64 at_] 3)) (ball (w.alloc (.cells #[.int .i64 at_] 3)) (.cells #[.int .u16 0, .int .u8 0, .int .u8 0, .int .u32 0] 33)))
  obtain ⟨_, c0, c1⟩ := code_range hc
  have HU := Lib.hid (fun W (g : GW W) => uses_call c c0 (by omega) W g)
  have HF := Lib.hid (fun W (g : GW W) => forks_call c c0 (by omega) W g)
  have HWY := Lib.hid (fun (w0 V : World) (A R Z K N I : Nat) (oi orr : Obj) (m : List UInt8) (b : Bool) (D : RdD w0 A R Z K N I) (hm : m.length ≤ 140737488355328) (g : GP w0) (h : RdS w0 A Z K N I R oi orr at_ m b V) => way_call D.p hm hat g V h)
  have HNX := Lib.hid (fun (w0 V : World) (A R Z K N I : Nat) (oi orr : Obj) (m : List UInt8) (b : Bool) (D : RdD w0 A R Z K N I) (hm : m.length ≤ 140737488355328) (h : RdS w0 A Z K N I R oi orr at_ m b V) => next_call D.p hm V h)
  have HL1 := Lib.hid (aft_bound hl)
  have HL2 := Lib.hid (aft_bound (aft_bound hl))
  have HL3 := Lib.hid (aft_bound (aft_bound (aft_bound hl)))
  have e5 : (c == 5) = false := beq_eq_false_iff_ne.2 h5
  rw [hu] at HU
  rw [hf] at HF
  have HE := Lib.hid (readL_UF (at_ := at_) hc h5 hu hf hp)
  have HPU := Lib.hid (fun W => parse_yes (befL (aftL l)) (bef_bound (aft_bound hl)) k hp W)
  clear h5 c0 c1 hu hf hp
  unfold ReadTo
  clear hl hat hG hc
  go_enter Tryd.func51, Tryd.ntmps51
  go_wp2_with (first
    | (go_at_call 59; ((with_reducible refine (HCU.out _).mono ?_); rintro e w1 ⟨bb, rfl, b1⟩); have B1 := Lib.hid (th2 HB0.out b1); have C1 := Lib.hid b1; clear b1)
    | (go_at_call 60; ((with_reducible refine (HCO.out _ ((HG.out.toGA.on B1.out).alloc _).rows).mono ?_); rintro e w2 ⟨rfl, b2⟩); have D0 := Lib.hid (rds_start (at_ := at_) (c := c) C1.out b2).1; have S0 := Lib.hid (rds_start (at_ := at_) (c := c) C1.out b2).2; clear b2)
    | (go_at_call 42; ((with_reducible refine (HU.out _ (HG.out.toGA.on S0.out.bel).rows).mono ?_); rintro e w3 ⟨rfl, b1⟩); have S1 := Lib.hid (S0.out.on b1); have n1 := S1.out.pn.cell; have k1 := S1.out.pk.cell; clear b1)
    | (go_at_call 61; ((with_reducible refine (HNX.out _ _ _ _ _ _ _ _ _ _ _ _ D0.out HL1.out S1.out).mono ?_); rintro e w4 ⟨rfl, h2⟩); have S2 := Lib.hid h2; clear h2)
    | (go_at_call 64; ((with_reducible refine (HPU.out _).mono ?_); rintro e w5 ⟨rfl, b3⟩); have S3 := Lib.hid (S2.out.on b3); have k3 := S3.out.pk.cell; clear b3)
    | ((with_reducible show wpList _ _ _ (⟨none, .store 4 _ _, _, _, _, _⟩ :: _) _ _)
       refine put_K S3.out D0.out rfl rfl rfl rfl ?_
       intro w6 h4
       have S4 := Lib.hid h4
       clear h4)
    | ((with_reducible show wpList _ _ _ (⟨none, .store 31 _ _, _, _, _, _⟩ :: _) _ _)
       refine put_I3 S4.out D0.out rfl rfl rfl rfl ?_
       intro w7 h5
       have S5 := Lib.hid h5
       clear h5)
    | (go_at_call 43; ((with_reducible refine (HF.out _ (HG.out.toGA.on S5.out.bel).rows).mono ?_); rintro e w8 ⟨rfl, b6⟩); have S6 := Lib.hid (S5.out.on b6); have n6 := S6.out.pn.cell; have k6 := S6.out.pk.cell; clear b6)
    | (go_at_call 62; ((with_reducible refine (HWY.out _ _ _ _ _ _ _ _ _ _ _ _ D0.out HL3.out HG.out S7.out).mono ?_); rintro e w10 ⟨rfl, h8⟩); have S8 := Lib.hid h8; clear h8)
    | (go_at_call 62; ((with_reducible refine (HWY.out _ _ _ _ _ _ _ _ _ _ _ _ D0.out HL2.out HG.out S6.out).mono ?_); rintro e w9 ⟨rfl, h7⟩); have S7 := Lib.hid h7; clear h7)
    | ((with_reducible show wpList _ _ _ (⟨none, .store 5 _ _, _, _, _, _⟩ :: _) _ _)
       refine put_I1 S8.out D0.out rfl rfl rfl rfl ?_
       intro w11 h9
       have S9 := Lib.hid h9
       clear h9)
    | ((with_reducible show wpList _ _ _ (⟨none, .store 5 _ _, _, _, _, _⟩ :: _) _ _)
       refine put_I2 S9.out D0.out rfl rfl rfl rfl ?_
       intro w12 h10
       have S10 := Lib.hid h10
       clear h10))
  obtain ⟨i0, i1, i2, i3⟩ := four_ins S10.out.pi
  have kk := S10.out.pk.cell
  obtain ⟨r0, r1, r2, r3⟩ := four_ins S10.out.pr
  have f0 := fun i => free_ins (i := i) S10.out.pr
  have BL := Lib.hid S10.out.bel
  have n1 : ¬ w.heap.size + 1 = w2.heap.size := by have := D0.out.z; have := D0.out.k; omega
  have n2 : ¬ w2.heap.size = w.heap.size + 1 := fun e => n1 e.symm
  go_region
  all_goals
    go_wp2
    refine bodyPost_ret (v := .tuple #[.agg #[.int .u16 c, .int .u8 (((skipN (befL (aftL (aftL l))) at_ : Nat) : Int) % 256), .int .u8 (((skipN (befL (aftL (aftL (aftL l)))) at_ : Nat) : Int) % 256), .int .u32 ((k : Int) % 4294967296)], .bool ((true && skipB (befL (aftL (aftL l))) at_) && skipB (befL (aftL (aftL (aftL l)))) at_)]) (by simp [results, Tryd.results51, go_sem, r0, r1, r2, r3, n1, n2]) rfl ?_
    exact ⟨⟨c, (((skipN (befL (aftL (aftL l))) at_ : Nat) : Int) % 256), (((skipN (befL (aftL (aftL (aftL l)))) at_ : Nat) : Int) % 256), ((k : Int) % 4294967296)⟩, ((true && skipB (befL (aftL (aftL l))) at_) && skipB (befL (aftL (aftL (aftL l)))) at_), rfl, HE.out, ((((BL.out.setCell (p := ⟨w.heap.size + 1, 0, none⟩) (Nat.le_succ _) _).setCell (p := ⟨w.heap.size + 1, 1, none⟩) (Nat.le_succ _) _).setCell (p := ⟨w.heap.size + 1, 2, none⟩) (Nat.le_succ _) _).setCell (p := ⟨w.heap.size + 1, 3, none⟩) (Nat.le_succ _) _).drew⟩
set_option maxRecDepth 100000 in
set_option maxHeartbeats 8000000 in
theorem read_UFn (l : List UInt8) (hl : l.length ≤ 140737488355328) (at_ : Nat) (hat : at_ ≤ 1099511627776) (c : Int) (hc : codeOfL (befL l) = some c) (h5 : c ≠ 5) (hu : usesKB c = true) (hf : forksB c = true) (hp : ∀ k, Lib.parseUintB 32 (befL (aftL l)) ≠ .ok k) (w : World) (hG : GP w) : Calls Tryd.prog 51 #[.string (bs l), .int .i64 at_] w (ReadTo l at_ w) := by
  have HCU := Lib.hid (fun W => cut_call l hl W)
  have HCO := Lib.hid (fun W (g : GW W) => codeC (bs (befL l)) W g (bs_le (bef_bound hl)))
  rw [(code_vals hc).1, (code_vals hc).2] at HCO
  have HG := Lib.hid hG
  have HB0 := Lib.hid (th2 (ball w (.cells #[.int .i64 at_] 3)) (ball (w.alloc (.cells #[.int .i64 at_] 3)) (.cells #[.int .u16 0, .int .u8 0, .int .u8 0, .int .u32 0] 33)))
  obtain ⟨_, c0, c1⟩ := code_range hc
  have HU := Lib.hid (fun W (g : GW W) => uses_call c c0 (by omega) W g)
  have HF := Lib.hid (fun W (g : GW W) => forks_call c c0 (by omega) W g)
  have HWY := Lib.hid (fun (w0 V : World) (A R Z K N I : Nat) (oi orr : Obj) (m : List UInt8) (b : Bool) (D : RdD w0 A R Z K N I) (hm : m.length ≤ 140737488355328) (g : GP w0) (h : RdS w0 A Z K N I R oi orr at_ m b V) => way_call D.p hm hat g V h)
  have HNX := Lib.hid (fun (w0 V : World) (A R Z K N I : Nat) (oi orr : Obj) (m : List UInt8) (b : Bool) (D : RdD w0 A R Z K N I) (hm : m.length ≤ 140737488355328) (h : RdS w0 A Z K N I R oi orr at_ m b V) => next_call D.p hm V h)
  have HL1 := Lib.hid (aft_bound hl)
  have HL2 := Lib.hid (aft_bound (aft_bound hl))
  have HL3 := Lib.hid (aft_bound (aft_bound (aft_bound hl)))
  have e5 : (c == 5) = false := beq_eq_false_iff_ne.2 h5
  rw [hu] at HU
  rw [hf] at HF
  have HE := Lib.hid (readL_Un (at_ := at_) hc h5 hu hp)
  have HPU := Lib.hid (fun W (g : GP W) => parse_no (befL (aftL l)) (bef_bound (aft_bound hl)) hp W g)
  clear h5 c0 c1 hu hf hp
  unfold ReadTo
  clear hl hat hG hc
  go_enter Tryd.func51, Tryd.ntmps51
  go_wp2_with (first
    | (go_at_call 59; ((with_reducible refine (HCU.out _).mono ?_); rintro e w1 ⟨bb, rfl, b1⟩); have B1 := Lib.hid (th2 HB0.out b1); have C1 := Lib.hid b1; clear b1)
    | (go_at_call 60; ((with_reducible refine (HCO.out _ ((HG.out.toGA.on B1.out).alloc _).rows).mono ?_); rintro e w2 ⟨rfl, b2⟩); have D0 := Lib.hid (rds_start (at_ := at_) (c := c) C1.out b2).1; have S0 := Lib.hid (rds_start (at_ := at_) (c := c) C1.out b2).2; clear b2)
    | (go_at_call 42; ((with_reducible refine (HU.out _ (HG.out.toGA.on S0.out.bel).rows).mono ?_); rintro e w3 ⟨rfl, b1⟩); have S1 := Lib.hid (S0.out.on b1); have n1 := S1.out.pn.cell; have k1 := S1.out.pk.cell; clear b1)
    | (go_at_call 61; ((with_reducible refine (HNX.out _ _ _ _ _ _ _ _ _ _ _ _ D0.out HL1.out S1.out).mono ?_); rintro e w4 ⟨rfl, h2⟩); have S2 := Lib.hid h2; clear h2)
    | (go_at_call 64; ((with_reducible refine (HPU.out _ (HG.out.on S2.out.bel)).mono ?_); rintro e w5 ⟨v, N, rfl, v0, v1, b3⟩); have S3 := Lib.hid (S2.out.on b3); have k3 := S3.out.pk.cell; clear b3 v0 v1)
    | ((with_reducible show wpList _ _ _ (⟨none, .store 4 _ _, _, _, _, _⟩ :: _) _ _)
       refine put_K S3.out D0.out rfl rfl rfl rfl ?_
       intro w6 h4
       have S4 := Lib.hid h4
       clear h4)
    | ((with_reducible show wpList _ _ _ (⟨none, .store 31 _ _, _, _, _, _⟩ :: _) _ _)
       refine put_I3 S4.out D0.out rfl rfl rfl rfl ?_
       intro w7 h5
       have S5 := Lib.hid h5
       clear h5)
    | (go_at_call 43; ((with_reducible refine (HF.out _ (HG.out.toGA.on S5.out.bel).rows).mono ?_); rintro e w8 ⟨rfl, b6⟩); have S6 := Lib.hid (S5.out.on b6); have n6 := S6.out.pn.cell; have k6 := S6.out.pk.cell; clear b6)
    | (go_at_call 62; ((with_reducible refine (HWY.out _ _ _ _ _ _ _ _ _ _ _ _ D0.out HL3.out HG.out S7.out).mono ?_); rintro e w10 ⟨rfl, h8⟩); have S8 := Lib.hid h8; clear h8)
    | (go_at_call 62; ((with_reducible refine (HWY.out _ _ _ _ _ _ _ _ _ _ _ _ D0.out HL2.out HG.out S6.out).mono ?_); rintro e w9 ⟨rfl, h7⟩); have S7 := Lib.hid h7; clear h7)
    | ((with_reducible show wpList _ _ _ (⟨none, .store 5 _ _, _, _, _, _⟩ :: _) _ _)
       refine put_I1 S8.out D0.out rfl rfl rfl rfl ?_
       intro w11 h9
       have S9 := Lib.hid h9
       clear h9)
    | ((with_reducible show wpList _ _ _ (⟨none, .store 5 _ _, _, _, _, _⟩ :: _) _ _)
       refine put_I2 S9.out D0.out rfl rfl rfl rfl ?_
       intro w12 h10
       have S10 := Lib.hid h10
       clear h10))
  obtain ⟨i0, i1, i2, i3⟩ := four_ins S10.out.pi
  have kk := S10.out.pk.cell
  obtain ⟨r0, r1, r2, r3⟩ := four_ins S10.out.pr
  have f0 := fun i => free_ins (i := i) S10.out.pr
  have BL := Lib.hid S10.out.bel
  have n1 : ¬ w.heap.size + 1 = w2.heap.size := by have := D0.out.z; have := D0.out.k; omega
  have n2 : ¬ w2.heap.size = w.heap.size + 1 := fun e => n1 e.symm
  go_region
  all_goals
    go_wp2
    refine bodyPost_ret (v := .tuple #[.agg #[.int .u16 c, .int .u8 (((skipN (befL (aftL (aftL l))) at_ : Nat) : Int) % 256), .int .u8 (((skipN (befL (aftL (aftL (aftL l)))) at_ : Nat) : Int) % 256), .int .u32 (v % 4294967296)], .bool ((false && skipB (befL (aftL (aftL l))) at_) && skipB (befL (aftL (aftL (aftL l)))) at_)]) (by simp [results, Tryd.results51, go_sem, r0, r1, r2, r3, n1, n2]) rfl ?_
    exact ⟨⟨c, (((skipN (befL (aftL (aftL l))) at_ : Nat) : Int) % 256), (((skipN (befL (aftL (aftL (aftL l)))) at_ : Nat) : Int) % 256), (v % 4294967296)⟩, ((false && skipB (befL (aftL (aftL l))) at_) && skipB (befL (aftL (aftL (aftL l)))) at_), rfl, by rw [HE.out, Bool.false_and, Bool.false_and]; rfl, ((((BL.out.setCell (p := ⟨w.heap.size + 1, 0, none⟩) (Nat.le_succ _) _).setCell (p := ⟨w.heap.size + 1, 1, none⟩) (Nat.le_succ _) _).setCell (p := ⟨w.heap.size + 1, 2, none⟩) (Nat.le_succ _) _).setCell (p := ⟨w.heap.size + 1, 3, none⟩) (Nat.le_succ _) _).drew⟩
set_option maxRecDepth 100000 in
set_option maxHeartbeats 8000000 in
theorem read_U (l : List UInt8) (hl : l.length ≤ 140737488355328) (at_ : Nat) (hat : at_ ≤ 1099511627776) (c : Int) (hc : codeOfL (befL l) = some c) (h5 : c ≠ 5) (k : Nat) (hu : usesKB c = true) (hf : forksB c = false) (hp : Lib.parseUintB 32 (befL (aftL l)) = .ok k) (w : World) (hG : GP w) : Calls Tryd.prog 51 #[.string (bs l), .int .i64 at_] w (ReadTo l at_ w) := by
  have HCU := Lib.hid (fun W => cut_call l hl W)
  have HCO := Lib.hid (fun W (g : GW W) => codeC (bs (befL l)) W g (bs_le (bef_bound hl)))
  rw [(code_vals hc).1, (code_vals hc).2] at HCO
  have HG := Lib.hid hG
  have HB0 := Lib.hid (th2 (ball w (.cells #[.int .i64 at_] 3)) (ball (w.alloc (.cells #[.int .i64 at_] 3)) (.cells #[.int .u16 0, .int .u8 0, .int .u8 0, .int .u32 0] 33)))
  obtain ⟨_, c0, c1⟩ := code_range hc
  have HU := Lib.hid (fun W (g : GW W) => uses_call c c0 (by omega) W g)
  have HF := Lib.hid (fun W (g : GW W) => forks_call c c0 (by omega) W g)
  have HWY := Lib.hid (fun (w0 V : World) (A R Z K N I : Nat) (oi orr : Obj) (m : List UInt8) (b : Bool) (D : RdD w0 A R Z K N I) (hm : m.length ≤ 140737488355328) (g : GP w0) (h : RdS w0 A Z K N I R oi orr at_ m b V) => way_call D.p hm hat g V h)
  have HNX := Lib.hid (fun (w0 V : World) (A R Z K N I : Nat) (oi orr : Obj) (m : List UInt8) (b : Bool) (D : RdD w0 A R Z K N I) (hm : m.length ≤ 140737488355328) (h : RdS w0 A Z K N I R oi orr at_ m b V) => next_call D.p hm V h)
  have HL1 := Lib.hid (aft_bound hl)
  have HL2 := Lib.hid (aft_bound (aft_bound hl))
  have HL3 := Lib.hid (aft_bound (aft_bound (aft_bound hl)))
  have e5 : (c == 5) = false := beq_eq_false_iff_ne.2 h5
  rw [hu] at HU
  rw [hf] at HF
  have HE := Lib.hid (readL_U (at_ := at_) hc h5 hu hf hp)
  have HPU := Lib.hid (fun W => parse_yes (befL (aftL l)) (bef_bound (aft_bound hl)) k hp W)
  clear h5 c0 c1 hu hf hp
  unfold ReadTo
  clear hl hat hG hc
  go_enter Tryd.func51, Tryd.ntmps51
  go_wp2_with (first
    | (go_at_call 59; ((with_reducible refine (HCU.out _).mono ?_); rintro e w1 ⟨bb, rfl, b1⟩); have B1 := Lib.hid (th2 HB0.out b1); have C1 := Lib.hid b1; clear b1)
    | (go_at_call 60; ((with_reducible refine (HCO.out _ ((HG.out.toGA.on B1.out).alloc _).rows).mono ?_); rintro e w2 ⟨rfl, b2⟩); have D0 := Lib.hid (rds_start (at_ := at_) (c := c) C1.out b2).1; have S0 := Lib.hid (rds_start (at_ := at_) (c := c) C1.out b2).2; clear b2)
    | (go_at_call 42; ((with_reducible refine (HU.out _ (HG.out.toGA.on S0.out.bel).rows).mono ?_); rintro e w3 ⟨rfl, b1⟩); have S1 := Lib.hid (S0.out.on b1); have n1 := S1.out.pn.cell; have k1 := S1.out.pk.cell; clear b1)
    | (go_at_call 61; ((with_reducible refine (HNX.out _ _ _ _ _ _ _ _ _ _ _ _ D0.out HL1.out S1.out).mono ?_); rintro e w4 ⟨rfl, h2⟩); have S2 := Lib.hid h2; clear h2)
    | (go_at_call 64; ((with_reducible refine (HPU.out _).mono ?_); rintro e w5 ⟨rfl, b3⟩); have S3 := Lib.hid (S2.out.on b3); have k3 := S3.out.pk.cell; clear b3)
    | ((with_reducible show wpList _ _ _ (⟨none, .store 4 _ _, _, _, _, _⟩ :: _) _ _)
       refine put_K S3.out D0.out rfl rfl rfl rfl ?_
       intro w6 h4
       have S4 := Lib.hid h4
       clear h4)
    | ((with_reducible show wpList _ _ _ (⟨none, .store 31 _ _, _, _, _, _⟩ :: _) _ _)
       refine put_I3 S4.out D0.out rfl rfl rfl rfl ?_
       intro w7 h5
       have S5 := Lib.hid h5
       clear h5)
    | (go_at_call 43; ((with_reducible refine (HF.out _ (HG.out.toGA.on S5.out.bel).rows).mono ?_); rintro e w8 ⟨rfl, b6⟩); have S6 := Lib.hid (S5.out.on b6); have n6 := S6.out.pn.cell; have k6 := S6.out.pk.cell; clear b6))
  obtain ⟨i0, i1, i2, i3⟩ := four_ins S6.out.pi
  have kk := S6.out.pk.cell
  obtain ⟨r0, r1, r2, r3⟩ := four_ins S6.out.pr
  have f0 := fun i => free_ins (i := i) S6.out.pr
  have BL := Lib.hid S6.out.bel
  have n1 : ¬ w.heap.size + 1 = w2.heap.size := by have := D0.out.z; have := D0.out.k; omega
  have n2 : ¬ w2.heap.size = w.heap.size + 1 := fun e => n1 e.symm
  go_region
  all_goals
    go_wp2
    refine bodyPost_ret (v := .tuple #[.agg #[.int .u16 c, .int .u8 0, .int .u8 0, .int .u32 ((k : Int) % 4294967296)], .bool true]) (by simp [results, Tryd.results51, go_sem, r0, r1, r2, r3, n1, n2]) rfl ?_
    exact ⟨⟨c, 0, 0, ((k : Int) % 4294967296)⟩, true, rfl, HE.out, ((((BL.out.setCell (p := ⟨w.heap.size + 1, 0, none⟩) (Nat.le_succ _) _).setCell (p := ⟨w.heap.size + 1, 1, none⟩) (Nat.le_succ _) _).setCell (p := ⟨w.heap.size + 1, 2, none⟩) (Nat.le_succ _) _).setCell (p := ⟨w.heap.size + 1, 3, none⟩) (Nat.le_succ _) _).drew⟩
set_option maxRecDepth 100000 in
set_option maxHeartbeats 8000000 in
theorem read_Un (l : List UInt8) (hl : l.length ≤ 140737488355328) (at_ : Nat) (hat : at_ ≤ 1099511627776) (c : Int) (hc : codeOfL (befL l) = some c) (h5 : c ≠ 5) (hu : usesKB c = true) (hf : forksB c = false) (hp : ∀ k, Lib.parseUintB 32 (befL (aftL l)) ≠ .ok k) (w : World) (hG : GP w) : Calls Tryd.prog 51 #[.string (bs l), .int .i64 at_] w (ReadTo l at_ w) := by
  have HCU := Lib.hid (fun W => cut_call l hl W)
  have HCO := Lib.hid (fun W (g : GW W) => codeC (bs (befL l)) W g (bs_le (bef_bound hl)))
  rw [(code_vals hc).1, (code_vals hc).2] at HCO
  have HG := Lib.hid hG
  have HB0 := Lib.hid (th2 (ball w (.cells #[.int .i64 at_] 3)) (ball (w.alloc (.cells #[.int .i64 at_] 3)) (.cells #[.int .u16 0, .int .u8 0, .int .u8 0, .int .u32 0] 33)))
  obtain ⟨_, c0, c1⟩ := code_range hc
  have HU := Lib.hid (fun W (g : GW W) => uses_call c c0 (by omega) W g)
  have HF := Lib.hid (fun W (g : GW W) => forks_call c c0 (by omega) W g)
  have HWY := Lib.hid (fun (w0 V : World) (A R Z K N I : Nat) (oi orr : Obj) (m : List UInt8) (b : Bool) (D : RdD w0 A R Z K N I) (hm : m.length ≤ 140737488355328) (g : GP w0) (h : RdS w0 A Z K N I R oi orr at_ m b V) => way_call D.p hm hat g V h)
  have HNX := Lib.hid (fun (w0 V : World) (A R Z K N I : Nat) (oi orr : Obj) (m : List UInt8) (b : Bool) (D : RdD w0 A R Z K N I) (hm : m.length ≤ 140737488355328) (h : RdS w0 A Z K N I R oi orr at_ m b V) => next_call D.p hm V h)
  have HL1 := Lib.hid (aft_bound hl)
  have HL2 := Lib.hid (aft_bound (aft_bound hl))
  have HL3 := Lib.hid (aft_bound (aft_bound (aft_bound hl)))
  have e5 : (c == 5) = false := beq_eq_false_iff_ne.2 h5
  rw [hu] at HU
  rw [hf] at HF
  have HE := Lib.hid (readL_Un (at_ := at_) hc h5 hu hp)
  have HPU := Lib.hid (fun W (g : GP W) => parse_no (befL (aftL l)) (bef_bound (aft_bound hl)) hp W g)
  clear h5 c0 c1 hu hf hp
  unfold ReadTo
  clear hl hat hG hc
  go_enter Tryd.func51, Tryd.ntmps51
  go_wp2_with (first
    | (go_at_call 59; ((with_reducible refine (HCU.out _).mono ?_); rintro e w1 ⟨bb, rfl, b1⟩); have B1 := Lib.hid (th2 HB0.out b1); have C1 := Lib.hid b1; clear b1)
    | (go_at_call 60; ((with_reducible refine (HCO.out _ ((HG.out.toGA.on B1.out).alloc _).rows).mono ?_); rintro e w2 ⟨rfl, b2⟩); have D0 := Lib.hid (rds_start (at_ := at_) (c := c) C1.out b2).1; have S0 := Lib.hid (rds_start (at_ := at_) (c := c) C1.out b2).2; clear b2)
    | (go_at_call 42; ((with_reducible refine (HU.out _ (HG.out.toGA.on S0.out.bel).rows).mono ?_); rintro e w3 ⟨rfl, b1⟩); have S1 := Lib.hid (S0.out.on b1); have n1 := S1.out.pn.cell; have k1 := S1.out.pk.cell; clear b1)
    | (go_at_call 61; ((with_reducible refine (HNX.out _ _ _ _ _ _ _ _ _ _ _ _ D0.out HL1.out S1.out).mono ?_); rintro e w4 ⟨rfl, h2⟩); have S2 := Lib.hid h2; clear h2)
    | (go_at_call 64; ((with_reducible refine (HPU.out _ (HG.out.on S2.out.bel)).mono ?_); rintro e w5 ⟨v, N, rfl, v0, v1, b3⟩); have S3 := Lib.hid (S2.out.on b3); have k3 := S3.out.pk.cell; clear b3 v0 v1)
    | ((with_reducible show wpList _ _ _ (⟨none, .store 4 _ _, _, _, _, _⟩ :: _) _ _)
       refine put_K S3.out D0.out rfl rfl rfl rfl ?_
       intro w6 h4
       have S4 := Lib.hid h4
       clear h4)
    | ((with_reducible show wpList _ _ _ (⟨none, .store 31 _ _, _, _, _, _⟩ :: _) _ _)
       refine put_I3 S4.out D0.out rfl rfl rfl rfl ?_
       intro w7 h5
       have S5 := Lib.hid h5
       clear h5)
    | (go_at_call 43; ((with_reducible refine (HF.out _ (HG.out.toGA.on S5.out.bel).rows).mono ?_); rintro e w8 ⟨rfl, b6⟩); have S6 := Lib.hid (S5.out.on b6); have n6 := S6.out.pn.cell; have k6 := S6.out.pk.cell; clear b6))
  obtain ⟨i0, i1, i2, i3⟩ := four_ins S6.out.pi
  have kk := S6.out.pk.cell
  obtain ⟨r0, r1, r2, r3⟩ := four_ins S6.out.pr
  have f0 := fun i => free_ins (i := i) S6.out.pr
  have BL := Lib.hid S6.out.bel
  have n1 : ¬ w.heap.size + 1 = w2.heap.size := by have := D0.out.z; have := D0.out.k; omega
  have n2 : ¬ w2.heap.size = w.heap.size + 1 := fun e => n1 e.symm
  go_region
  all_goals
    go_wp2
    refine bodyPost_ret (v := .tuple #[.agg #[.int .u16 c, .int .u8 0, .int .u8 0, .int .u32 (v % 4294967296)], .bool false]) (by simp [results, Tryd.results51, go_sem, r0, r1, r2, r3, n1, n2]) rfl ?_
    exact ⟨⟨c, 0, 0, (v % 4294967296)⟩, false, rfl, by rw [HE.out]; rfl, ((((BL.out.setCell (p := ⟨w.heap.size + 1, 0, none⟩) (Nat.le_succ _) _).setCell (p := ⟨w.heap.size + 1, 1, none⟩) (Nat.le_succ _) _).setCell (p := ⟨w.heap.size + 1, 2, none⟩) (Nat.le_succ _) _).setCell (p := ⟨w.heap.size + 1, 3, none⟩) (Nat.le_succ _) _).drew⟩
set_option maxRecDepth 100000 in
set_option maxHeartbeats 8000000 in
theorem read_F (l : List UInt8) (hl : l.length ≤ 140737488355328) (at_ : Nat) (hat : at_ ≤ 1099511627776) (c : Int) (hc : codeOfL (befL l) = some c) (h5 : c ≠ 5) (hu : usesKB c = false) (hf : forksB c = true) (w : World) (hG : GP w) : Calls Tryd.prog 51 #[.string (bs l), .int .i64 at_] w (ReadTo l at_ w) := by
  have HCU := Lib.hid (fun W => cut_call l hl W)
  have HCO := Lib.hid (fun W (g : GW W) => codeC (bs (befL l)) W g (bs_le (bef_bound hl)))
  rw [(code_vals hc).1, (code_vals hc).2] at HCO
  have HG := Lib.hid hG
  have HB0 := Lib.hid (th2 (ball w (.cells #[.int .i64 at_] 3)) (ball (w.alloc (.cells #[.int .i64 at_] 3)) (.cells #[.int .u16 0, .int .u8 0, .int .u8 0, .int .u32 0] 33)))
  obtain ⟨_, c0, c1⟩ := code_range hc
  have HU := Lib.hid (fun W (g : GW W) => uses_call c c0 (by omega) W g)
  have HF := Lib.hid (fun W (g : GW W) => forks_call c c0 (by omega) W g)
  have HWY := Lib.hid (fun (w0 V : World) (A R Z K N I : Nat) (oi orr : Obj) (m : List UInt8) (b : Bool) (D : RdD w0 A R Z K N I) (hm : m.length ≤ 140737488355328) (g : GP w0) (h : RdS w0 A Z K N I R oi orr at_ m b V) => way_call D.p hm hat g V h)
  have HNX := Lib.hid (fun (w0 V : World) (A R Z K N I : Nat) (oi orr : Obj) (m : List UInt8) (b : Bool) (D : RdD w0 A R Z K N I) (hm : m.length ≤ 140737488355328) (h : RdS w0 A Z K N I R oi orr at_ m b V) => next_call D.p hm V h)
  have HL1 := Lib.hid (aft_bound hl)
  have HL2 := Lib.hid (aft_bound (aft_bound hl))
  have HL3 := Lib.hid (aft_bound (aft_bound (aft_bound hl)))
  have e5 : (c == 5) = false := beq_eq_false_iff_ne.2 h5
  rw [hu] at HU
  rw [hf] at HF
  have HE := Lib.hid (readL_F (at_ := at_) hc h5 hu hf)
  clear h5 c0 c1 hu hf
  unfold ReadTo
  clear hl hat hG hc
  go_enter Tryd.func51, Tryd.ntmps51
  go_wp2_with (first
    | (go_at_call 59; ((with_reducible refine (HCU.out _).mono ?_); rintro e w1 ⟨bb, rfl, b1⟩); have B1 := Lib.hid (th2 HB0.out b1); have C1 := Lib.hid b1; clear b1)
    | (go_at_call 60; ((with_reducible refine (HCO.out _ ((HG.out.toGA.on B1.out).alloc _).rows).mono ?_); rintro e w2 ⟨rfl, b2⟩); have D0 := Lib.hid (rds_start (at_ := at_) (c := c) C1.out b2).1; have S0 := Lib.hid (rds_start (at_ := at_) (c := c) C1.out b2).2; clear b2)
    | (go_at_call 42; ((with_reducible refine (HU.out _ (HG.out.toGA.on S0.out.bel).rows).mono ?_); rintro e w3 ⟨rfl, b1⟩); have S1 := Lib.hid (S0.out.on b1); have n1 := S1.out.pn.cell; have k1 := S1.out.pk.cell; clear b1)
    | (go_at_call 43; ((with_reducible refine (HF.out _ (HG.out.toGA.on S1.out.bel).rows).mono ?_); rintro e w4 ⟨rfl, b2⟩); have S2 := Lib.hid (S1.out.on b2); have n2 := S2.out.pn.cell; have k2 := S2.out.pk.cell; clear b2)
    | (go_at_call 62; ((with_reducible refine (HWY.out _ _ _ _ _ _ _ _ _ _ _ _ D0.out HL2.out HG.out S3.out).mono ?_); rintro e w6 ⟨rfl, h4⟩); have S4 := Lib.hid h4; clear h4)
    | (go_at_call 62; ((with_reducible refine (HWY.out _ _ _ _ _ _ _ _ _ _ _ _ D0.out HL1.out HG.out S2.out).mono ?_); rintro e w5 ⟨rfl, h3⟩); have S3 := Lib.hid h3; clear h3)
    | ((with_reducible show wpList _ _ _ (⟨none, .store 5 _ _, _, _, _, _⟩ :: _) _ _)
       refine put_I1 S4.out D0.out rfl rfl rfl rfl ?_
       intro w7 h5
       have S5 := Lib.hid h5
       clear h5)
    | ((with_reducible show wpList _ _ _ (⟨none, .store 5 _ _, _, _, _, _⟩ :: _) _ _)
       refine put_I2 S5.out D0.out rfl rfl rfl rfl ?_
       intro w8 h6
       have S6 := Lib.hid h6
       clear h6))
  obtain ⟨i0, i1, i2, i3⟩ := four_ins S6.out.pi
  have kk := S6.out.pk.cell
  obtain ⟨r0, r1, r2, r3⟩ := four_ins S6.out.pr
  have f0 := fun i => free_ins (i := i) S6.out.pr
  have BL := Lib.hid S6.out.bel
  have n1 : ¬ w.heap.size + 1 = w2.heap.size := by have := D0.out.z; have := D0.out.k; omega
  have n2 : ¬ w2.heap.size = w.heap.size + 1 := fun e => n1 e.symm
  go_region
  all_goals
    go_wp2
    refine bodyPost_ret (v := .tuple #[.agg #[.int .u16 c, .int .u8 (((skipN (befL (aftL l)) at_ : Nat) : Int) % 256), .int .u8 (((skipN (befL (aftL (aftL l))) at_ : Nat) : Int) % 256), .int .u32 0], .bool ((true && skipB (befL (aftL l)) at_) && skipB (befL (aftL (aftL l))) at_)]) (by simp [results, Tryd.results51, go_sem, r0, r1, r2, r3, n1, n2]) rfl ?_
    exact ⟨⟨c, (((skipN (befL (aftL l)) at_ : Nat) : Int) % 256), (((skipN (befL (aftL (aftL l))) at_ : Nat) : Int) % 256), 0⟩, ((true && skipB (befL (aftL l)) at_) && skipB (befL (aftL (aftL l))) at_), rfl, HE.out, ((((BL.out.setCell (p := ⟨w.heap.size + 1, 0, none⟩) (Nat.le_succ _) _).setCell (p := ⟨w.heap.size + 1, 1, none⟩) (Nat.le_succ _) _).setCell (p := ⟨w.heap.size + 1, 2, none⟩) (Nat.le_succ _) _).setCell (p := ⟨w.heap.size + 1, 3, none⟩) (Nat.le_succ _) _).drew⟩
set_option maxRecDepth 100000 in
set_option maxHeartbeats 8000000 in
theorem read_N (l : List UInt8) (hl : l.length ≤ 140737488355328) (at_ : Nat) (hat : at_ ≤ 1099511627776) (c : Int) (hc : codeOfL (befL l) = some c) (h5 : c ≠ 5) (hu : usesKB c = false) (hf : forksB c = false) (w : World) (hG : GP w) : Calls Tryd.prog 51 #[.string (bs l), .int .i64 at_] w (ReadTo l at_ w) := by
  have HCU := Lib.hid (fun W => cut_call l hl W)
  have HCO := Lib.hid (fun W (g : GW W) => codeC (bs (befL l)) W g (bs_le (bef_bound hl)))
  rw [(code_vals hc).1, (code_vals hc).2] at HCO
  have HG := Lib.hid hG
  have HB0 := Lib.hid (th2 (ball w (.cells #[.int .i64 at_] 3)) (ball (w.alloc (.cells #[.int .i64 at_] 3)) (.cells #[.int .u16 0, .int .u8 0, .int .u8 0, .int .u32 0] 33)))
  obtain ⟨_, c0, c1⟩ := code_range hc
  have HU := Lib.hid (fun W (g : GW W) => uses_call c c0 (by omega) W g)
  have HF := Lib.hid (fun W (g : GW W) => forks_call c c0 (by omega) W g)
  have HWY := Lib.hid (fun (w0 V : World) (A R Z K N I : Nat) (oi orr : Obj) (m : List UInt8) (b : Bool) (D : RdD w0 A R Z K N I) (hm : m.length ≤ 140737488355328) (g : GP w0) (h : RdS w0 A Z K N I R oi orr at_ m b V) => way_call D.p hm hat g V h)
  have HNX := Lib.hid (fun (w0 V : World) (A R Z K N I : Nat) (oi orr : Obj) (m : List UInt8) (b : Bool) (D : RdD w0 A R Z K N I) (hm : m.length ≤ 140737488355328) (h : RdS w0 A Z K N I R oi orr at_ m b V) => next_call D.p hm V h)
  have HL1 := Lib.hid (aft_bound hl)
  have HL2 := Lib.hid (aft_bound (aft_bound hl))
  have HL3 := Lib.hid (aft_bound (aft_bound (aft_bound hl)))
  have e5 : (c == 5) = false := beq_eq_false_iff_ne.2 h5
  rw [hu] at HU
  rw [hf] at HF
  have HE := Lib.hid (readL_N (at_ := at_) hc h5 hu hf)
  clear h5 c0 c1 hu hf
  unfold ReadTo
  clear hl hat hG hc
  go_enter Tryd.func51, Tryd.ntmps51
  go_wp2_with (first
    | (go_at_call 59; ((with_reducible refine (HCU.out _).mono ?_); rintro e w1 ⟨bb, rfl, b1⟩); have B1 := Lib.hid (th2 HB0.out b1); have C1 := Lib.hid b1; clear b1)
    | (go_at_call 60; ((with_reducible refine (HCO.out _ ((HG.out.toGA.on B1.out).alloc _).rows).mono ?_); rintro e w2 ⟨rfl, b2⟩); have D0 := Lib.hid (rds_start (at_ := at_) (c := c) C1.out b2).1; have S0 := Lib.hid (rds_start (at_ := at_) (c := c) C1.out b2).2; clear b2)
    | (go_at_call 42; ((with_reducible refine (HU.out _ (HG.out.toGA.on S0.out.bel).rows).mono ?_); rintro e w3 ⟨rfl, b1⟩); have S1 := Lib.hid (S0.out.on b1); have n1 := S1.out.pn.cell; have k1 := S1.out.pk.cell; clear b1)
    | (go_at_call 43; ((with_reducible refine (HF.out _ (HG.out.toGA.on S1.out.bel).rows).mono ?_); rintro e w4 ⟨rfl, b2⟩); have S2 := Lib.hid (S1.out.on b2); have n2 := S2.out.pn.cell; have k2 := S2.out.pk.cell; clear b2))
  obtain ⟨i0, i1, i2, i3⟩ := four_ins S2.out.pi
  have kk := S2.out.pk.cell
  obtain ⟨r0, r1, r2, r3⟩ := four_ins S2.out.pr
  have f0 := fun i => free_ins (i := i) S2.out.pr
  have BL := Lib.hid S2.out.bel
  have n1 : ¬ w.heap.size + 1 = w2.heap.size := by have := D0.out.z; have := D0.out.k; omega
  have n2 : ¬ w2.heap.size = w.heap.size + 1 := fun e => n1 e.symm
  go_region
  all_goals
    go_wp2
    refine bodyPost_ret (v := .tuple #[.agg #[.int .u16 c, .int .u8 0, .int .u8 0, .int .u32 0], .bool true]) (by simp [results, Tryd.results51, go_sem, r0, r1, r2, r3, n1, n2]) rfl ?_
    exact ⟨⟨c, 0, 0, 0⟩, true, rfl, HE.out, ((((BL.out.setCell (p := ⟨w.heap.size + 1, 0, none⟩) (Nat.le_succ _) _).setCell (p := ⟨w.heap.size + 1, 1, none⟩) (Nat.le_succ _) _).setCell (p := ⟨w.heap.size + 1, 2, none⟩) (Nat.le_succ _) _).setCell (p := ⟨w.heap.size + 1, 3, none⟩) (Nat.le_succ _) _).drew⟩
end Go.Proofs.YtlneiiljdghmjaaDoor
