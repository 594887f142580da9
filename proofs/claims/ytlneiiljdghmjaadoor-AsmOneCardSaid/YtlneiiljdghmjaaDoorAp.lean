/- The statement AsmOne holds, over what the calls have to return: an instruction that isn't a jump has the same line at every place; one whose fields that aren't used are not 0 has none, and no program with it is written. -/
import Derived.Test.YtlneiiljdghmjaaDoorRows
import Derived.Test.YtlneiiljdghmjaaDoorCards
import Derived.Test.YtlneiiljdghmjaaDoorTie
import Derived.SevenTiedAt
import Derived.Test.YtlneiiljdghmjaaDoorWd
import Derived.Test.YtlneiiljdghmjaaDoorLw
import Derived.Test.YtlneiiljdghmjaaDoorHt
import Derived.Test.YtlneiiljdghmjaaDoorLx
import Derived.Test.YtlneiiljdghmjaaDoorAh
import Derived.Test.YtlneiiljdghmjaaDoorFi
import Derived.Test.YtlneiiljdghmjaaDoorId
import Derived.Deep.RegionHeld3
import Derived.BigQuiet
import Derived.Deep.QuietTactic
import Derived.Test.YtlneiiljdghmjaaDoorAm
namespace Go.Proofs.YtlneiiljdghmjaaDoor.asmOne
open Go.ChangeShapes Go.WideShapes Go.ChangeAt Go.RowKit
open Go.ChangeMaps (open_string shut_string)
set_option linter.unusedVariables false
attribute [local go_sem ↓] Go.wp_at_zero Go.wp_at_succ
theorem keepO {w v v0 w' : World} {c jt jf k : Int} (hb : Below v.heap.size v w') (h : v.cell? ⟨w.heap.size, 0, none⟩ = some (.int .u16 c) ∧ v.cell? ⟨w.heap.size, 1, none⟩ = some (.int .u8 jt) ∧ v.cell? ⟨w.heap.size, 2, none⟩ = some (.int .u8 jf) ∧ v.cell? ⟨w.heap.size, 3, none⟩ = some (.int .u32 k) ∧ Below v0.heap.size v0 v) : w'.cell? ⟨w.heap.size, 0, none⟩ = some (.int .u16 c) ∧ w'.cell? ⟨w.heap.size, 1, none⟩ = some (.int .u8 jt) ∧ w'.cell? ⟨w.heap.size, 2, none⟩ = some (.int .u8 jf) ∧ w'.cell? ⟨w.heap.size, 3, none⟩ = some (.int .u32 k) ∧ Below v0.heap.size v0 w' :=
  ⟨(hb.cell (World.block_lt_of_cell? v _ h.1)).trans h.1, (hb.cell (World.block_lt_of_cell? v _ h.2.1)).trans h.2.1, (hb.cell (World.block_lt_of_cell? v _ h.2.2.1)).trans h.2.2.1, (hb.cell (World.block_lt_of_cell? v _ h.2.2.2.1)).trans h.2.2.2.1, thn h.2.2.2.2 hb⟩
theorem newO (w : World) (c jt jf k : Int) : (w.alloc (.cells #[.int .u16 c, .int .u8 jt, .int .u8 jf, .int .u32 k] 33)).cell? ⟨w.heap.size, 0, none⟩ = some (.int .u16 c) ∧ (w.alloc (.cells #[.int .u16 c, .int .u8 jt, .int .u8 jf, .int .u32 k] 33)).cell? ⟨w.heap.size, 1, none⟩ = some (.int .u8 jt) ∧ (w.alloc (.cells #[.int .u16 c, .int .u8 jt, .int .u8 jf, .int .u32 k] 33)).cell? ⟨w.heap.size, 2, none⟩ = some (.int .u8 jf) ∧ (w.alloc (.cells #[.int .u16 c, .int .u8 jt, .int .u8 jf, .int .u32 k] 33)).cell? ⟨w.heap.size, 3, none⟩ = some (.int .u32 k) ∧ Below (w.alloc (.cells #[.int .u16 c, .int .u8 jt, .int .u8 jf, .int .u32 k] 33)).heap.size (w.alloc (.cells #[.int .u16 c, .int .u8 jt, .int .u8 jf, .int .u32 k] 33)) (w.alloc (.cells #[.int .u16 c, .int .u8 jt, .int .u8 jf, .int .u32 k] 33)) := by
  have hx := Below.refl (w.alloc (.cells #[.int .u16 c, .int .u8 jt, .int .u8 jf, .int .u32 k] 33)).heap.size (w.alloc (.cells #[.int .u16 c, .int .u8 jt, .int .u8 jf, .int .u32 k] 33))
  exact ⟨box_cells hx 0 _ rfl, box_cells hx 1 _ rfl, box_cells hx 2 _ rfl, box_cells hx 3 _ rfl, hx⟩
theorem redO {w v v0 : World} {c jt jf k : Int} (h : v.cell? ⟨w.heap.size, 0, none⟩ = some (.int .u16 c) ∧ v.cell? ⟨w.heap.size, 1, none⟩ = some (.int .u8 jt) ∧ v.cell? ⟨w.heap.size, 2, none⟩ = some (.int .u8 jf) ∧ v.cell? ⟨w.heap.size, 3, none⟩ = some (.int .u32 k) ∧ Below v0.heap.size v0 v) : v.drew.cell? ⟨w.heap.size, 0, none⟩ = some (.int .u16 c) ∧ v.drew.cell? ⟨w.heap.size, 1, none⟩ = some (.int .u8 jt) ∧ v.drew.cell? ⟨w.heap.size, 2, none⟩ = some (.int .u8 jf) ∧ v.drew.cell? ⟨w.heap.size, 3, none⟩ = some (.int .u32 k) ∧ Below v.heap.size v v.drew := ⟨h.1, h.2.1, h.2.2.1, h.2.2.2.1, (Below.refl _ _).drew⟩
/-- An instruction, and so many instructions tax behind it. -/
def txL (i : Ins) (m : Nat) : List Ins := i :: List.replicate m ⟨7, 0, 0, 0⟩
theorem txL_length (i : Ins) (m : Nat) : (txL i m).length = m + 1 := by unfold txL; rw [List.length_cons, List.length_replicate]
theorem txL_snoc (i : Ins) (m : Nat) : progC (txL i (m + 1)) = progC (txL i m) ++ insC ⟨7, 0, 0, 0⟩ := by
  unfold txL
  rw [List.replicate_succ', ← List.cons_append, progC_app]; rfl
theorem okl_tx {i : Ins} (hi : i.Ok) (m : Nat) : OkL (txL i m) := fun x hx => by
  rcases List.mem_cons.1 hx with h | h
  · rw [h]; exact hi
  · rw [List.eq_of_mem_replicate h]; constructor <;> decide
theorem tax_good (left : Int) : badI ⟨7, 0, 0, 0⟩ left = false := by
  unfold badI
  rw [show plainI ⟨7, 0, 0, 0⟩ = true from by decide +kernel, show shapeI 7 = 0 from by decide +kernel]; rfl
theorem can_tx (i : Ins) (n : Nat) : ∀ m, m ≤ n → canTo (txL i n) (m + 1) = !badI i n
  | 0, _ => by
    show (canTo (txL i n) 0 && (match (txL i n)[0]? with | none => true | some x => !badI x (((txL i n).length : Int) - 1 - ((0 : Nat) : Int)))) = _
    rw [txL_length]
    show (true && !badI i (((n + 1 : Nat) : Int) - 1 - ((0 : Nat) : Int))) = _
    rw [Bool.true_and, show (((n + 1 : Nat) : Int) - 1 - ((0 : Nat) : Int)) = n by omega]
  | m + 1, h => by
    have hx : (txL i n)[m + 1]? = some ⟨7, 0, 0, 0⟩ := by
      unfold txL
      rw [List.getElem?_cons_succ, List.getElem?_replicate, if_pos (by omega)]
    show (canTo (txL i n) (m + 1) && (match (txL i n)[m + 1]? with | none => true | some x => !badI x (((txL i n).length : Int) - 1 - ((m + 1 : Nat) : Int)))) = _
    rw [hx, can_tx i n m (by omega)]
    show (!badI i n && !badI ⟨7, 0, 0, 0⟩ _) = _
    rw [tax_good, Bool.not_false, Bool.and_true]
theorem canL_tx (i : Ins) : canL (txL i 258) = !badI i 258 := by
  unfold canL
  rw [txL_length, decide_eq_true (by omega), Bool.true_and]
  exact can_tx i 258 258 (Nat.le_refl _)
theorem plain_bad {i : Ins} {n : Int} (h : plainI i = false) : badI i n = true := by unfold badI; rw [h]; rfl
theorem shape_two {c : Int} (h : shapeI c = 2) : c = 5 := by
  unfold shapeI at h
  by_cases h1 : c = 128 ∨ c = 129 ∨ c = 132 ∨ c = 22
  · rw [if_pos h1] at h; exact absurd h (by decide)
  rw [if_neg h1] at h
  by_cases h2 : c = 5
  · exact h2
  rw [if_neg h2] at h
  by_cases h3 : clsA c = 1 ∨ clsA c = 2 ∨ clsA c = 5
  · rw [if_pos h3] at h; exact absurd h (by decide)
  rw [if_neg h3] at h
  by_cases h4 : clsA c = 3
  · rw [if_pos h4] at h; cases hx : withXB c <;> rw [hx] at h <;> exact absurd h (by decide)
  rw [if_neg h4] at h
  by_cases h5 : clsA c = 4
  · rw [if_pos h5] at h; cases hx : withXB c <;> rw [hx] at h <;> exact absurd h (by decide)
  rw [if_neg h5] at h; exact absurd h (by decide)
theorem shape_big {c : Int} (h : 2 < shapeI c) : clsA c = 4 := by
  unfold shapeI at h
  by_cases h1 : c = 128 ∨ c = 129 ∨ c = 132 ∨ c = 22
  · rw [if_pos h1] at h; exact absurd h (by decide)
  rw [if_neg h1] at h
  by_cases h2 : c = 5
  · rw [if_pos h2] at h; exact absurd h (by decide)
  rw [if_neg h2] at h
  by_cases h3 : clsA c = 1 ∨ clsA c = 2 ∨ clsA c = 5
  · rw [if_pos h3] at h; exact absurd h (by decide)
  rw [if_neg h3] at h
  by_cases h4 : clsA c = 3
  · rw [if_pos h4] at h; cases hx : withXB c <;> rw [hx] at h <;> exact absurd h (by decide)
  rw [if_neg h4] at h
  by_cases h5 : clsA c = 4
  · exact h5
  rw [if_neg h5] at h; exact absurd h (by decide)
theorem good_any {i : Ins} (hi : i.Ok) (h : plainI i = true) (h5 : i.c ≠ 5) : badI i 258 = false := by
  obtain ⟨_, _, _, t1, _, f1, _, _⟩ := hi
  unfold badI
  rw [h, beq_eq_false_iff_ne.2 (fun e => h5 (shape_two e)), decide_eq_false (show ¬ (258 : Int) ≤ i.jt by omega), decide_eq_false (show ¬ (258 : Int) ≤ i.jf by omega)]
  cases decide (2 < shapeI i.c) <;> rfl
theorem good_ja {i : Ins} (hi : i.Ok) (h : plainI i = true) (h5 : i.c = 5) : badI i 258 = decide ((258 : Int) ≤ i.k) := by
  unfold badI
  rw [h, h5, show shapeI 5 = 2 from by decide +kernel]
  cases decide ((258 : Int) ≤ i.k) <;> rfl
theorem line_same {i : Ins} (h4 : clsA i.c ≠ 4) {a b : Int} (ha : 0 ≤ a) (hb : 0 ≤ b) : lineI i a = lineI i b := by
  have h2 : shapeI i.c ≠ 2 := fun e => h4 (by rw [shape_two e]; decide +kernel)
  have h3 : ¬ 2 < shapeI i.c := fun e => h4 (shape_big e)
  have ho : opsI i a = opsI i b := by
    unfold opsI
    rw [if_neg h2, if_neg h2, if_neg h3, if_neg h3]
  unfold lineI
  rw [ho]
  by_cases hp : plainI i = false
  · rw [if_pos (Or.inl hp), if_pos (Or.inl hp)]
  · rw [if_neg (show ¬ (plainI i = false ∨ a < 0) from fun e => e.elim hp (by omega)), if_neg (show ¬ (plainI i = false ∨ b < 0) from fun e => e.elim hp (by omega))]
theorem line_none {i : Ins} (h : plainI i = false) (a : Int) : lineI i a = [] := by unfold lineI; rw [if_pos (Or.inl h)]
theorem empty_no {l : List UInt8} (h : l ≠ []) : (bs l).toList.isEmpty = false := by
  rw [ByteArray.toList_eq, bs_list]
  cases l with
  | nil => exact absurd rfl h
  | cons => rfl
/-- What insn.Of has to return. -/
def OfA (G : World → Prop) : Prop := ∀ (c : Int) (w : World), G w → 0 ≤ c → c < 65536 → Calls Tryd.prog 20 #[.int .u16 c] w fun e w' => e = .returned (.int .u8 (clsA c)) ∧ Below w.heap.size w w'
set_option maxRecDepth 100000 in
set_option maxHeartbeats 16000000 in
theorem core_e {G : World → Prop} (HON : ∀ (w w' : World), G w → Below w.heap.size w w' → G w') (c jt jf k a b : Int)  (t : Int) (ht : t ≠ 4) (w : World) (a0 : 0 ≤ a) (a1 : a ≤ 4000) (b0 : 0 ≤ b) (b1 : b ≤ 4000) 
    (hi : (⟨c, jt, jf, k⟩ : Ins).Ok) (HA : Calls Tryd.prog 18 #[] (w.alloc (.cells #[.int .u16 c, .int .u8 jt, .int .u8 jf, .int .u32 k] 33)) fun e w' => e = .returned (.bool true) ∧ Below (w.alloc (.cells #[.int .u16 c, .int .u8 jt, .int .u8 jf, .int .u32 k] 33)).heap.size (w.alloc (.cells #[.int .u16 c, .int .u8 jt, .int .u8 jf, .int .u32 k] 33)) w') (hG : G (w.alloc (.cells #[.int .u16 c, .int .u8 jt, .int .u8 jf, .int .u32 k] 33)))
    (HLA : ∀ W, G W → Calls Tryd.prog 15 #[.agg #[.int .u16 c, .int .u8 jt, .int .u8 jf, .int .u32 k], .int .i64 a] W fun e w' => e = .returned (.string ⟨#[]⟩) ∧ Below W.heap.size W w')
    (HLB : ∀ W, G W → Calls Tryd.prog 15 #[.agg #[.int .u16 c, .int .u8 jt, .int .u8 jf, .int .u32 k], .int .i64 b] W fun e w' => e = .returned (.string ⟨#[]⟩) ∧ Below W.heap.size W w')
    (HO : ∀ W, G W → Calls Tryd.prog 20 #[.int .u16 c] W fun e w' => e = .returned (.int .u8 t) ∧ Below W.heap.size W w')
    (HCN : ∀ (W : World) (q : Option Addr) (d : Nat), G W → 259 ≤ d → d ≤ maxLen → (q = none → d = 0) → RdI W W.heap.size q (txL ⟨c, jt, jf, k⟩ 258) → Calls Tryd.prog 11 #[.slice q 259 d] W fun e w' => e = .returned (.bool false) ∧ Below W.heap.size W w') :
    Calls Tryd.prog 8 #[.agg #[.int .u16 c, .int .u8 jt, .int .u8 jf, .int .u32 k], .int .i64 a, .int .i64 b] w fun e w' => e = .returned (.bool true) ∧ Below w.heap.size w w' := by
  obtain ⟨i0, hi', hz0, hz1, hz2⟩ := info_parts insn_info
  have HI := Lib.hid hi'
  have H0 := Lib.hid hz0
  have H1 := Lib.hid hz1
  have H2 := Lib.hid hz2
  have HON := Lib.hid HON
  have HA := Lib.hid HA
  have HG := Lib.hid hG
  have HLA := Lib.hid HLA
  have HLB := Lib.hid HLB
  have HO := Lib.hid HO
  have HCN := Lib.hid HCN
  have HB := Lib.hid (newO w c jt jf k)
  have HB0 := Lib.hid (show Below w.heap.size w (w.alloc (.cells #[.int .u16 c, .int .u8 jt, .int .u8 jf, .int .u32 k] 33)) from (Below.refl _ _).alloc (Nat.le_refl _) _)
  clear hi hG hi' hz0 hz1 hz2
  have ht4 : (t == 4) = false := beq_eq_false_iff_ne.2 ht
  go_enter Tryd.func8, Tryd.ntmps8
  go_wp2_with (go_at_call 18; ((with_reducible refine (HA.out).mono ?_); rintro e v1 ⟨rfl, p1⟩); have G1 := Lib.hid (HON.out _ _ HG.out p1); have Q1 := Lib.hid (keepO p1 HB.out); have P1 := Lib.hid (thn HB0.out p1); clear p1)
  go_region_held3 (fun w' => w'.cell? ⟨w.heap.size, 0, none⟩ = some (.int .u16 c) ∧ w'.cell? ⟨w.heap.size, 1, none⟩ = some (.int .u8 jt) ∧ w'.cell? ⟨w.heap.size, 2, none⟩ = some (.int .u8 jf) ∧ w'.cell? ⟨w.heap.size, 3, none⟩ = some (.int .u32 k) ∧ Below v1.heap.size v1 w') (first | with_reducible assumption | (with_reducible exact redO Q1.out) | (with_reducible exact keepO (by assumption) (by assumption))) (first
    | (go_at_call 15; ((with_reducible refine (HLA.out _ (HON.out _ _ G1.out (by assumption : _ ∧ _ ∧ _ ∧ _ ∧ Below v1.heap.size v1 _).2.2.2.2)).mono ?_)); rintro e v2 ⟨rfl, p2⟩)
    | (go_at_call 15; ((with_reducible refine (HLB.out _ (HON.out _ _ G1.out (by assumption : _ ∧ _ ∧ _ ∧ _ ∧ Below v1.heap.size v1 _).2.2.2.2)).mono ?_)); rintro e v3 ⟨rfl, p3⟩))
  have QE := (by assumption : _ ∧ _ ∧ _ ∧ _ ∧ Below _ _ _)
  have GE := Lib.hid (HON.out _ _ G1.out QE.2.2.2.2)
  have PE := Lib.hid (thn P1.out QE.2.2.2.2)
  have QH := Lib.hid QE
  obtain ⟨q0, q1, q2, q3, _⟩ := QH.out
  clear QE
  go_wp2_with (go_at_call 20; ((with_reducible refine (HO.out _ GE.out).mono ?_); rintro e v4 ⟨rfl, p4⟩); have Q4 := Lib.hid (keepO p4 QH.out); obtain ⟨r0, r1, r2, r3, _⟩ := Q4.out; have G4 := Lib.hid (HON.out _ _ GE.out p4); have P4 := Lib.hid (thn PE.out p4); clear p4)
  have OW := Lib.hid (World.ownsRow_lit (size := 4) v4 #[.int .u16 c, .int .u8 jt, .int .u8 jf, .int .u32 k] (e := 33) 1 (Nat.le_refl _) (by unfold maxLen; omega) rfl)
  have OB := Lib.hid ((Below.refl v4.heap.size v4).alloc (Nat.le_refl _) (.cells #[.int .u16 c, .int .u8 jt, .int .u8 jf, .int .u32 k] 33))
  clear q0 q1 q2 q3 r0 r1 r2 r3
  go_loopw [10, 11] (fun v10 v11 wr => ∃ m : Nat, m ≤ 258 ∧ v11 = .int .i64 m ∧ Hid (wr.ownsRow v4.heap.size 33 4 v10 (m + 1) (progC (txL ⟨c, jt, jf, k⟩ m))) ∧ Hid (Below v4.heap.size v4 wr)) (fun _ v11 _ => 258 - (intOf v11).toNat)
  case atStart => exact ⟨0, by omega, rfl, OW, OB⟩
  case round =>
    clear OW OB
    obtain ⟨m, hm, rfl, PO, PB⟩ := hrel
    obtain ⟨W, rfl⟩ : ∃ wo : World, wo = wr := ⟨_, rfl⟩
    by_cases hlt : m < 258
    · have m1 : (m : Int) < 258 := by omega
      have hst := Lib.hid (txL_snoc ⟨c, jt, jf, k⟩ m)
      have hsz := PB.out.size
      go_wp2_with (first
        | (at_builtin
           refine wpList_append_own _ rfl (.tmp 59) (.tmp 61) 22 rfl v4.heap.size 33 i0 _ 4 8 Tryd.underlying22 HI.out H0.out H1.out H2.out rfl (by omega) _ (m + 1) (progC (txL ⟨c, jt, jf, k⟩ m)) rfl (PO.out.alloc _) ⟨W.heap.size, 0, none⟩ 1 1 (insC ⟨7, 0, 0, 0⟩) rfl rfl (news_lit W _ _ _ rfl) (insC_one _) (by unfold maxLen; omega) (by omega) (by simp; omega) ?_
           intro v5 w5 o5 hg5 _
           have O5 := Lib.hid o5
           have B5 := Lib.hid ((PB.out.alloc hsz _).grown hg5 (by simp; omega) (fun g hg => (PO.out.lt g hg).1))
           clear o5 hg5))
      go_roundw
      case rel => exact ⟨m + 1, by omega, by go_num, Lib.hid (by rw [hst.out]; exact O5.out), B5⟩
      case measure => simp [intOf]; omega
    · obtain rfl : m = 258 := by omega
      obtain ⟨q, d, hv, hr, hn, hd⟩ := own_shapeI PO.out
      subst hv
      have hmx := (own_shapeI' PO.out).2.2.2
      have GW' := Lib.hid (HON.out _ _ G4.out PB.out)
      have HCW := Lib.hid (HCN.out W q d GW'.out hd hmx hn hr)
      have QW := Lib.hid (keepO PB.out Q4.out)
      clear hr hn hd hmx
      go_wp2_with (go_at_call 11; ((with_reducible refine (HCW.out).mono ?_); rintro e v6 ⟨rfl, p6⟩); obtain ⟨z0, z1, z2, z3, _⟩ := keepO p6 QW.out)
      go_ret
      exact ⟨by first | rfl | simp, thn (thn P4.out PB.out) p6⟩
set_option maxRecDepth 100000 in
set_option maxHeartbeats 16000000 in
theorem core_e4 {G : World → Prop} (HON : ∀ (w w' : World), G w → Below w.heap.size w w' → G w') (c jt jf k a b : Int)   (w : World) (a0 : 0 ≤ a) (a1 : a ≤ 4000) (b0 : 0 ≤ b) (b1 : b ≤ 4000) 
    (hi : (⟨c, jt, jf, k⟩ : Ins).Ok) (HA : Calls Tryd.prog 18 #[] (w.alloc (.cells #[.int .u16 c, .int .u8 jt, .int .u8 jf, .int .u32 k] 33)) fun e w' => e = .returned (.bool true) ∧ Below (w.alloc (.cells #[.int .u16 c, .int .u8 jt, .int .u8 jf, .int .u32 k] 33)).heap.size (w.alloc (.cells #[.int .u16 c, .int .u8 jt, .int .u8 jf, .int .u32 k] 33)) w') (hG : G (w.alloc (.cells #[.int .u16 c, .int .u8 jt, .int .u8 jf, .int .u32 k] 33)))
    (HLA : ∀ W, G W → Calls Tryd.prog 15 #[.agg #[.int .u16 c, .int .u8 jt, .int .u8 jf, .int .u32 k], .int .i64 a] W fun e w' => e = .returned (.string ⟨#[]⟩) ∧ Below W.heap.size W w')
    (HLB : ∀ W, G W → Calls Tryd.prog 15 #[.agg #[.int .u16 c, .int .u8 jt, .int .u8 jf, .int .u32 k], .int .i64 b] W fun e w' => e = .returned (.string ⟨#[]⟩) ∧ Below W.heap.size W w')
    (HO : ∀ W, G W → Calls Tryd.prog 20 #[.int .u16 c] W fun e w' => e = .returned (.int .u8 4) ∧ Below W.heap.size W w')
    (HCN : ∀ (W : World) (q : Option Addr) (d : Nat), G W → 259 ≤ d → d ≤ maxLen → (q = none → d = 0) → RdI W W.heap.size q (txL ⟨c, jt, jf, k⟩ 258) → Calls Tryd.prog 11 #[.slice q 259 d] W fun e w' => e = .returned (.bool false) ∧ Below W.heap.size W w') :
    Calls Tryd.prog 8 #[.agg #[.int .u16 c, .int .u8 jt, .int .u8 jf, .int .u32 k], .int .i64 a, .int .i64 b] w fun e w' => e = .returned (.bool true) ∧ Below w.heap.size w w' := by
  obtain ⟨i0, hi', hz0, hz1, hz2⟩ := info_parts insn_info
  have HI := Lib.hid hi'
  have H0 := Lib.hid hz0
  have H1 := Lib.hid hz1
  have H2 := Lib.hid hz2
  have HON := Lib.hid HON
  have HA := Lib.hid HA
  have HG := Lib.hid hG
  have HLA := Lib.hid HLA
  have HLB := Lib.hid HLB
  have HO := Lib.hid HO
  have HCN := Lib.hid HCN
  have HB := Lib.hid (newO w c jt jf k)
  have HB0 := Lib.hid (show Below w.heap.size w (w.alloc (.cells #[.int .u16 c, .int .u8 jt, .int .u8 jf, .int .u32 k] 33)) from (Below.refl _ _).alloc (Nat.le_refl _) _)
  clear hi hG hi' hz0 hz1 hz2
  go_enter Tryd.func8, Tryd.ntmps8
  go_wp2_with (go_at_call 18; ((with_reducible refine (HA.out).mono ?_); rintro e v1 ⟨rfl, p1⟩); have G1 := Lib.hid (HON.out _ _ HG.out p1); have Q1 := Lib.hid (keepO p1 HB.out); have P1 := Lib.hid (thn HB0.out p1); clear p1)
  go_region_held3 (fun w' => w'.cell? ⟨w.heap.size, 0, none⟩ = some (.int .u16 c) ∧ w'.cell? ⟨w.heap.size, 1, none⟩ = some (.int .u8 jt) ∧ w'.cell? ⟨w.heap.size, 2, none⟩ = some (.int .u8 jf) ∧ w'.cell? ⟨w.heap.size, 3, none⟩ = some (.int .u32 k) ∧ Below v1.heap.size v1 w') (first | with_reducible assumption | (with_reducible exact redO Q1.out) | (with_reducible exact keepO (by assumption) (by assumption))) (first
    | (go_at_call 15; ((with_reducible refine (HLA.out _ (HON.out _ _ G1.out (by assumption : _ ∧ _ ∧ _ ∧ _ ∧ Below v1.heap.size v1 _).2.2.2.2)).mono ?_)); rintro e v2 ⟨rfl, p2⟩)
    | (go_at_call 15; ((with_reducible refine (HLB.out _ (HON.out _ _ G1.out (by assumption : _ ∧ _ ∧ _ ∧ _ ∧ Below v1.heap.size v1 _).2.2.2.2)).mono ?_)); rintro e v3 ⟨rfl, p3⟩))
  have QE := (by assumption : _ ∧ _ ∧ _ ∧ _ ∧ Below _ _ _)
  have GE := Lib.hid (HON.out _ _ G1.out QE.2.2.2.2)
  have PE := Lib.hid (thn P1.out QE.2.2.2.2)
  have QH := Lib.hid QE
  obtain ⟨q0, q1, q2, q3, _⟩ := QH.out
  clear QE
  go_wp2_with (go_at_call 20; ((with_reducible refine (HO.out _ GE.out).mono ?_); rintro e v4 ⟨rfl, p4⟩); have Q4 := Lib.hid (keepO p4 QH.out); obtain ⟨r0, r1, r2, r3, _⟩ := Q4.out; have G4 := Lib.hid (HON.out _ _ GE.out p4); have P4 := Lib.hid (thn PE.out p4); clear p4)
  have OW := Lib.hid (World.ownsRow_lit (size := 4) v4 #[.int .u16 c, .int .u8 jt, .int .u8 jf, .int .u32 k] (e := 33) 1 (Nat.le_refl _) (by unfold maxLen; omega) rfl)
  have OB := Lib.hid ((Below.refl v4.heap.size v4).alloc (Nat.le_refl _) (.cells #[.int .u16 c, .int .u8 jt, .int .u8 jf, .int .u32 k] 33))
  clear q0 q1 q2 q3 r0 r1 r2 r3
  go_loopw [10, 11] (fun v10 v11 wr => ∃ m : Nat, m ≤ 258 ∧ v11 = .int .i64 m ∧ Hid (wr.ownsRow v4.heap.size 33 4 v10 (m + 1) (progC (txL ⟨c, jt, jf, k⟩ m))) ∧ Hid (Below v4.heap.size v4 wr)) (fun _ v11 _ => 258 - (intOf v11).toNat)
  case atStart => exact ⟨0, by omega, rfl, OW, OB⟩
  case round =>
    clear OW OB
    obtain ⟨m, hm, rfl, PO, PB⟩ := hrel
    obtain ⟨W, rfl⟩ : ∃ wo : World, wo = wr := ⟨_, rfl⟩
    by_cases hlt : m < 258
    · have m1 : (m : Int) < 258 := by omega
      have hst := Lib.hid (txL_snoc ⟨c, jt, jf, k⟩ m)
      have hsz := PB.out.size
      go_wp2_with (first
        | (at_builtin
           refine wpList_append_own _ rfl (.tmp 59) (.tmp 61) 22 rfl v4.heap.size 33 i0 _ 4 8 Tryd.underlying22 HI.out H0.out H1.out H2.out rfl (by omega) _ (m + 1) (progC (txL ⟨c, jt, jf, k⟩ m)) rfl (PO.out.alloc _) ⟨W.heap.size, 0, none⟩ 1 1 (insC ⟨7, 0, 0, 0⟩) rfl rfl (news_lit W _ _ _ rfl) (insC_one _) (by unfold maxLen; omega) (by omega) (by simp; omega) ?_
           intro v5 w5 o5 hg5 _
           have O5 := Lib.hid o5
           have B5 := Lib.hid ((PB.out.alloc hsz _).grown hg5 (by simp; omega) (fun g hg => (PO.out.lt g hg).1))
           clear o5 hg5))
      go_roundw
      case rel => exact ⟨m + 1, by omega, by go_num, Lib.hid (by rw [hst.out]; exact O5.out), B5⟩
      case measure => simp [intOf]; omega
    · obtain rfl : m = 258 := by omega
      obtain ⟨q, d, hv, hr, hn, hd⟩ := own_shapeI PO.out
      subst hv
      have hmx := (own_shapeI' PO.out).2.2.2
      have GW' := Lib.hid (HON.out _ _ G4.out PB.out)
      have HCW := Lib.hid (HCN.out W q d GW'.out hd hmx hn hr)
      have QW := Lib.hid (keepO PB.out Q4.out)
      clear hr hn hd hmx
      go_wp2_with (go_at_call 11; ((with_reducible refine (HCW.out).mono ?_); rintro e v6 ⟨rfl, p6⟩); obtain ⟨z0, z1, z2, z3, _⟩ := keepO p6 QW.out)
      go_ret
      exact ⟨by first | rfl | simp, thn (thn P4.out PB.out) p6⟩
set_option maxRecDepth 100000 in
set_option maxHeartbeats 16000000 in
theorem core_nx {G : World → Prop} (HON : ∀ (w w' : World), G w → Below w.heap.size w w' → G w') (c jt jf k a b : Int) (x : ByteArray) (t : Int) (ht : t ≠ 4) (w : World) (a0 : 0 ≤ a) (a1 : a ≤ 4000) (b0 : 0 ≤ b) (b1 : b ≤ 4000) (hx : x.toList.isEmpty = false)
    (hi : (⟨c, jt, jf, k⟩ : Ins).Ok) (HA : Calls Tryd.prog 18 #[] (w.alloc (.cells #[.int .u16 c, .int .u8 jt, .int .u8 jf, .int .u32 k] 33)) fun e w' => e = .returned (.bool true) ∧ Below (w.alloc (.cells #[.int .u16 c, .int .u8 jt, .int .u8 jf, .int .u32 k] 33)).heap.size (w.alloc (.cells #[.int .u16 c, .int .u8 jt, .int .u8 jf, .int .u32 k] 33)) w') (hG : G (w.alloc (.cells #[.int .u16 c, .int .u8 jt, .int .u8 jf, .int .u32 k] 33)))
    (HLA : ∀ W, G W → Calls Tryd.prog 15 #[.agg #[.int .u16 c, .int .u8 jt, .int .u8 jf, .int .u32 k], .int .i64 a] W fun e w' => e = .returned (.string x) ∧ Below W.heap.size W w')
    (HLB : ∀ W, G W → Calls Tryd.prog 15 #[.agg #[.int .u16 c, .int .u8 jt, .int .u8 jf, .int .u32 k], .int .i64 b] W fun e w' => e = .returned (.string x) ∧ Below W.heap.size W w')
    (HO : ∀ W, G W → Calls Tryd.prog 20 #[.int .u16 c] W fun e w' => e = .returned (.int .u8 t) ∧ Below W.heap.size W w')
    (HCN : ∀ (W : World) (q : Option Addr) (d : Nat), G W → 259 ≤ d → d ≤ maxLen → (q = none → d = 0) → RdI W W.heap.size q (txL ⟨c, jt, jf, k⟩ 258) → Calls Tryd.prog 11 #[.slice q 259 d] W fun e w' => e = .returned (.bool true) ∧ Below W.heap.size W w') :
    Calls Tryd.prog 8 #[.agg #[.int .u16 c, .int .u8 jt, .int .u8 jf, .int .u32 k], .int .i64 a, .int .i64 b] w fun e w' => e = .returned (.bool true) ∧ Below w.heap.size w w' := by
  obtain ⟨i0, hi', hz0, hz1, hz2⟩ := info_parts insn_info
  have HI := Lib.hid hi'
  have H0 := Lib.hid hz0
  have H1 := Lib.hid hz1
  have H2 := Lib.hid hz2
  have HON := Lib.hid HON
  have HA := Lib.hid HA
  have HG := Lib.hid hG
  have HLA := Lib.hid HLA
  have HLB := Lib.hid HLB
  have HO := Lib.hid HO
  have HCN := Lib.hid HCN
  have HB := Lib.hid (newO w c jt jf k)
  have HB0 := Lib.hid (show Below w.heap.size w (w.alloc (.cells #[.int .u16 c, .int .u8 jt, .int .u8 jf, .int .u32 k] 33)) from (Below.refl _ _).alloc (Nat.le_refl _) _)
  clear hi hG hi' hz0 hz1 hz2
  have ht4 : (t == 4) = false := beq_eq_false_iff_ne.2 ht
  have t1 : (x.toList == x.toList) = true := by simp
  go_enter Tryd.func8, Tryd.ntmps8
  go_wp2_with (go_at_call 18; ((with_reducible refine (HA.out).mono ?_); rintro e v1 ⟨rfl, p1⟩); have G1 := Lib.hid (HON.out _ _ HG.out p1); have Q1 := Lib.hid (keepO p1 HB.out); have P1 := Lib.hid (thn HB0.out p1); clear p1)
  go_region_held3 (fun w' => w'.cell? ⟨w.heap.size, 0, none⟩ = some (.int .u16 c) ∧ w'.cell? ⟨w.heap.size, 1, none⟩ = some (.int .u8 jt) ∧ w'.cell? ⟨w.heap.size, 2, none⟩ = some (.int .u8 jf) ∧ w'.cell? ⟨w.heap.size, 3, none⟩ = some (.int .u32 k) ∧ Below v1.heap.size v1 w') (first | with_reducible assumption | (with_reducible exact redO Q1.out) | (with_reducible exact keepO (by assumption) (by assumption))) (first
    | (go_at_call 15; ((with_reducible refine (HLA.out _ (HON.out _ _ G1.out (by assumption : _ ∧ _ ∧ _ ∧ _ ∧ Below v1.heap.size v1 _).2.2.2.2)).mono ?_)); rintro e v2 ⟨rfl, p2⟩)
    | (go_at_call 15; ((with_reducible refine (HLB.out _ (HON.out _ _ G1.out (by assumption : _ ∧ _ ∧ _ ∧ _ ∧ Below v1.heap.size v1 _).2.2.2.2)).mono ?_)); rintro e v3 ⟨rfl, p3⟩))
  have QE := (by assumption : _ ∧ _ ∧ _ ∧ _ ∧ Below _ _ _)
  have GE := Lib.hid (HON.out _ _ G1.out QE.2.2.2.2)
  have PE := Lib.hid (thn P1.out QE.2.2.2.2)
  have QH := Lib.hid QE
  obtain ⟨q0, q1, q2, q3, _⟩ := QH.out
  clear QE
  go_wp2_with (go_at_call 20; ((with_reducible refine (HO.out _ GE.out).mono ?_); rintro e v4 ⟨rfl, p4⟩); have Q4 := Lib.hid (keepO p4 QH.out); obtain ⟨r0, r1, r2, r3, _⟩ := Q4.out; have G4 := Lib.hid (HON.out _ _ GE.out p4); have P4 := Lib.hid (thn PE.out p4); clear p4)
  have OW := Lib.hid (World.ownsRow_lit (size := 4) v4 #[.int .u16 c, .int .u8 jt, .int .u8 jf, .int .u32 k] (e := 33) 1 (Nat.le_refl _) (by unfold maxLen; omega) rfl)
  have OB := Lib.hid ((Below.refl v4.heap.size v4).alloc (Nat.le_refl _) (.cells #[.int .u16 c, .int .u8 jt, .int .u8 jf, .int .u32 k] 33))
  clear q0 q1 q2 q3 r0 r1 r2 r3
  go_loopw [10, 11] (fun v10 v11 wr => ∃ m : Nat, m ≤ 258 ∧ v11 = .int .i64 m ∧ Hid (wr.ownsRow v4.heap.size 33 4 v10 (m + 1) (progC (txL ⟨c, jt, jf, k⟩ m))) ∧ Hid (Below v4.heap.size v4 wr)) (fun _ v11 _ => 258 - (intOf v11).toNat)
  case atStart => exact ⟨0, by omega, rfl, OW, OB⟩
  case round =>
    clear OW OB
    obtain ⟨m, hm, rfl, PO, PB⟩ := hrel
    obtain ⟨W, rfl⟩ : ∃ wo : World, wo = wr := ⟨_, rfl⟩
    by_cases hlt : m < 258
    · have m1 : (m : Int) < 258 := by omega
      have hst := Lib.hid (txL_snoc ⟨c, jt, jf, k⟩ m)
      have hsz := PB.out.size
      go_wp2_with (first
        | (at_builtin
           refine wpList_append_own _ rfl (.tmp 59) (.tmp 61) 22 rfl v4.heap.size 33 i0 _ 4 8 Tryd.underlying22 HI.out H0.out H1.out H2.out rfl (by omega) _ (m + 1) (progC (txL ⟨c, jt, jf, k⟩ m)) rfl (PO.out.alloc _) ⟨W.heap.size, 0, none⟩ 1 1 (insC ⟨7, 0, 0, 0⟩) rfl rfl (news_lit W _ _ _ rfl) (insC_one _) (by unfold maxLen; omega) (by omega) (by simp; omega) ?_
           intro v5 w5 o5 hg5 _
           have O5 := Lib.hid o5
           have B5 := Lib.hid ((PB.out.alloc hsz _).grown hg5 (by simp; omega) (fun g hg => (PO.out.lt g hg).1))
           clear o5 hg5))
      go_roundw
      case rel => exact ⟨m + 1, by omega, by go_num, Lib.hid (by rw [hst.out]; exact O5.out), B5⟩
      case measure => simp [intOf]; omega
    · obtain rfl : m = 258 := by omega
      obtain ⟨q, d, hv, hr, hn, hd⟩ := own_shapeI PO.out
      subst hv
      have hmx := (own_shapeI' PO.out).2.2.2
      have GW' := Lib.hid (HON.out _ _ G4.out PB.out)
      have HCW := Lib.hid (HCN.out W q d GW'.out hd hmx hn hr)
      have QW := Lib.hid (keepO PB.out Q4.out)
      clear hr hn hd hmx
      go_wp2_with (go_at_call 11; ((with_reducible refine (HCW.out).mono ?_); rintro e v6 ⟨rfl, p6⟩); obtain ⟨z0, z1, z2, z3, _⟩ := keepO p6 QW.out)
      go_ret
      exact ⟨by first | rfl | simp, thn (thn P4.out PB.out) p6⟩
set_option maxRecDepth 100000 in
set_option maxHeartbeats 16000000 in
theorem core_n4 {G : World → Prop} (HON : ∀ (w w' : World), G w → Below w.heap.size w w' → G w') (c jt jf k a b : Int) (x y : ByteArray)  (w : World) (a0 : 0 ≤ a) (a1 : a ≤ 4000) (b0 : 0 ≤ b) (b1 : b ≤ 4000) (hx : x.toList.isEmpty = false) (hy : y.toList.isEmpty = false)
    (hi : (⟨c, jt, jf, k⟩ : Ins).Ok) (HA : Calls Tryd.prog 18 #[] (w.alloc (.cells #[.int .u16 c, .int .u8 jt, .int .u8 jf, .int .u32 k] 33)) fun e w' => e = .returned (.bool true) ∧ Below (w.alloc (.cells #[.int .u16 c, .int .u8 jt, .int .u8 jf, .int .u32 k] 33)).heap.size (w.alloc (.cells #[.int .u16 c, .int .u8 jt, .int .u8 jf, .int .u32 k] 33)) w') (hG : G (w.alloc (.cells #[.int .u16 c, .int .u8 jt, .int .u8 jf, .int .u32 k] 33)))
    (HLA : ∀ W, G W → Calls Tryd.prog 15 #[.agg #[.int .u16 c, .int .u8 jt, .int .u8 jf, .int .u32 k], .int .i64 a] W fun e w' => e = .returned (.string x) ∧ Below W.heap.size W w')
    (HLB : ∀ W, G W → Calls Tryd.prog 15 #[.agg #[.int .u16 c, .int .u8 jt, .int .u8 jf, .int .u32 k], .int .i64 b] W fun e w' => e = .returned (.string y) ∧ Below W.heap.size W w')
    (HO : ∀ W, G W → Calls Tryd.prog 20 #[.int .u16 c] W fun e w' => e = .returned (.int .u8 4) ∧ Below W.heap.size W w')
    (HCN : ∀ (W : World) (q : Option Addr) (d : Nat), G W → 259 ≤ d → d ≤ maxLen → (q = none → d = 0) → RdI W W.heap.size q (txL ⟨c, jt, jf, k⟩ 258) → Calls Tryd.prog 11 #[.slice q 259 d] W fun e w' => e = .returned (.bool true) ∧ Below W.heap.size W w') :
    Calls Tryd.prog 8 #[.agg #[.int .u16 c, .int .u8 jt, .int .u8 jf, .int .u32 k], .int .i64 a, .int .i64 b] w fun e w' => e = .returned (.bool true) ∧ Below w.heap.size w w' := by
  obtain ⟨i0, hi', hz0, hz1, hz2⟩ := info_parts insn_info
  have HI := Lib.hid hi'
  have H0 := Lib.hid hz0
  have H1 := Lib.hid hz1
  have H2 := Lib.hid hz2
  have HON := Lib.hid HON
  have HA := Lib.hid HA
  have HG := Lib.hid hG
  have HLA := Lib.hid HLA
  have HLB := Lib.hid HLB
  have HO := Lib.hid HO
  have HCN := Lib.hid HCN
  have HB := Lib.hid (newO w c jt jf k)
  have HB0 := Lib.hid (show Below w.heap.size w (w.alloc (.cells #[.int .u16 c, .int .u8 jt, .int .u8 jf, .int .u32 k] 33)) from (Below.refl _ _).alloc (Nat.le_refl _) _)
  clear hi hG hi' hz0 hz1 hz2
  go_enter Tryd.func8, Tryd.ntmps8
  go_wp2_with (go_at_call 18; ((with_reducible refine (HA.out).mono ?_); rintro e v1 ⟨rfl, p1⟩); have G1 := Lib.hid (HON.out _ _ HG.out p1); have Q1 := Lib.hid (keepO p1 HB.out); have P1 := Lib.hid (thn HB0.out p1); clear p1)
  go_region_held3 (fun w' => w'.cell? ⟨w.heap.size, 0, none⟩ = some (.int .u16 c) ∧ w'.cell? ⟨w.heap.size, 1, none⟩ = some (.int .u8 jt) ∧ w'.cell? ⟨w.heap.size, 2, none⟩ = some (.int .u8 jf) ∧ w'.cell? ⟨w.heap.size, 3, none⟩ = some (.int .u32 k) ∧ Below v1.heap.size v1 w') (first | with_reducible assumption | (with_reducible exact redO Q1.out) | (with_reducible exact keepO (by assumption) (by assumption))) (first
    | (go_at_call 15; ((with_reducible refine (HLA.out _ (HON.out _ _ G1.out (by assumption : _ ∧ _ ∧ _ ∧ _ ∧ Below v1.heap.size v1 _).2.2.2.2)).mono ?_)); rintro e v2 ⟨rfl, p2⟩)
    | (go_at_call 15; ((with_reducible refine (HLB.out _ (HON.out _ _ G1.out (by assumption : _ ∧ _ ∧ _ ∧ _ ∧ Below v1.heap.size v1 _).2.2.2.2)).mono ?_)); rintro e v3 ⟨rfl, p3⟩))
  have QE := (by assumption : _ ∧ _ ∧ _ ∧ _ ∧ Below _ _ _)
  have GE := Lib.hid (HON.out _ _ G1.out QE.2.2.2.2)
  have PE := Lib.hid (thn P1.out QE.2.2.2.2)
  have QH := Lib.hid QE
  obtain ⟨q0, q1, q2, q3, _⟩ := QH.out
  clear QE
  go_wp2_with (go_at_call 20; ((with_reducible refine (HO.out _ GE.out).mono ?_); rintro e v4 ⟨rfl, p4⟩); have Q4 := Lib.hid (keepO p4 QH.out); obtain ⟨r0, r1, r2, r3, _⟩ := Q4.out; have G4 := Lib.hid (HON.out _ _ GE.out p4); have P4 := Lib.hid (thn PE.out p4); clear p4)
  have OW := Lib.hid (World.ownsRow_lit (size := 4) v4 #[.int .u16 c, .int .u8 jt, .int .u8 jf, .int .u32 k] (e := 33) 1 (Nat.le_refl _) (by unfold maxLen; omega) rfl)
  have OB := Lib.hid ((Below.refl v4.heap.size v4).alloc (Nat.le_refl _) (.cells #[.int .u16 c, .int .u8 jt, .int .u8 jf, .int .u32 k] 33))
  clear q0 q1 q2 q3 r0 r1 r2 r3
  go_loopw [10, 11] (fun v10 v11 wr => ∃ m : Nat, m ≤ 258 ∧ v11 = .int .i64 m ∧ Hid (wr.ownsRow v4.heap.size 33 4 v10 (m + 1) (progC (txL ⟨c, jt, jf, k⟩ m))) ∧ Hid (Below v4.heap.size v4 wr)) (fun _ v11 _ => 258 - (intOf v11).toNat)
  case atStart => exact ⟨0, by omega, rfl, OW, OB⟩
  case round =>
    clear OW OB
    obtain ⟨m, hm, rfl, PO, PB⟩ := hrel
    obtain ⟨W, rfl⟩ : ∃ wo : World, wo = wr := ⟨_, rfl⟩
    by_cases hlt : m < 258
    · have m1 : (m : Int) < 258 := by omega
      have hst := Lib.hid (txL_snoc ⟨c, jt, jf, k⟩ m)
      have hsz := PB.out.size
      go_wp2_with (first
        | (at_builtin
           refine wpList_append_own _ rfl (.tmp 59) (.tmp 61) 22 rfl v4.heap.size 33 i0 _ 4 8 Tryd.underlying22 HI.out H0.out H1.out H2.out rfl (by omega) _ (m + 1) (progC (txL ⟨c, jt, jf, k⟩ m)) rfl (PO.out.alloc _) ⟨W.heap.size, 0, none⟩ 1 1 (insC ⟨7, 0, 0, 0⟩) rfl rfl (news_lit W _ _ _ rfl) (insC_one _) (by unfold maxLen; omega) (by omega) (by simp; omega) ?_
           intro v5 w5 o5 hg5 _
           have O5 := Lib.hid o5
           have B5 := Lib.hid ((PB.out.alloc hsz _).grown hg5 (by simp; omega) (fun g hg => (PO.out.lt g hg).1))
           clear o5 hg5))
      go_roundw
      case rel => exact ⟨m + 1, by omega, by go_num, Lib.hid (by rw [hst.out]; exact O5.out), B5⟩
      case measure => simp [intOf]; omega
    · obtain rfl : m = 258 := by omega
      obtain ⟨q, d, hv, hr, hn, hd⟩ := own_shapeI PO.out
      subst hv
      have hmx := (own_shapeI' PO.out).2.2.2
      have GW' := Lib.hid (HON.out _ _ G4.out PB.out)
      have HCW := Lib.hid (HCN.out W q d GW'.out hd hmx hn hr)
      have QW := Lib.hid (keepO PB.out Q4.out)
      clear hr hn hd hmx
      go_wp2_with (go_at_call 11; ((with_reducible refine (HCW.out).mono ?_); rintro e v6 ⟨rfl, p6⟩); obtain ⟨z0, z1, z2, z3, _⟩ := keepO p6 QW.out)
      go_ret
      exact ⟨by first | rfl | simp, thn (thn P4.out PB.out) p6⟩
set_option maxRecDepth 100000 in
set_option maxHeartbeats 16000000 in
theorem core_n5 {G : World → Prop} (HON : ∀ (w w' : World), G w → Below w.heap.size w w' → G w') (jt jf k a b : Int) (x y : ByteArray)  (w : World) (a0 : 0 ≤ a) (a1 : a ≤ 4000) (b0 : 0 ≤ b) (b1 : b ≤ 4000) (hx : x.toList.isEmpty = false) (hy : y.toList.isEmpty = false) (hk : 257 < k)
    (hi : (⟨5, jt, jf, k⟩ : Ins).Ok) (HA : Calls Tryd.prog 18 #[] (w.alloc (.cells #[.int .u16 5, .int .u8 jt, .int .u8 jf, .int .u32 k] 33)) fun e w' => e = .returned (.bool true) ∧ Below (w.alloc (.cells #[.int .u16 5, .int .u8 jt, .int .u8 jf, .int .u32 k] 33)).heap.size (w.alloc (.cells #[.int .u16 5, .int .u8 jt, .int .u8 jf, .int .u32 k] 33)) w') (hG : G (w.alloc (.cells #[.int .u16 5, .int .u8 jt, .int .u8 jf, .int .u32 k] 33)))
    (HLA : ∀ W, G W → Calls Tryd.prog 15 #[.agg #[.int .u16 5, .int .u8 jt, .int .u8 jf, .int .u32 k], .int .i64 a] W fun e w' => e = .returned (.string x) ∧ Below W.heap.size W w')
    (HLB : ∀ W, G W → Calls Tryd.prog 15 #[.agg #[.int .u16 5, .int .u8 jt, .int .u8 jf, .int .u32 k], .int .i64 b] W fun e w' => e = .returned (.string y) ∧ Below W.heap.size W w')
    (HO : ∀ W, G W → Calls Tryd.prog 20 #[.int .u16 5] W fun e w' => e = .returned (.int .u8 4) ∧ Below W.heap.size W w')
    (HCN : ∀ (W : World) (q : Option Addr) (d : Nat), G W → 259 ≤ d → d ≤ maxLen → (q = none → d = 0) → RdI W W.heap.size q (txL ⟨5, jt, jf, k⟩ 258) → Calls Tryd.prog 11 #[.slice q 259 d] W fun e w' => e = .returned (.bool false) ∧ Below W.heap.size W w') :
    Calls Tryd.prog 8 #[.agg #[.int .u16 5, .int .u8 jt, .int .u8 jf, .int .u32 k], .int .i64 a, .int .i64 b] w fun e w' => e = .returned (.bool true) ∧ Below w.heap.size w w' := by
  obtain ⟨i0, hi', hz0, hz1, hz2⟩ := info_parts insn_info
  have HI := Lib.hid hi'
  have H0 := Lib.hid hz0
  have H1 := Lib.hid hz1
  have H2 := Lib.hid hz2
  have HON := Lib.hid HON
  have HA := Lib.hid HA
  have HG := Lib.hid hG
  have HLA := Lib.hid HLA
  have HLB := Lib.hid HLB
  have HO := Lib.hid HO
  have HCN := Lib.hid HCN
  have HB := Lib.hid (newO w 5 jt jf k)
  have HB0 := Lib.hid (show Below w.heap.size w (w.alloc (.cells #[.int .u16 5, .int .u8 jt, .int .u8 jf, .int .u32 k] 33)) from (Below.refl _ _).alloc (Nat.le_refl _) _)
  clear hi hG hi' hz0 hz1 hz2
  go_enter Tryd.func8, Tryd.ntmps8
  go_wp2_with (go_at_call 18; ((with_reducible refine (HA.out).mono ?_); rintro e v1 ⟨rfl, p1⟩); have G1 := Lib.hid (HON.out _ _ HG.out p1); have Q1 := Lib.hid (keepO p1 HB.out); have P1 := Lib.hid (thn HB0.out p1); clear p1)
  go_region_held3 (fun w' => w'.cell? ⟨w.heap.size, 0, none⟩ = some (.int .u16 5) ∧ w'.cell? ⟨w.heap.size, 1, none⟩ = some (.int .u8 jt) ∧ w'.cell? ⟨w.heap.size, 2, none⟩ = some (.int .u8 jf) ∧ w'.cell? ⟨w.heap.size, 3, none⟩ = some (.int .u32 k) ∧ Below v1.heap.size v1 w') (first | with_reducible assumption | (with_reducible exact redO Q1.out) | (with_reducible exact keepO (by assumption) (by assumption))) (first
    | (go_at_call 15; ((with_reducible refine (HLA.out _ (HON.out _ _ G1.out (by assumption : _ ∧ _ ∧ _ ∧ _ ∧ Below v1.heap.size v1 _).2.2.2.2)).mono ?_)); rintro e v2 ⟨rfl, p2⟩)
    | (go_at_call 15; ((with_reducible refine (HLB.out _ (HON.out _ _ G1.out (by assumption : _ ∧ _ ∧ _ ∧ _ ∧ Below v1.heap.size v1 _).2.2.2.2)).mono ?_)); rintro e v3 ⟨rfl, p3⟩))
  have QE := (by assumption : _ ∧ _ ∧ _ ∧ _ ∧ Below _ _ _)
  have GE := Lib.hid (HON.out _ _ G1.out QE.2.2.2.2)
  have PE := Lib.hid (thn P1.out QE.2.2.2.2)
  have QH := Lib.hid QE
  obtain ⟨q0, q1, q2, q3, _⟩ := QH.out
  clear QE
  go_wp2_with (go_at_call 20; ((with_reducible refine (HO.out _ GE.out).mono ?_); rintro e v4 ⟨rfl, p4⟩); have Q4 := Lib.hid (keepO p4 QH.out); obtain ⟨r0, r1, r2, r3, _⟩ := Q4.out; have G4 := Lib.hid (HON.out _ _ GE.out p4); have P4 := Lib.hid (thn PE.out p4); clear p4)
  have OW := Lib.hid (World.ownsRow_lit (size := 4) v4 #[.int .u16 5, .int .u8 jt, .int .u8 jf, .int .u32 k] (e := 33) 1 (Nat.le_refl _) (by unfold maxLen; omega) rfl)
  have OB := Lib.hid ((Below.refl v4.heap.size v4).alloc (Nat.le_refl _) (.cells #[.int .u16 5, .int .u8 jt, .int .u8 jf, .int .u32 k] 33))
  clear q0 q1 q2 q3 r0 r1 r2 r3
  go_loopw [10, 11] (fun v10 v11 wr => ∃ m : Nat, m ≤ 258 ∧ v11 = .int .i64 m ∧ Hid (wr.ownsRow v4.heap.size 33 4 v10 (m + 1) (progC (txL ⟨5, jt, jf, k⟩ m))) ∧ Hid (Below v4.heap.size v4 wr)) (fun _ v11 _ => 258 - (intOf v11).toNat)
  case atStart => exact ⟨0, by omega, rfl, OW, OB⟩
  case round =>
    clear OW OB
    obtain ⟨m, hm, rfl, PO, PB⟩ := hrel
    obtain ⟨W, rfl⟩ : ∃ wo : World, wo = wr := ⟨_, rfl⟩
    by_cases hlt : m < 258
    · have m1 : (m : Int) < 258 := by omega
      have hst := Lib.hid (txL_snoc ⟨5, jt, jf, k⟩ m)
      have hsz := PB.out.size
      go_wp2_with (first
        | (at_builtin
           refine wpList_append_own _ rfl (.tmp 59) (.tmp 61) 22 rfl v4.heap.size 33 i0 _ 4 8 Tryd.underlying22 HI.out H0.out H1.out H2.out rfl (by omega) _ (m + 1) (progC (txL ⟨5, jt, jf, k⟩ m)) rfl (PO.out.alloc _) ⟨W.heap.size, 0, none⟩ 1 1 (insC ⟨7, 0, 0, 0⟩) rfl rfl (news_lit W _ _ _ rfl) (insC_one _) (by unfold maxLen; omega) (by omega) (by simp; omega) ?_
           intro v5 w5 o5 hg5 _
           have O5 := Lib.hid o5
           have B5 := Lib.hid ((PB.out.alloc hsz _).grown hg5 (by simp; omega) (fun g hg => (PO.out.lt g hg).1))
           clear o5 hg5))
      go_roundw
      case rel => exact ⟨m + 1, by omega, by go_num, Lib.hid (by rw [hst.out]; exact O5.out), B5⟩
      case measure => simp [intOf]; omega
    · obtain rfl : m = 258 := by omega
      obtain ⟨q, d, hv, hr, hn, hd⟩ := own_shapeI PO.out
      subst hv
      have hmx := (own_shapeI' PO.out).2.2.2
      have GW' := Lib.hid (HON.out _ _ G4.out PB.out)
      have HCW := Lib.hid (HCN.out W q d GW'.out hd hmx hn hr)
      have QW := Lib.hid (keepO PB.out Q4.out)
      clear hr hn hd hmx
      go_wp2_with (go_at_call 11; ((with_reducible refine (HCW.out).mono ?_); rintro e v6 ⟨rfl, p6⟩); obtain ⟨z0, z1, z2, z3, _⟩ := keepO p6 QW.out)
      go_ret
      exact ⟨by first | rfl | simp, thn (thn P4.out PB.out) p6⟩
set_option maxRecDepth 100000 in
set_option maxHeartbeats 16000000 in
theorem walk {G : World → Prop} (HC : AsmC G) (HF : OfA G) (a0 : Ins) (a1 : Int) (a2 : Int) (w : World) (hG : G w) (w0 : a0.Ok) (w1 : (Lit.int .i64 a1).wf = true) (w2 : (Lit.int .i64 a2).wf = true) :
    Calls Tryd.prog 8 #[.agg #[.int .u16 a0.c, .int .u8 a0.jt, .int .u8 a0.jf, .int .u32 a0.k], .int .i64 a1, .int .i64 a2] w fun e w' => e = .returned (.bool true) ∧ Below w.heap.size w w' := by
  obtain ⟨c, jt, jf, k⟩ := a0
  have hG1 := HC.al hG (.cells #[.int .u16 c, .int .u8 jt, .int .u8 jf, .int .u32 k] 33)
  have hA := awake7_any HC (w.alloc (.cells #[.int .u16 c, .int .u8 jt, .int .u8 jf, .int .u32 k] 33)) hG1
  have HA := Lib.hid hA
  have HB0 := Lib.hid (show Below w.heap.size w (w.alloc (.cells #[.int .u16 c, .int .u8 jt, .int .u8 jf, .int .u32 k] 33)) from (Below.refl _ _).alloc (Nat.le_refl _) _)
  by_cases h1 : a1 < 0
  · clear HC HF hG w0 w1 w2 hG1 hA
    go_enter Tryd.func8, Tryd.ntmps8
    go_wp2_with (go_at_call 18; ((with_reducible refine (HA.out).mono ?_); rintro e v1 ⟨rfl, p1⟩))
    go_ret
    exact ⟨rfl, thn HB0.out p1⟩
  by_cases h2 : 4000 < a1
  · clear HC HF hG w0 w1 w2 hG1 hA
    go_enter Tryd.func8, Tryd.ntmps8
    go_wp2_with (go_at_call 18; ((with_reducible refine (HA.out).mono ?_); rintro e v1 ⟨rfl, p1⟩))
    go_ret
    exact ⟨rfl, thn HB0.out p1⟩
  by_cases h3 : a2 < 0
  · clear HC HF hG w0 w1 w2 hG1 hA
    go_enter Tryd.func8, Tryd.ntmps8
    go_wp2_with (go_at_call 18; ((with_reducible refine (HA.out).mono ?_); rintro e v1 ⟨rfl, p1⟩))
    go_ret
    exact ⟨rfl, thn HB0.out p1⟩
  by_cases h4 : 4000 < a2
  · clear HC HF hG w0 w1 w2 hG1 hA
    go_enter Tryd.func8, Tryd.ntmps8
    go_wp2_with (go_at_call 18; ((with_reducible refine (HA.out).mono ?_); rintro e v1 ⟨rfl, p1⟩))
    go_ret
    exact ⟨rfl, thn HB0.out p1⟩
  have HON := fun (w w' : World) => HC.on (w := w) (w' := w')
  have HLA := fun (W : World) (g : G W) => HC.line ⟨c, jt, jf, k⟩ a1 W g w0 (by omega) (by omega)
  have HLB := fun (W : World) (g : G W) => HC.line ⟨c, jt, jf, k⟩ a2 W g w0 (by omega) (by omega)
  have HO := fun (W : World) (g : G W) => HF c W g w0.c0 w0.c1
  have HCN := fun (W : World) (q : Option Addr) (d : Nat) (g : G W) (e1 : 259 ≤ d) (e2 : d ≤ maxLen) (e3 : q = none → d = 0) (h : RdI W W.heap.size q (txL ⟨c, jt, jf, k⟩ 258)) => HC.can q 259 d (txL ⟨c, jt, jf, k⟩ 258) W g (txL_length _ _) (okl_tx w0 _) e1 e2 e3 h
  rw [canL_tx] at HCN
  have g1 : 0 ≤ a1 := by omega
  have g2 : a1 ≤ 4000 := by omega
  have g3 : 0 ≤ a2 := by omega
  have g4 : a2 ≤ 4000 := by omega
  by_cases hp : plainI ⟨c, jt, jf, k⟩ = false
  · rw [plain_bad hp] at HCN
    rw [line_none hp, show bs [] = ⟨#[]⟩ from rfl] at HLA HLB
    by_cases h5 : clsA c = 4
    · rw [h5] at HO
      exact core_e4 HON c jt jf k a1 a2 w g1 g2 g3 g4 w0 hA hG1 HLA HLB HO HCN
    · exact core_e HON c jt jf k a1 a2 _ h5 w g1 g2 g3 g4 w0 hA hG1 HLA HLB HO HCN
  · have hp : plainI ⟨c, jt, jf, k⟩ = true := by
      cases h : plainI ⟨c, jt, jf, k⟩ with
      | true => rfl
      | false => exact absurd h hp
    have hx := empty_no (line_nil hp g1)
    have hy := empty_no (line_nil hp g3)
    by_cases h5 : clsA c = 4
    · rw [h5] at HO
      by_cases hc : c = 5
      · have hg := good_ja w0 hp hc
        by_cases hk : (258 : Int) ≤ k
        · rw [hg, show decide ((258 : Int) ≤ k) = true from decide_eq_true hk] at HCN
          subst hc
          exact core_n5 HON jt jf k a1 a2 _ _ w g1 g2 g3 g4 hx hy (by omega) w0 hA hG1 HLA HLB HO HCN
        · rw [hg, show decide ((258 : Int) ≤ k) = false from decide_eq_false hk] at HCN
          exact core_n4 HON c jt jf k a1 a2 _ _ w g1 g2 g3 g4 hx hy w0 hA hG1 HLA HLB HO HCN
      · rw [good_any w0 hp hc] at HCN
        exact core_n4 HON c jt jf k a1 a2 _ _ w g1 g2 g3 g4 hx hy w0 hA hG1 HLA HLB HO HCN
    · rw [good_any w0 hp (fun e => h5 (by rw [show c = 5 from e]; decide +kernel))] at HCN
      rw [line_same (i := ⟨c, jt, jf, k⟩) h5 g3 g1] at HLB
      exact core_nx HON c jt jf k a1 a2 _ _ h5 w g1 g2 g3 g4 hx w0 hA hG1 HLA HLB HO HCN

set_option maxRecDepth 100000 in
theorem lifted (HC : AsmC GP) (HF : OfA GP) (os : Os) (started : os.Started) (H : Type) (enc : TypeId × Value → H) :
    ReturnsInHanded {} Tryd.checked os 8 .any (fun w args => (Rows.asmOneSpec.pre enc Tryd.prog Tryd.f8 [] false w args ∧ laidMetH Tryd.prog listed6 w) ∧ sizedMet enc Tryd.prog Tryd.f8 (OpenSpec.ofChange Rows.asmOneSpec) false w args)
      (Rows.asmOneSpec.post enc Tryd.prog Tryd.f8 false true false false) := by
  refine returnsInHanded_of_change_and (C := Tryd.checked) (X := fun w _ => laidMetH Tryd.prog listed6 w) (fun _ _ _ hh h => h.of_heap hh) ownKnob_none started (by kernel_rfl) Tryd.func8
    (ChangeSpec.witness_shaped (enc := enc) (C := Tryd.checked) (os := os) (X := fun w _ => laidMetH Tryd.prog listed6 w) false (World.doorLaid Tryd.prog 4000 os) #[.agg #[.int .u16 0, .int .u8 0, .int .u8 0, .int .u32 0], .int .i64 0, .int .i64 0] 8 rfl (World.shaped_of_RefB (by kernel_rfl) (by kernel_rfl)) (by kernel_rfl) (by kernel_rfl) (by kernel_rfl) (door_met6 os _)) ?_
  intro W base args ds gs before hval0 hW _ _ hL _
  have hG : GP W := of_laid6 hL
  have hval : ∀ (j : Nat) t v, Tryd.f8.params[j]? = some t → args[j]? = some v → Value.okWide Tryd.prog W .any base t v := hval0
  have hW' := hW
  obtain ⟨p, q, hA0, hV, rfl, hfz, hnd⟩ := hW
  have hA : DataW.TrodAll enc Tryd.prog W 0 (fun _ => true) true Tryd.f8.params.toList args.toList ds p := hA0
  rw [Tryd.params8] at hA hval
  obtain ⟨v0, vs0, d0, ds0, p0, q0, hargs, rfl, rfl, h0, r0⟩ := trodAll_cons hA
  obtain ⟨v1, vs1, d1, ds1, p1, q1, rfl, rfl, rfl, h1, r1⟩ := trodAll_cons r0
  obtain ⟨v2, vs2, d2, ds2, p2, q2, rfl, rfl, rfl, h2, r2⟩ := trodAll_cons r1
  obtain ⟨rfl, rfl, rfl⟩ := trodAll_nil r2
  obtain rfl : args = #[v0, v1, v2] := by cases args; simp_all
  obtain ⟨rfl, rfl⟩ := trodVars_none hV
  have k0 := h0
  have lt0 : ∀ x ∈ p0, x.block < W.heap.size := by obtain ⟨m, hm⟩ := k0; exact DataW.trod_lt m _ _ _ hm
  obtain ⟨a0, w0, rfl⟩ := insn_open (hval 0 33 v0 rfl rfl) h0
  obtain ⟨a1, rfl, rfl, rfl, w1⟩ := open_int Tryd.underlying3 (hval 1 3 v1 rfl rfl) h1
  obtain ⟨a2, rfl, rfl, rfl, w2⟩ := open_int Tryd.underlying3 (hval 2 3 v2 rfl rfl) h2
  clear hA0 hval0
  refine (walk HC HF a0 a1 a2 W hG w0 w1 w2).mono fun e W' ⟨he, bel⟩ => ?_
  subst he
  exact ⟨_, rfl, _, _, _, [], _, [], hW', trodAll_mk1 (shut_bool Tryd.underlying4 _), (trodAll_cons_mk (Below.trod laidOut (by kernel_rfl) (of_decide_eq_true (by kernel_rfl)) k0 bel lt0) (trodAll_cons_mk (shut_int Tryd.underlying3 w1) (trodAll_cons_mk (shut_int Tryd.underlying3 w2) trodAll_mk0))), rfl, bel.frame _, fun h => by cases h⟩

theorem over (HC : AsmC GP) (HF : OfA GP) : Rows.asmOneRow.holds Tryd.pinned (OpenSpec.ofChange Rows.asmOneSpec) :=
  OpenClaim.holds_of_wide 8 Tryd.f8 rfl rfl rfl rfl rfl rfl rfl ⟨rfl, rfl, rfl, rfl, rfl⟩ rfl rfl rfl rfl rfl (by kernel_rfl) Tryd.func8 (by kernel_rfl)
    (of_decide_eq_true (by kernel_rfl)) (by unfold Func.isWrapper; first | (rw [if_pos (by decide +kernel)]; kernel_rfl) | (rw [if_neg (by decide +kernel)]; exact ⟨rfl, rfl⟩))
    (fun os started H enc _ => lifted HC HF os started H enc)

/-- The row's statement. -/
theorem row_holds : Rows.AsmOneSaid := over asmC (fun c w g h0 h1 => ofC c w g.toGA.rows h0 h1)
/-- The statement: the row, its table tied to the program's text. -/
theorem proved : Rows.AsmOneCardSaid :=
  Claim7.holds_tied_plain_at .later [] [.data, .data, .data, .sentinel, .sentinel, .data] true Rows.asmOneCard.stood.harness Rows.asmOneCard.stood.looks
    row_holds (fun _ h => by cases h) (by kernel_rfl) (fun _ h => by cases h) asmOne_row_tie rfl ⟨rfl, rfl⟩ (by kernel_rfl) rfl
    (fun f fn hf hfn => by
      obtain rfl : f = 8 := Option.some.inj ((show Tryd.prog.funcNamed "vestibule/vestibulelaw07.AsmOne" = some 8 by kernel_rfl).symm.trans hf) |>.symm
      obtain rfl : fn = Tryd.f8 := (Option.some.inj (Tryd.func8.symm.trans hfn)).symm
      exact ⟨by kernel_rfl, fun j t ht => by
        have hm : t ∈ Tryd.f8.params.toList := by simpa using Array.mem_of_getElem? ht
        have hall : (Tryd.f8.params.toList.all fun u => !Tryd.prog.wantsStandIn u) = true := by kernel_rfl
        exact (show Tryd.prog.wantsStandIn t = false by simpa using List.all_eq_true.1 hall t hm)⟩)
    (by kernel_rfl)
#print axioms proved
end Go.Proofs.YtlneiiljdghmjaaDoor.asmOne
