/- What the document's own Unsure returns: the places that read a cell that isn't certain. Condition: a program of at most MaxInsns instructions. Equal lists are told to be the same; what the calls of the package cells have to return, as the chapter says it; what is certain where no way leads. Condition: lists of at most 4096. What is certain at a place was written on the way to it: the running set of the cells that a run has written. Plain lists, no program. -/
import Derived.Test.YtohfampfnhfnlaaDoorOe
import Derived.BigQuiet
import Derived.Deep.QuietTactic
namespace Go.Proofs.YtohfampfnhfnlaaDoor
open Go.RowKit
set_option linter.unusedVariables false
set_option linter.unusedSimpArgs false
attribute [local go_sem ↓] Go.wp_at_zero Go.wp_at_succ

/-- A place is reached and reads a cell that isn't certain there. -/
def unsureB (p : List Ins) (i : Nat) : Bool := match p[i]? with | none => false | some x => (reachB p i && ((x.c == 96 || x.c == 97) && decide (x.k < 16))) && unB p x.k.toNat i
def unsureTo (p : List Ins) (k : Nat) : List Nat := (List.range k).filter (unsureB p)
def unsureL (p : List Ins) : List Nat := unsureTo p p.length
theorem unsureTo_succ (p : List Ins) (k : Nat) : unsureTo p (k + 1) = unsureTo p k ++ (if unsureB p k then [k] else []) := by
  unfold unsureTo
  rw [List.range_succ, List.filter_append]
  congr 1
  cases h : unsureB p k <;> simp [h]
theorem unsureTo_length (p : List Ins) (k : Nat) : (unsureTo p k).length ≤ k := by
  unfold unsureTo
  have := List.length_filter_le (unsureB p) (List.range k)
  rwa [List.length_range] at this
theorem unsure_at {p : List Ins} {i : Nat} {x : Ins} (h : p[i]? = some x) : unsureB p i = ((reachB p i && ((x.c == 96 || x.c == 97) && decide (x.k < 16))) && unB p x.k.toNat i) := by unfold unsureB; rw [h]
theorem sure_bit {p : List Ins} {i c : Nat} (hc : c < 16) : ((((sureN p i : Nat) : Int) / 2 ^ c) % 2 == 0) = unB p c i := by
  have h := sureTo_bit p i c 16
  rw [Nat.testBit_eq_decide_div_mod_eq, decide_eq_true hc, Bool.true_and] at h
  have e : ((sureN p i : Nat) : Int) / 2 ^ c % 2 = ((sureN p i / 2 ^ c % 2 : Nat) : Int) := by simp
  rw [e]
  unfold sureN
  cases hu : unB p c i with
  | true =>
    rw [hu] at h
    have := of_decide_eq_false h
    rw [beq_iff_eq]; omega
  | false =>
    rw [hu] at h
    have := of_decide_eq_true h
    rw [beq_eq_false_iff_ne]; omega
theorem sureN_lt (p : List Ins) (i : Nat) : sureN p i < 65536 := sureTo_lt p i 16
set_option maxRecDepth 100000 in
set_option maxHeartbeats 32000000 in
theorem refUnsure (a0 : Option Addr) (n cap : Nat) (p : List Ins) (w : World) (hl : p.length = n) (hn : n ≤ 4096) (hp : OkL p) (hr : RdI w w.heap.size a0 p) :
    Calls Tryd.prog 23 #[.slice a0 n cap] w (NextTo (unsureL p) w) := by
  obtain ⟨i0, hi, hz0, hz1, hz2⟩ := info_parts int_info
  have HI := Lib.hid hi
  have H0 := Lib.hid hz0
  have H1 := Lib.hid hz1
  have H2 := Lib.hid hz2
  have HL := Lib.hid hl
  have HP := Lib.hid hp
  have HR := Lib.hid hr
  have HS := Lib.hid (refSure a0 n cap p w hl hn hp hr)
  have HX := Lib.hid (fun (W : World) (h : Below w.heap.size w W) => refReached a0 n cap p W hl hn hp ((hr.keep fun q hq => h.cell hq).more h.size))
  have n4 : (n : Int) ≤ 4096 := by omega
  have hn6 : n ≤ 4096 := hn
  have HE := Lib.hid (show unsureL p = unsureTo p n by unfold unsureL; rw [hl])
  clear hi hz0 hz1 hz2 hl hn hp hr
  rw [HE.out]
  clear HE
  go_enter Tryd.func23, Tryd.ntmps23
  go_wp2_with (first
    | (go_at_call 35; ((with_reducible refine (HS.out).mono ?_); rintro e w1 ⟨q1, c1, rfl, o1, b1⟩); have O1 := Lib.hid o1; have B1 := Lib.hid b1; clear o1 b1)
    | (go_at_call 36; ((with_reducible refine (HX.out _ B1.out).mono ?_); rintro e w2 ⟨q2, c2, rfl, o2, b2⟩); have O2 := Lib.hid o2; have O1' := Lib.hid (own_on O1.out b2); have B2 := Lib.hid (thn B1.out b2); clear o2 b2))
  go_loopw [3, 6, 7] (fun v3 v6 v7 wr => ∃ i : Nat, i ≤ n ∧ v6 = .int .i64 i ∧ Hid (wr.ownsRow w2.heap.size 3 1 v3 (unsureTo p i).length (plV (unsureTo p i))) ∧ Hid (Below w2.heap.size w2 wr)) (fun _ v6 _ _ => n - (intOf v6).toNat)
  case atStart => exact ⟨0, Nat.zero_le _, rfl, Lib.hid (World.ownsRow_nil _ _ _ _), Lib.hid (Below.refl _ _)⟩
  case round =>
    clear HS HX
    obtain ⟨i, hi, rfl, P1, P2⟩ := hrel
    obtain ⟨W, rfl⟩ : ∃ wo : World, wo = wr := ⟨_, rfl⟩
    by_cases hlt : i < n
    · have hkl : i < p.length := by rw [HL.out]; exact hlt
      have hS := own_on O1'.out P2.out
      have hB := own_on O2.out P2.out
      obtain ⟨gs, d1, e1⟩ := own_some hS (by omega)
      obtain ⟨gb, d2, e2⟩ := own_some hB (by omega)
      injection e1 with e11 e12 e13
      injection e2 with e21 e22 e23
      subst e11 e21
      clear e12 e13 e22 e23
      have s1 : W.cell? ⟨gs, i, none⟩ = some (.int .u16 ((sureN p i : Nat) : Int)) := (hS.cellAt i (by omega)).trans (rowS_get _ hlt)
      have s2 : W.cell? ⟨gb, i, none⟩ = some (.bool (reachB p i)) := (hB.cellAt i (by omega)).trans (rowB_get _ hlt)
      have i1 : (i : Int) < n := by omega
      have i2 : (0 : Int) ≤ i := by omega
      obtain ⟨x, hx⟩ : ∃ x, p[i]? = some x := ⟨_, List.getElem?_eq_getElem hkl⟩
      have hux := unsure_at hx
      obtain ⟨b, o, rfl, hbB, hcs⟩ := HR.out (by omega)
      have hat := hcs i hkl
      have hxp : x = p[i] := by rw [List.getElem?_eq_getElem hkl] at hx; exact (Option.some.inj hx).symm
      rw [← hxp] at hat
      obtain ⟨q0, q1, q2, q3⟩ := (hat.keep (w' := w2) fun q hq => B2.out.cell (by omega)).keep (w' := W) fun q hq => P2.out.cell (by have := B2.out.size; omega)
      have hss := sureN_lt p i
      have k0 : 0 ≤ x.k := (HP.out x (List.mem_of_getElem? hx)).k0
      have hbit := Lib.hid (fun c (hc : c < 16) => sure_bit (p := p) (i := i) (c := c) hc)
      obtain ⟨sv, hsv⟩ : ∃ s, s = sureN p i := ⟨_, rfl⟩
      rw [← hsv] at s1 hss hbit
      have HST := Lib.hid (unsureTo_succ p i)
      have HLN := Lib.hid (unsureTo_length p i)
      clear hcs hat hxp hx hkl hS hB hbB hsv
      cases hrb : reachB p i with
      | false =>
        rw [hrb, Bool.false_and, Bool.false_and] at hux
        rw [hrb] at s2
        rw [hux] at HST
        clear hux hrb
        by_cases h96 : x.c = 96
        · have e96 : (x.c == 96) = true := beq_iff_eq.2 h96
          have e97 : (x.c == 97) = false := by rw [beq_eq_false_iff_ne]; omega
          by_cases hk : x.k < 16
          · have dk : decide (x.k < 16) = true := decide_eq_true hk
            clear h96
            go_wp2_with fail
            go_quiet (fail)
            go_wp2_with fail
            go_roundw
            case rel => exact ⟨i + 1, by omega, by go_num, Lib.hid (by rw [HST.out, if_neg (by decide), List.append_nil]; exact P1.out), Lib.hid (below_drewN P2.out _)⟩
            case measure => simp [intOf]; omega
          · have dk : decide (x.k < 16) = false := decide_eq_false hk
            clear h96
            go_wp2_with fail
            go_quiet (fail)
            go_wp2_with fail
            go_roundw
            case rel => exact ⟨i + 1, by omega, by go_num, Lib.hid (by rw [HST.out, if_neg (by decide), List.append_nil]; exact P1.out), Lib.hid (below_drewN P2.out _)⟩
            case measure => simp [intOf]; omega
        · have e96 : (x.c == 96) = false := beq_eq_false_iff_ne.2 h96
          by_cases h97 : x.c = 97
          · have e97 : (x.c == 97) = true := beq_iff_eq.2 h97
            by_cases hk : x.k < 16
            · have dk : decide (x.k < 16) = true := decide_eq_true hk
              clear h96 h97
              go_wp2_with fail
              go_quiet (fail)
              go_wp2_with fail
              go_roundw
              case rel => exact ⟨i + 1, by omega, by go_num, Lib.hid (by rw [HST.out, if_neg (by decide), List.append_nil]; exact P1.out), Lib.hid (below_drewN P2.out _)⟩
              case measure => simp [intOf]; omega
            · have dk : decide (x.k < 16) = false := decide_eq_false hk
              clear h96 h97
              go_wp2_with fail
              go_quiet (fail)
              go_wp2_with fail
              go_roundw
              case rel => exact ⟨i + 1, by omega, by go_num, Lib.hid (by rw [HST.out, if_neg (by decide), List.append_nil]; exact P1.out), Lib.hid (below_drewN P2.out _)⟩
              case measure => simp [intOf]; omega
          · have e97 : (x.c == 97) = false := beq_eq_false_iff_ne.2 h97
            clear h96 h97
            go_wp2_with fail
            go_quiet (fail)
            go_wp2_with fail
            go_roundw
            case rel => exact ⟨i + 1, by omega, by go_num, Lib.hid (by rw [HST.out, if_neg (by decide), List.append_nil]; exact P1.out), Lib.hid (below_drewN P2.out _)⟩
            case measure => simp [intOf]; omega
      | true =>
        rw [hrb, Bool.true_and] at hux
        rw [hrb] at s2
        clear hrb
        by_cases h96 : x.c = 96
        · have e96 : (x.c == 96) = true := beq_iff_eq.2 h96
          have e97 : (x.c == 97) = false := by rw [beq_eq_false_iff_ne]; omega
          by_cases hk : x.k < 16
          · have dk : decide (x.k < 16) = true := decide_eq_true hk
            clear h96
            simp only [e96, e97, dk, Bool.and_true, Bool.or_false, Bool.or_true, Bool.true_and, Bool.false_or] at hux
            have hb := hbit.out x.k.toNat (by omega)
            obtain ⟨y, hy⟩ : ∃ y, y = (sv : Int) / 2 ^ x.k.toNat := ⟨_, rfl⟩
            have y0 : 0 ≤ y := by rw [hy]; exact Int.ediv_nonneg (by omega) (Int.pow_nonneg (by decide))
            have y1 : y < 65536 := by rw [hy]; exact Int.lt_of_le_of_lt (Int.ediv_le_self _ (by omega)) (by omega)
            rw [← hy] at hb
            have hy : (sv : Int) / 2 ^ min x.k.toNat 16 = y := by rw [Nat.min_eq_left (by omega), hy]
            clear hss y1
            cases hu : unB p x.k.toNat i with
            | false =>
              rw [hu] at hb hux
              have yb : (y % 2 == 0) = false := hb
              have yc : ¬ y % 2 = 0 := beq_eq_false_iff_ne.1 hb
              rw [hux] at HST
              clear hux hb hu
              go_wp2_with fail
              go_quiet (fail)
              go_wp2_with fail
              go_roundw
              case rel => exact ⟨i + 1, by omega, by go_num, Lib.hid (by rw [HST.out, if_neg (by decide), List.append_nil]; exact P1.out), Lib.hid (below_drewN P2.out _)⟩
              case measure => simp [intOf]; omega
            | true =>
              rw [hu] at hb hux
              have yb : (y % 2 == 0) = true := hb
              have yc : y % 2 = 0 := beq_iff_eq.1 hb
              rw [hux] at HST
              clear hux hb hu
              have HT := Lib.hid (show unsureTo p (i + 1) = unsureTo p i ++ [i] from HST.out)
              clear HST
              obtain ⟨m, hm⟩ : ∃ m, m = (unsureTo p i).length := ⟨_, rfl⟩
              have hmi : m ≤ i := by have := HLN.out; omega
              rw [← hm] at P1
              have HM := Lib.hid hm
              clear hm HLN
              go_wp2_with fail
              go_quiet (fail)
              go_wp2_with (first
                | (at_builtin
                   refine wpList_append_own _ rfl (.tmp 61) (.tmp 63) 48 rfl w2.heap.size 3 i0 _ 1 8 Tryd.underlying48 HI.out H0.out H1.out H2.out rfl Nat.one_pos _ m (plV (unsureTo p i)) rfl ((own_on P1.out (below_drewN (Below.refl _ _) nq)).alloc _) ⟨W.heap.size, 0, none⟩ 1 1 [.int .i64 i] rfl rfl (news_lit (W.drewN nq) _ _ _ rfl) (by intro v hv; rw [List.mem_singleton.1 hv]; rfl) (by unfold maxLen; omega) (by omega) (by have := P2.out.size; rw [World.size_alloc]; exact Nat.le_succ_of_le this) ?_
                   intro v5 w5 o5 hg5 _
                   have O5 := Lib.hid o5
                   have B5 := Lib.hid (((below_drewN P2.out nq).alloc (Nat.le_trans P2.out.size (Nat.le_refl _)) _).grown hg5 (by have := P2.out.size; rw [World.size_alloc]; exact Nat.le_succ_of_le this) (fun j hj => (P1.out.lt j hj).1))
                   clear o5 hg5))
              go_roundw
              case rel =>
                refine ⟨i + 1, by omega, by go_num, Lib.hid ?_, B5⟩
                rw [HT.out, List.length_append, ← HM.out]
                unfold plV
                rw [List.map_append]
                exact O5.out
              case measure => simp [intOf]; omega
          · have dk : decide (x.k < 16) = false := decide_eq_false hk
            clear h96
            simp only [e96, e97, dk, Bool.and_false, Bool.false_and, Bool.or_false, Bool.false_or] at hux
            have HST' := Lib.hid hux
            clear hux
            rw [HST'.out] at HST
            go_wp2_with fail
            go_quiet (fail)
            go_wp2_with fail
            go_roundw
            case rel => exact ⟨i + 1, by omega, by go_num, Lib.hid (by rw [HST.out, if_neg (by decide), List.append_nil]; exact P1.out), Lib.hid (below_drewN P2.out _)⟩
            case measure => simp [intOf]; omega
        · have e96 : (x.c == 96) = false := beq_eq_false_iff_ne.2 h96
          by_cases h97 : x.c = 97
          · have e97 : (x.c == 97) = true := beq_iff_eq.2 h97
            by_cases hk : x.k < 16
            · have dk : decide (x.k < 16) = true := decide_eq_true hk
              clear h96 h97
              simp only [e96, e97, dk, Bool.and_true, Bool.or_false, Bool.or_true, Bool.true_and, Bool.false_or] at hux
              have hb := hbit.out x.k.toNat (by omega)
              obtain ⟨y, hy⟩ : ∃ y, y = (sv : Int) / 2 ^ x.k.toNat := ⟨_, rfl⟩
              have y0 : 0 ≤ y := by rw [hy]; exact Int.ediv_nonneg (by omega) (Int.pow_nonneg (by decide))
              have y1 : y < 65536 := by rw [hy]; exact Int.lt_of_le_of_lt (Int.ediv_le_self _ (by omega)) (by omega)
              rw [← hy] at hb
              have hy : (sv : Int) / 2 ^ min x.k.toNat 16 = y := by rw [Nat.min_eq_left (by omega), hy]
              clear hss y1
              cases hu : unB p x.k.toNat i with
              | false =>
                rw [hu] at hb hux
                have yb : (y % 2 == 0) = false := hb
                have yc : ¬ y % 2 = 0 := beq_eq_false_iff_ne.1 hb
                rw [hux] at HST
                clear hux hb hu
                go_wp2_with fail
                go_quiet (fail)
                go_wp2_with fail
                go_roundw
                case rel => exact ⟨i + 1, by omega, by go_num, Lib.hid (by rw [HST.out, if_neg (by decide), List.append_nil]; exact P1.out), Lib.hid (below_drewN P2.out _)⟩
                case measure => simp [intOf]; omega
              | true =>
                rw [hu] at hb hux
                have yb : (y % 2 == 0) = true := hb
                have yc : y % 2 = 0 := beq_iff_eq.1 hb
                rw [hux] at HST
                clear hux hb hu
                have HT := Lib.hid (show unsureTo p (i + 1) = unsureTo p i ++ [i] from HST.out)
                clear HST
                obtain ⟨m, hm⟩ : ∃ m, m = (unsureTo p i).length := ⟨_, rfl⟩
                have hmi : m ≤ i := by have := HLN.out; omega
                rw [← hm] at P1
                have HM := Lib.hid hm
                clear hm HLN
                go_wp2_with fail
                go_quiet (fail)
                go_wp2_with (first
                  | (at_builtin
                     refine wpList_append_own _ rfl (.tmp 61) (.tmp 63) 48 rfl w2.heap.size 3 i0 _ 1 8 Tryd.underlying48 HI.out H0.out H1.out H2.out rfl Nat.one_pos _ m (plV (unsureTo p i)) rfl ((own_on P1.out (below_drewN (Below.refl _ _) nq)).alloc _) ⟨W.heap.size, 0, none⟩ 1 1 [.int .i64 i] rfl rfl (news_lit (W.drewN nq) _ _ _ rfl) (by intro v hv; rw [List.mem_singleton.1 hv]; rfl) (by unfold maxLen; omega) (by omega) (by have := P2.out.size; rw [World.size_alloc]; exact Nat.le_succ_of_le this) ?_
                     intro v5 w5 o5 hg5 _
                     have O5 := Lib.hid o5
                     have B5 := Lib.hid (((below_drewN P2.out nq).alloc (Nat.le_trans P2.out.size (Nat.le_refl _)) _).grown hg5 (by have := P2.out.size; rw [World.size_alloc]; exact Nat.le_succ_of_le this) (fun j hj => (P1.out.lt j hj).1))
                     clear o5 hg5))
                go_roundw
                case rel =>
                  refine ⟨i + 1, by omega, by go_num, Lib.hid ?_, B5⟩
                  rw [HT.out, List.length_append, ← HM.out]
                  unfold plV
                  rw [List.map_append]
                  exact O5.out
                case measure => simp [intOf]; omega
            · have dk : decide (x.k < 16) = false := decide_eq_false hk
              clear h96 h97
              simp only [e96, e97, dk, Bool.and_false, Bool.false_and, Bool.or_false, Bool.false_or] at hux
              have HST' := Lib.hid hux
              clear hux
              rw [HST'.out] at HST
              go_wp2_with fail
              go_quiet (fail)
              go_wp2_with fail
              go_roundw
              case rel => exact ⟨i + 1, by omega, by go_num, Lib.hid (by rw [HST.out, if_neg (by decide), List.append_nil]; exact P1.out), Lib.hid (below_drewN P2.out _)⟩
              case measure => simp [intOf]; omega
          · have e97 : (x.c == 97) = false := beq_eq_false_iff_ne.2 h97
            clear h96 h97
            simp only [e96, e97, Bool.or_false, Bool.false_and] at hux
            have HST' := Lib.hid hux
            clear hux
            rw [HST'.out] at HST
            go_wp2_with fail
            go_quiet (fail)
            go_wp2_with fail
            go_roundw
            case rel => exact ⟨i + 1, by omega, by go_num, Lib.hid (by rw [HST.out, if_neg (by decide), List.append_nil]; exact P1.out), Lib.hid (below_drewN P2.out _)⟩
            case measure => simp [intOf]; omega
    · obtain rfl : n = i := by omega
      obtain ⟨q, c, e⟩ := own_form P1.out
      subst e
      go_wp2_with fail
      go_ret
      exact ⟨q, c, rfl, own_mono P1.out (by have := B2.out.size; omega), thn B2.out P2.out⟩
end Go.Proofs.YtohfampfnhfnlaaDoor
namespace Go.Proofs.YtohfampfnhfnlaaDoor
open Go.RowKit
set_option linter.unusedVariables false
attribute [local go_sem ↓] Go.wp_at_zero Go.wp_at_succ

/-- A slice of numbers can be read. -/
def RdN (w : World) (B : Nat) (q : Option Addr) (l : List Nat) : Prop := 0 < l.length → ∃ g, q = some ⟨g, 0, none⟩ ∧ g < B ∧ ∀ i, i < l.length → w.cell? ⟨g, i, none⟩ = some (.int .i64 ((l.getD i 0 : Nat) : Int))
theorem rdN_of {w : World} {B c : Nat} {q : Option Addr} {l : List Nat} (h : w.ownsRow B 3 1 (.slice q l.length c) l.length (plV l)) : RdN w w.heap.size q l := fun h0 => by
  obtain ⟨g, rfl, _, hc⟩ := pl_cells' h h0
  exact ⟨g, rfl, (h.lt g rfl).2, hc⟩
theorem RdN.keep {w w' : World} {B n : Nat} {q : Option Addr} {l : List Nat} (h : RdN w n q l) (hb : Below B w w') (hn : n ≤ B) : RdN w' n q l := fun h0 => by
  obtain ⟨g, rfl, hg, hc⟩ := h h0
  exact ⟨g, rfl, hg, fun i hi => (hb.cell (p := ⟨g, i, none⟩) (show g < B by omega)).trans (hc i hi)⟩
theorem rdN_on {w w' : World} {q : Option Addr} {l : List Nat} (h : RdN w w.heap.size q l) (hb : Below w.heap.size w w') : RdN w' w'.heap.size q l := fun h0 => by
  obtain ⟨g, rfl, hg, hc⟩ := h h0
  exact ⟨g, rfl, Nat.lt_of_lt_of_le hg hb.size, fun i hi => (hb.cell (p := ⟨g, i, none⟩) hg).trans (hc i hi)⟩
/-- How many are told of. -/
def lenX (n : Nat) : Nat := if n ≤ 4096 then n else 0
def nextX (p : List Ins) (a : Int) : List Nat := if p.length ≤ 4096 then nextA p a else []
def unsureX (p : List Ins) : List Nat := if p.length ≤ 4096 then unsureL p else []
/-- Marks that go on from more places are more. -/
theorem mark_go {f : Nat → List Nat} {go go' : Nat → Bool} (h : ∀ i, go i = true → go' i = true) : ∀ (n j : Nat), mark f go n j = true → mark f go' n j = true
  | 0, j, hm => hm
  | n + 1, j, hm => by
    have hm' : (mark f go n j || (mark f go n n && go n && (f n).contains j)) = true := hm
    show (mark f go' n j || (mark f go' n n && go' n && (f n).contains j)) = true
    rw [Bool.or_eq_true] at hm' ⊢
    rcases hm' with e | e
    · exact Or.inl (mark_go h n j e)
    · rw [Bool.and_eq_true, Bool.and_eq_true] at e
      exact Or.inr (by rw [mark_go h n n e.1.1, h n e.1.2, e.2]; rfl)
/-- Where a way leads that doesn't write the cell, a way leads. -/
theorem un_reach {p : List Ins} {c j : Nat} (h : unB p c j = true) : reachB p j = true := mark_go (fun _ _ => rfl) _ _ h
theorem sureTo_all {p : List Ins} {j : Nat} (h : ∀ c, unB p c j = false) : ∀ m, sureTo p j m = 2 ^ m - 1
  | 0 => rfl
  | m + 1 => by
    rw [sureTo_yes (h m), sureTo_all h m]
    apply Nat.eq_of_testBit_eq
    intro i
    rw [Nat.testBit_or, Nat.testBit_two_pow_sub_one, Nat.testBit_two_pow_sub_one, Nat.testBit_two_pow]
    rw [Bool.eq_iff_iff]
    simp only [Bool.or_eq_true, decide_eq_true_eq]
    omega
/-- Where no way leads, all cells are certain. -/
theorem sure_none {p : List Ins} {j : Nat} (h : reachB p j = false) : sureN p j = 65535 := sureTo_all (fun c => by
  cases hu : unB p c j with
  | false => rfl
  | true => rw [un_reach hu] at h; cases h) 16
theorem sureTo_nothing {p : List Ins} {j : Nat} (h : ∀ c, unB p c j = true) : ∀ m, sureTo p j m = 0
  | 0 => rfl
  | m + 1 => by rw [sureTo_no (h m), sureTo_nothing h m]
theorem sure_zero (p : List Ins) : sureN p 0 = 0 := sureTo_nothing (fun c => unB_zero p c) 16
/-- Reached is the first place, and to which a reached one leads. -/
theorem reach_from (p : List Ins) (j : Nat) : reachB p j = mark (nextL p) (fun _ => true) j j ∨ p.length < j := by
  by_cases h : j ≤ p.length
  · exact Or.inl (mark_more next_up h)
  · exact Or.inr (by omega)
end Go.Proofs.YtohfampfnhfnlaaDoor
namespace Go.Proofs.YtohfampfnhfnlaaDoor
set_option linter.unusedVariables false

/-- The set, with the cell that the instruction at a place writes. -/
def addBit (p : List Ins) (s x : Nat) : Nat := match p[x]? with | none => s | some y => if ((y.c == 2 || y.c == 3) && decide (y.k < 16)) = true then s ||| 2 ^ y.k.toNat else s
/-- The cells that the first i places of a run have written. -/
def wrote (p : List Ins) (l : List Nat) : Nat → Nat
  | 0 => 0
  | i + 1 => addBit p (wrote p l i) (l.getD i 0)
theorem addBit_lt {p : List Ins} {s x : Nat} (h : s < 2 ^ 16) : addBit p s x < 2 ^ 16 := by
  unfold addBit
  split
  · exact h
  · rename_i y _
    split
    · rename_i hy
      rw [Bool.and_eq_true, decide_eq_true_eq] at hy
      exact Nat.or_lt_two_pow h (Nat.pow_lt_pow_right (by decide) (by omega))
    · exact h
theorem wrote_lt (p : List Ins) (l : List Nat) : ∀ i, wrote p l i < 2 ^ 16
  | 0 => by show 0 < 2 ^ 16; decide
  | i + 1 => addBit_lt (wrote_lt p l i)
theorem addBit_keep {p : List Ins} {s x c : Nat} (h : s.testBit c = true) : (addBit p s x).testBit c = true := by
  unfold addBit
  split
  · exact h
  · split
    · rw [Nat.testBit_or, h]; rfl
    · exact h
theorem addBit_new {p : List Ins} {s x c : Nat} (hc : c < 16) (h : writesB p c x = true) : (addBit p s x).testBit c = true := by
  unfold writesB at h
  unfold addBit
  split at h
  · cases h
  · rename_i y hy
    rw [Bool.and_eq_true, beq_iff_eq] at h
    simp only [hy]
    rw [h.1, h.2, if_pos (by rw [Bool.true_and, decide_eq_true_eq]; omega), Int.toNat_natCast, Nat.testBit_or, Nat.testBit_two_pow]
    simp
theorem wrote_bit {p : List Ins} {l : List Nat} {c : Nat} (hc : c < 16) : ∀ {i j : Nat}, j < i → writesB p c (l.getD j 0) = true → (wrote p l i).testBit c = true
  | 0, j, hj, _ => absurd hj (by omega)
  | i + 1, j, hj, h => by
    by_cases e : j = i
    · subst e; exact addBit_new hc h
    · exact addBit_keep (wrote_bit hc (by omega) h)
/-- What is certain at a place of a run was written. -/
theorem done_sure {p : List Ins} {l : List Nat} (h : Way p l) {i : Nat} (hi : i < l.length) : sureN p (l.getD i 0) &&& (65535 - wrote p l i) = 0 := by
  apply Nat.eq_of_testBit_eq
  intro c
  rw [Nat.zero_testBit, Nat.testBit_and]
  unfold sureN
  rw [sureTo_bit, show 65535 - wrote p l i = 2 ^ 16 - (wrote p l i + 1) by omega, Nat.testBit_two_pow_sub_succ (wrote_lt p l i)]
  by_cases hc : c < 16
  · cases hu : unB p c (l.getD i 0) with
    | true => simp
    | false =>
      have hb : (wrote p l i).testBit c = true := by
        cases hb : (wrote p l i).testBit c with
        | true => rfl
        | false =>
          exfalso
          have := h.un c i (l.getD i 0) (by rw [List.getD_eq_getElem?_getD, List.getElem?_eq_getElem hi]; rfl) (fun j y hj hy => by
            cases hw : writesB p c y with
            | false => rfl
            | true =>
              have e : l.getD j 0 = y := by rw [List.getD_eq_getElem?_getD, hy]; rfl
              have := wrote_bit (l := l) hc hj (by rw [e]; exact hw)
              rw [this] at hb; cases hb)
          rw [this] at hu; cases hu
      rw [hb]; simp
  · rw [decide_eq_false hc]; simp
theorem way_next {p : List Ins} {l : List Nat} (h : Way p l) {i : Nat} (hi : i + 1 < l.length) : l.getD (i + 1) 0 ∈ nextL p (l.getD i 0) :=
  h.2.1 i _ _ (by rw [List.getD_eq_getElem?_getD, List.getElem?_eq_getElem (show i < l.length by omega)]; rfl) (by rw [List.getD_eq_getElem?_getD, List.getElem?_eq_getElem hi]; rfl)
theorem way_reach {p : List Ins} {l : List Nat} (h : Way p l) {i : Nat} (hi : i < l.length) : reachB p (l.getD i 0) = true := h.reach (by rw [List.getD_eq_getElem?_getD, List.getElem?_eq_getElem hi]; exact List.getElem_mem hi)
theorem way_lt {p : List Ins} {l : List Nat} (h : Way p l) {i : Nat} (hi : i < l.length) : l.getD i 0 < p.length := h.2.2 _ (by rw [List.getD_eq_getElem?_getD, List.getElem?_eq_getElem hi]; exact List.getElem_mem hi)
end Go.Proofs.YtohfampfnhfnlaaDoor
