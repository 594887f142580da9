/- What the landed iterator over a text's lines hands over: the lines, in order. Conditions: the program can be written; the tables lie in their variables; a round writes into a builder alone. -/
import Derived.Test.YtlneiiljdghmjaaDoorHk
namespace Go.Proofs.YtlneiiljdghmjaaDoor
open Go.RowKit Go.Shelf
set_option linter.unusedVariables false
set_option linter.unusedSimpArgs false
attribute [local go_sem] Oper.semAt_some

/-- One string behind the other, within a fence, also behind a guard. -/
theorem wpListIn_cat {F : Fence} {n : Nat} {ops : Array Oper} {rest : List Oper} {op : Oper} {A B : Operand} {ty yt : TypeId} {a : Act} {w : World} {Q : Exit → Act → World → Prop} {x y z : List UInt8} (hz : x ++ y = z) (hw : Region.wanted op (yielded ops a.tmps) = true) (ho : op.op = .binOp .add ty A B yt)
    (hA : a.eval A = .string (bs x)) (hB : a.eval B = .string (bs y)) (hs : x.length + y.length ≤ 4611686018427387904)
    (h : wpListIn F n Tryd.prog ops Q rest (a.put op.dst (.string (bs z))) w) : wpListIn F n Tryd.prog ops Q (op :: rest) a w := by
  subst hz
  refine wpListIn_step fun K hK => ?_
  rw [if_pos hw]
  have := run_string_add_sum (P := Tryd.prog) w (bs x) (bs y) (by rw [bs_size, bs_size]; omega)
  rw [bs_app] at this
  unfold Oper.wpIn
  refine ⟨?_, ?_⟩
  · simp [Oper.about, ho]
  · rw [Oper.semAt_plain F _ _ (by rw [ho]; intro c hc; cases hc)]
    simp [execOp, ho, hA, hB, binOp, this, eqGuard, Result.andThen]
    exact hK _ _ h
theorem lines_app (p : List Ins) (k : Nat) : ∀ (d : Nat), ∃ r, linesTo p (k + d) = linesTo p k ++ r
  | 0 => ⟨[], by simp⟩
  | d + 1 => by
    obtain ⟨r, hr⟩ := lines_app p k d
    refine ⟨r ++ ((if ledB p (k + d) = true then [labelL (k + d)] else []) ++ (match p[k + d]? with | none => [] | some x => [lineI x ((k + d : Nat) : Int)])), ?_⟩
    show linesTo p (k + d) ++ _ = _
    rw [hr, List.append_assoc]; rfl
theorem lines_at {p : List Ins} {k : Nat} {x : Ins} (hx : p[k]? = some x) (hk : k < p.length) :
    (ledB p k = true → (linesTo p p.length)[(linesTo p k).length]? = some (labelL k) ∧ (linesTo p p.length)[(linesTo p k).length + 1]? = some (lineI x k) ∧ (linesTo p (k + 1)).length = (linesTo p k).length + 2) ∧
    (ledB p k = false → (linesTo p p.length)[(linesTo p k).length]? = some (lineI x k) ∧ (linesTo p (k + 1)).length = (linesTo p k).length + 1) := by
  obtain ⟨r, hr⟩ := lines_app p (k + 1) (p.length - (k + 1))
  rw [show k + 1 + (p.length - (k + 1)) = p.length by omega] at hr
  have e : linesTo p (k + 1) = linesTo p k ++ ((if ledB p k = true then [labelL k] else []) ++ [lineI x k]) := by
    show linesTo p k ++ (_ ++ (match p[k]? with | none => [] | some x => [lineI x k])) = _
    rw [hx]
  rw [hr, e]
  constructor
  · intro h
    rw [if_pos h]
    refine ⟨?_, ?_, by simp⟩
    · rw [List.append_assoc, List.getElem?_append_right (Nat.le_refl _), Nat.sub_self]; rfl
    · rw [List.append_assoc, List.getElem?_append_right (Nat.le_succ _), show (linesTo p k).length.succ - (linesTo p k).length = 1 by omega]; rfl
  · intro h
    rw [if_neg (by rw [h]; exact Bool.false_ne_true)]
    refine ⟨?_, by simp⟩
    rw [List.append_assoc, List.getElem?_append_right (Nat.le_refl _), Nat.sub_self]; rfl
/-- What the iterator reads between two rounds. -/
def LnI (wC : World) (s0 B3 R R0 : Nat) (a0 : Option Addr) (n cap : Nat) (p : List Ins) (V : World) : Prop :=
  Boxed V s0 22 (.slice a0 n cap) ∧ Boxed V B3 77 (.slice (some ⟨R, 0, none⟩) n n) ∧ V.ownsRow R0 4 1 (.slice (some ⟨R, 0, none⟩) n n) n (rowT n (ledB p)) ∧ Below wC.heap.size wC V
theorem LnI.on {wC V V' : World} {s0 B3 R R0 n cap : Nat} {a0 : Option Addr} {p : List Ins} (h : LnI wC s0 B3 R R0 a0 n cap p V) (b : Below V.heap.size V V') : LnI wC s0 B3 R R0 a0 n cap p V' :=
  ⟨(b.block _ (Array.getElem?_eq_some_iff.1 h.1).1).trans h.1, (b.block _ (Array.getElem?_eq_some_iff.1 h.2.1).1).trans h.2.1, own_below h.2.2.1 b, h.2.2.2.trans (b.mono h.2.2.2.size)⟩
theorem LnI.keep {wC V V' : World} {b s0 B3 R R0 n cap : Nat} {a0 : Option Addr} {p : List Ins} (h : LnI wC s0 B3 R R0 a0 n cap p V) (hk : KeepT 5 wC.heap.size b V V') (hs : s0 ≠ b) (hB : B3 ≠ b) (hR : R ≠ b) : LnI wC s0 B3 R R0 a0 n cap p V' := by
  obtain ⟨h1, h2, h3, h4⟩ := h
  refine ⟨hk.2 _ _ h1 rfl hs (by intro c fz e; injection e with _ e _; exact absurd e (by decide)), hk.2 _ _ h2 rfl hB (by intro c fz e; injection e with _ e _; exact absurd e (by decide)), ⟨h3.1, ?_⟩, h4.trans hk.1⟩
  rcases h3.2 with ⟨e, h0⟩ | ⟨g, cap2, cur, hv, hgB, hg, r⟩
  · exact Or.inl ⟨e, h0⟩
  · refine Or.inr ⟨g, cap2, cur, hv, hgB, hk.2 _ _ hg rfl (fun e => ?_) (by intro c fz e; injection e with _ e _; exact absurd e (by decide)), r⟩
    injection hv with hq _ _
    injection hq with hq
    injection hq with hq _ _
    omega
theorem box_kept {wC V V' : World} {b B : Nat} {cs : Array Value} {fz : Nat × Nat} (h : V.heap[B]? = some (.cells cs 33 fz)) (hk : KeepT 5 wC.heap.size b V V') (hB : B ≠ b) : V'.heap[B]? = some (.cells cs 33 fz) :=
  hk.2 _ _ h rfl hB (by intro c fz e; injection e with _ e _; exact absurd e (by decide))
theorem four_of {V : World} {B : Nat} {c0 c1 c2 c3 : Value} {t : TypeId} {fz : Nat × Nat} (h : V.heap[B]? = some (.cells #[c0, c1, c2, c3] t fz)) :
    V.cell? ⟨B, 0, none⟩ = some c0 ∧ V.cell? ⟨B, 1, none⟩ = some c1 ∧ V.cell? ⟨B, 2, none⟩ = some c2 ∧ V.cell? ⟨B, 3, none⟩ = some c3 := by
  refine ⟨?_, ?_, ?_, ?_⟩
  iterate 4
    · rw [cell_of_row _ _ _ _ _ fz h]; rfl
set_option maxRecDepth 100000 in
set_option maxHeartbeats 8000000 in
theorem lines_gives {Z : Nat → Prop} (b s0 B3 R R0 n cap : Nat) (a0 : Option Addr) (p : List Ins) (wC w0 : World) (hG : GA wC) (hl : p.length = n) (hok : OkL p) (h1 : n ≤ 4096) (hcan : canL p = true) (hR : RdI wC wC.heap.size a0 p)
    (hb : b < w0.heap.size) (hs : s0 ≠ b) (hB : B3 ≠ b) (hRb : R ≠ b) (h0 : LnI wC s0 B3 R R0 a0 n cap p w0) :
    GivesK Tryd.prog 38 #[.pointer (some ⟨s0, 0, none⟩), .pointer (some ⟨B3, 0, none⟩)] (KeepT 5 wC.heap.size b) Z (strV (linesTo p n)) w0 := by
  intro l J Jx W hW hJ hJx hZ hY hj0
  have HN0 := Lib.hid (h0.on hW)
  have hbW : b < W.heap.size := Nat.lt_of_lt_of_le hb hW.size
  have HL := Lib.hid hl
  have HP := Lib.hid hok
  have HR := Lib.hid hR
  have HG := Lib.hid hG
  have HJ := Lib.hid hJ
  have HJX := Lib.hid hJx
  have HY := Lib.hid hY
  have HAT := Lib.hid (fun k x (hx : p[k]? = some x) (hk : k < n) => lines_at hx (by rw [hl]; exact hk))
  rw [hl] at HAT
  have HKP := Lib.hid (fun V V' (h : LnI wC s0 B3 R R0 a0 n cap p V) (hk : KeepT 5 wC.heap.size b V V') => h.keep hk hs hB hRb)
  have HLEN := Lib.hid (strV_len (linesTo p n))
  have n4 : (n : Int) ≤ 4096 := by omega
  have r1 := HN0.out.1.cell
  obtain ⟨xs, hxs⟩ : ∃ xs, xs = strV (linesTo p n) := ⟨_, rfl⟩
  obtain ⟨m, hm⟩ : ∃ m, m = fun k => (linesTo p k).length := ⟨_, rfl⟩
  have HM := Lib.hid (fun k => congrFun hm k)
  have HX := Lib.hid hxs
  have HJ0 := Lib.hid (show J (m 0) W from by rw [hm]; exact hj0)
  rw [← hxs] at HY HLEN ⊢
  have HGT := Lib.hid (fun j t (h : (linesTo p n)[j]? = some t) => show xs[j]? = some (Value.string (bs t)) from by
    rw [hxs]; unfold strV; rw [List.getElem?_map, h]; rfl)
  clear h0 hW hJ hJx hZ hY hj0 hG hl hok h1 hcan hR hb hs hB hRb hm hxs
  refine (callsIn_wide (n := 4)).1 ?_
  refine callsIn_of_wp Tryd.func38 rfl trivial ?_ rfl
  simp only [Tryd.ntmps38, List.size_toArray, List.length_cons, List.length_nil, Nat.reduceAdd, Nat.reduceSub, Array.replicate_succ, Array.replicate_zero, List.push_toArray, List.append_toArray, List.nil_append, List.cons_append]
  gi_wp2
  gi_loopw [8] (fun v8 wr => ∃ k : Nat, k ≤ n ∧ v8 = .int .i64 k ∧ Hid (J (m k) wr) ∧ Hid (LnI wC s0 B3 R R0 a0 n cap p wr) ∧ W.heap.size ≤ wr.heap.size) (fun v8 _ => n - (intOf v8).toNat)
  case atStart => exact ⟨0, Nat.zero_le _, rfl, HJ0, HN0, Nat.le_refl _⟩
  case round =>
    clear r1 HN0 HJ0
    obtain ⟨k, hk, rfl, HJ1, HI1, hz⟩ := hrel
    obtain ⟨V, rfl⟩ : ∃ wo : World, wo = wr := ⟨_, rfl⟩
    by_cases hlt : k < n
    · have hkl : k < p.length := by rw [HL.out]; exact hlt
      have i1 : (k : Int) < n := by omega
      have i2 : (0 : Int) ≤ k := by omega
      have u1 : IntKind.u64.wrap (k : Int) = k := by rw [IntKind.wrap_u64]; omega
      obtain ⟨bb, o, hao, hbB, hcs⟩ := HR.out (by omega)
      have hat := hcs k hkl
      obtain ⟨x, hx⟩ : ∃ x, x = p[k] := ⟨_, rfl⟩
      have hxk : p[k]? = some x := by rw [hx]; exact List.getElem?_eq_getElem hkl
      have hxo := HP.out.get hkl
      rw [← hx] at hat hxo
      have PB := Lib.hid HI1.out.2.2.2
      obtain ⟨q0, q1, q2, q3⟩ := hat.keep (w' := V) fun q hq => PB.out.cell (by omega)
      have HB1 := Lib.hid (ball V (.cells #[.int .u16 x.c, .int .u8 x.jt, .int .u8 x.jf, .int .u32 x.k] 33))
      have HI2 := Lib.hid (HI1.out.on HB1.out)
      have HJ2 := Lib.hid (ownOn HJ.out HJ1.out HB1.out)
      have HNW := Lib.hid (heap_alloc_new V (.cells #[.int .u16 x.c, .int .u8 x.jt, .int .u8 x.jf, .int .u32 x.k] 33))
      have HLN := Lib.hid (fun U (g : GA U) => line_call x hxo k (by omega) U g)
      have HLB := Lib.hid (fun U (g : GA U) => label_call k (by omega) U g)
      have hA := HAT.out k x hxk hlt
      have c3 := HI1.out.2.1.cell
      have s2 := (HI1.out.2.2.1.cellAt k (by omega)).trans (rowT_get _ hlt)
      have e0 := World.block_lt_of_cell? V _ c3
      have e1 := World.block_lt_of_cell? V _ s2
      obtain ⟨t0, t1, t2, t3⟩ := four_of HNW.out
      have T0 := Lib.hid (show _ ∧ _ ∧ _ ∧ _ from ⟨t0, t1, t2, t3⟩)
      have hbV : V.heap.size ≠ b := by omega
      have HGA := Lib.hid (HG.out.on HI2.out.2.2.2)
      have hz2 : W.heap.size ≤ (V.alloc (.cells #[.int .u16 x.c, .int .u8 x.jt, .int .u8 x.jf, .int .u32 x.k] 33)).heap.size := by rw [World.size_alloc]; omega
      have HZ := Lib.hid hz2
      clear hat hx hkl hcs hxk hxo HJ1 HI1 hz2 t0 t1 t2 t3
      obtain ⟨c, jt, jf, kk⟩ := x
      simp only at q0 q1 q2 q3 HLN hA T0 HNW HI2 HJ2 HB1 HGA HZ
      obtain ⟨lx, hlx⟩ : ∃ t, t = lineI ⟨c, jt, jf, kk⟩ k := ⟨_, rfl⟩
      rw [← hlx] at HLN hA
      obtain ⟨ld, hld⟩ : ∃ t, t = ledB p k := ⟨_, rfl⟩
      rw [← hld] at hA s2
      have hlb : (digL k).length ≤ 19 := digL_len (by omega)
      obtain ⟨dk, hdk⟩ : ∃ t, t = digL k := ⟨_, rfl⟩
      have HDK := Lib.hid (show 76 :: dk ++ [58] = labelL k by rw [hdk]; rfl)
      obtain ⟨lab, hlab⟩ : ∃ t, t = labelL k := ⟨_, rfl⟩
      rw [← hlab] at HDK hA
      rw [← hdk] at HLB hlb
      clear hlx hdk hlab
      subst hao
      cases ld with
      | false =>
        obtain ⟨hx1, hm1⟩ := hA.2 rfl
        have HXT := Lib.hid (HGT.out _ _ hx1)
        have HMK := Lib.hid (show m (k + 1) = m k + 1 by rw [HM.out, HM.out]; exact hm1)
        rw [show (linesTo p k).length = m k from (HM.out k).symm] at HXT
        clear hA hx1 hm1 hld HDK
        gi_wp2_with (first
          | (refine ⟨trivial, ?_⟩
             gi_at_call 15
             refine (callsIn_wide.2 (HLN.out _ HGA.out)).mono ?_
             rintro e w3 ⟨rfl, b3⟩
             obtain ⟨fn, tmps, assign, body, hy, hR3⟩ := HY.out (m k) (.string (bs lx)) w3 HXT.out (ownOn HJ.out HJ2.out b3) (Nat.le_trans HZ.out b3.size)
             have B3' := Lib.hid b3
             have HR3 := Lib.hid hR3
             clear b3 hR3)
          | ((with_reducible show Fence.fn Fence.wide _ ∧ _)
             refine ⟨trivial, ?_⟩)
          | ((with_reducible show (∀ _ _, Fence.fn Fence.wide _) ∧ _)
             refine ⟨fun _ _ => trivial, ?_⟩))
        refine HR3.out.mono ?_
        rintro e V' ⟨hkf, ⟨rfl, hJ3, hk3⟩ | ⟨rfl, hJx3⟩⟩
        · have HK3 := Lib.hid (HKP.out _ _ (HI2.out.on B3'.out) hk3)
          have HZ3 := Lib.hid (Nat.le_trans HZ.out (Nat.le_trans B3'.out.size hkf.size))
          clear hkf hk3
          gi_wp2
          go_roundw
          case rel => exact ⟨k + 1, by omega, by go_num, Lib.hid (by rw [HMK.out]; exact hJ3), HK3, HZ3.out⟩
          case measure => simp [intOf]; omega
        · gi_wp2
          refine bodyPost_ret (results_none rfl _ _ _) rfl ?_
          exact ⟨⟨_, rfl⟩, .inr ⟨_, hJx3⟩⟩
      | true =>
        obtain ⟨hx1, hx2, hm1⟩ := hA.1 rfl
        have HXT := Lib.hid (HGT.out _ _ hx1)
        have HXU := Lib.hid (HGT.out _ _ hx2)
        have HMK := Lib.hid (show m (k + 1) = m k + 1 + 1 by rw [HM.out, HM.out]; exact hm1)
        rw [show (linesTo p k).length = m k from (HM.out k).symm] at HXT HXU
        clear hA hx1 hx2 hm1 hld
        gi_wp2_with (first
          | ((with_reducible show wpListIn _ _ _ _ _ (⟨some 22, _, _, _, _, _⟩ :: _) _ _)
             refine wpListIn_cat (x := 76 :: dk) (y := [58]) HDK.out rfl rfl rfl rfl (by simp; omega) ?_)
          | (refine ⟨trivial, ?_⟩
             gi_at_call 39
             refine (callsIn_wide.2 (HLB.out _ HGA.out)).mono ?_
             rintro e w2 ⟨rfl, b2⟩
             obtain ⟨fn, tmps, assign, body, hy, hR2⟩ := HY.out (m k) (.string (bs lab)) w2 HXT.out (ownOn HJ.out HJ2.out b2) (Nat.le_trans HZ.out b2.size)
             have B2' := Lib.hid b2
             have HR2 := Lib.hid hR2
             clear b2 hR2))
        refine HR2.out.mono ?_
        rintro e V' ⟨hkf, ⟨rfl, hJ3, hk3⟩ | ⟨rfl, hJx3⟩⟩
        · have HK3 := Lib.hid (HKP.out _ _ (HI2.out.on B2'.out) hk3)
          have HZ3 := Lib.hid (Nat.le_trans HZ.out (Nat.le_trans B2'.out.size hkf.size))
          have hn3 := box_kept ((B2'.out.block _ (by simp)).trans HNW.out) hk3 hbV
          obtain ⟨t0, t1, t2, t3⟩ := four_of hn3
          have HGA3 := Lib.hid (HG.out.on HK3.out.2.2.2)
          have HJ3 := Lib.hid hJ3
          clear hkf hk3 hJ3 hn3 hy HR2
          gi_wp2_with (refine ⟨trivial, ?_⟩
                       gi_at_call 15
                       refine (callsIn_wide.2 (HLN.out _ HGA3.out)).mono ?_
                       rintro e w3 ⟨rfl, b3⟩
                       obtain ⟨fn, tmps, assign, body, hy, hR3⟩ := HY.out (m k + 1) (.string (bs lx)) w3 HXU.out (ownOn HJ.out HJ3.out b3) (Nat.le_trans HZ3.out b3.size)
                       have B3' := Lib.hid b3
                       have HR3 := Lib.hid hR3
                       clear b3 hR3)
          refine HR3.out.mono ?_
          rintro e V'' ⟨hkf, ⟨rfl, hJ4, hk4⟩ | ⟨rfl, hJx4⟩⟩
          · have HK4 := Lib.hid (HKP.out _ _ (HK3.out.on B3'.out) hk4)
            have HZ4 := Lib.hid (Nat.le_trans HZ3.out (Nat.le_trans B3'.out.size hkf.size))
            clear hkf hk4
            gi_wp2
            go_roundw
            case rel => exact ⟨k + 1, by omega, by go_num, Lib.hid (by rw [HMK.out]; exact hJ4), HK4, HZ4.out⟩
            case measure => simp [intOf]; omega
          · gi_wp2
            refine bodyPost_ret (results_none rfl _ _ _) rfl ?_
            exact ⟨⟨_, rfl⟩, .inr ⟨_, hJx4⟩⟩
        · gi_wp2
          refine bodyPost_ret (results_none rfl _ _ _) rfl ?_
          exact ⟨⟨_, rfl⟩, .inr ⟨_, hJx3⟩⟩
    · obtain rfl : k = n := by omega
      have i1 : ¬ (k : Int) < k := by omega
      have HJE := Lib.hid (show J xs.length V by rw [HLEN.out, ← HM.out]; exact HJ1.out)
      gi_wp2
      go_end0
      exact ⟨⟨_, rfl⟩, .inl HJE.out⟩
end Go.Proofs.YtlneiiljdghmjaaDoor
