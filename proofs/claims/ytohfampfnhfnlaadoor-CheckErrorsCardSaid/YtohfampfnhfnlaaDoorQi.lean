/- What the landed call Sure returns: the cells that are certain. Condition: a slice is as long as its capacity allows. -/
import Derived.Test.YtohfampfnhfnlaaDoorQg
import Derived.Laws.EntriesVeiled
namespace Go.Proofs.YtohfampfnhfnlaaDoor
open Go.RowKit Go.Shelf
set_option linter.unusedVariables false
attribute [local go_sem] Oper.semAt_some

theorem fill_step (i j : Nat) : (if j < i + 1 then 65535 else 0 : Nat) = if j = i then 65535 else if j < i then 65535 else 0 := by
  by_cases e : j = i
  · rw [if_pos e, if_pos (by omega)]
  · rw [if_neg e]
    by_cases h : j < i
    · rw [if_pos h, if_pos (by omega)]
    · rw [if_neg h, if_neg (by omega)]
theorem insAt_turned {V V' : World} {b o : Nat} {x : Ins} {row : Option Nat} (h : InsAt V b o x) (hg : V.grownBy V' row) (hr : ∀ r, row = some r → ∃ o : Obj, V.heap[r]? = some o ∧ o.isCells = false) : InsAt V' b o x :=
  ⟨cell_kept h.1 hg hr, cell_kept h.2 hg hr, cell_kept h.3 hg hr, cell_kept h.4 hg hr⟩
theorem insAt_but {V V' : World} {b o R : Nat} {x : Ins} (h : InsAt V b o x) (hg : V.grownBy V' (some R)) (hb : b ≠ R) : InsAt V' b o x := by
  have hk : V'.heap[b]? = V.heap[b]? := hg.block b (World.block_lt_of_cell? V _ h.1) (fun e => hb (by injection e))
  have hc : ∀ k, V'.cell? ⟨b, k, none⟩ = V.cell? ⟨b, k, none⟩ := fun k => World.cell?_of_block (a := ⟨b, k, none⟩) hk
  exact ⟨(hc _).trans h.1, (hc _).trans h.2, (hc _).trans h.3, (hc _).trans h.4⟩
theorem insAt_on {V V' : World} {b o : Nat} {x : Ins} (h : InsAt V b o x) (hb : Below V.heap.size V V') : InsAt V' b o x :=
  ⟨(hb.cell (World.block_lt_of_cell? V _ h.1)).trans h.1, (hb.cell (World.block_lt_of_cell? V _ h.2)).trans h.2, (hb.cell (World.block_lt_of_cell? V _ h.3)).trans h.3, (hb.cell (World.block_lt_of_cell? V _ h.4)).trans h.4⟩
theorem tq {a : Act} {k : Nat} {v : Value} (h : a.tmps.getD k undef = v) : a.tmps[k]?.getD undef = v := by rw [← h, Array.getD_eq_getD_getElem?]
theorem op_yield {F : Fence} {n : Nat} {P : Program} {o : Oper} {a : Act} {w : World} {K : Act → World → Prop} {Q : Exit → Act → World → Prop} {v : Value} (hd : ∀ c, o.op ≠ .defer c) (hc : ∀ c, o.op ≠ .call c) (h : (execOp a.eval o).run P w = .ok (.value v) w) (hK : K (a.put o.dst v) w) : o.wpIn F n P a w K Q := by
  refine ⟨fun f hf => ?_, ?_⟩
  · unfold Oper.about at hf
    split at hf
    · rename_i c hx; exact absurd hx (hc c)
    · cases hf
  · rw [Oper.semAt_plain F _ _ hd, h]; exact hK
theorem ite_lt16 {b : Bool} {x y : Nat} (hx : x < 65536) (hy : y < 65536) : (if b = true then x else y) < 65536 := by split <;> assumption
theorem lead_step (t : List Nat) (f : Nat → Nat) (v z y : Nat) : (if (t.contains z || z == y) = true then f z &&& v else f z) = if z = y then (if t.contains y then f y &&& v else f y) &&& v else if t.contains z then f z &&& v else f z := by
  by_cases h : z = y
  · subst h
    rw [if_pos rfl, if_pos (by simp)]
    split
    · rw [Nat.and_assoc, Nat.and_self]
    · rfl
  · rw [if_neg h, beq_eq_false_iff_ne.2 h, Bool.or_false]
/-- Between two rounds of the inner loop. -/
def RoundI (w : World) (B B2 n : Nat) (f : Nat → Nat) (z i : Nat) (x : Ins) (ds : List Deferred) (U : World) : Prop :=
  SureI w B B2 n f U ∧ Marks (w.heap.size + 1) z ds U ∧ U.cell? ⟨z, 0, none⟩ = some (.int .i64 (i : Nat)) ∧ InsAt U (z + 1) 0 x
theorem roundI_own (w : World) (B B2 n z i B' : Nat) (f : Nat → Nat) (x : Ins) (ds : List Deferred) (hB : w.heap.size ≤ B') (hz : z ≤ B') : OwnFrom B' (fun (_ : Unit) V => RoundI w B B2 n f z i x ds V) := by
  rintro s V V' row ⟨h1, h2, h3, h4⟩ hg hr
  exact ⟨sureI_own w B B2 n B' f hB () V V' row h1 hg hr, marks_own _ z B' ds hz () V V' row h2 hg hr, cell_kept h3 hg (fun r e => (hr r e).2), insAt_turned h4 hg (fun r e => (hr r e).2)⟩
set_option maxRecDepth 100000 in
set_option maxHeartbeats 8000000 in
theorem sure_short (a0 : Option Addr) (n cap : Nat) (p : List Ins) (w : World) (hl : p.length = n) (hn : n ≤ 4096) (hok : OkL p) (hG : GW w) (hR : RdI w w.heap.size a0 p) :
    Calls Tryd.prog 32 #[.slice a0 n cap] w (SetsTo n (sureRow p n) w) := by
  obtain ⟨i0, hi, hz0, hz1, hz2⟩ := info_parts u16_info
  have HI := Lib.hid hi
  have H0 := Lib.hid hz0
  have H1 := Lib.hid hz1
  have hm0 : i0.bytes * n ≤ 281474976710656 := by rw [hz2]; omega
  have hm1 : n ≤ maxLen := by unfold maxLen; omega
  have HL := Lib.hid hl
  have HR := Lib.hid hR
  have HO := Lib.hid hok
  have HG := Lib.hid hG
  have HT := Lib.hid (fun W => tooLong_call a0 n cap W)
  rw [decide_eq_false (show ¬ (4096 : Int) < n by omega)] at HT
  have HS := Lib.hid (fun (at_ : Int) W => successors_call a0 n cap at_ W)
  have n4 : (n : Int) ≤ 4096 := by omega
  clear hi hz0 hz1 hz2 hl hok hR hG
  obtain ⟨M, hM⟩ : ∃ M, M = sureRow p := ⟨_, rfl⟩
  have HM := Lib.hid hM
  have HMl := Lib.hid (fun i j => sureRow_lt p i j)
  rw [← hM] at HMl ⊢
  clear hM
  by_cases hn0 : 0 < n
  · have n1 : (0 : Int) < n := by omega
    have hdn : decide ((0 : Int) < n) = true := decide_eq_true n1
    refine (callsIn_wide (n := 4)).1 ?_
    refine callsIn_of_wp_marks Tryd.func32 rfl trivial ?_ rfl
    simp only [Tryd.ntmps32, List.size_toArray, List.length_cons, List.length_nil, Nat.reduceAdd, Nat.reduceSub, Array.replicate_succ, Array.replicate_zero, List.push_toArray, List.append_toArray, List.nil_append, List.cons_append]
    gi_wp2_with (first
      | (gi_at_make
         refine wpListIn_make_full _ rfl _ _ 83 rfl w.heap.size 32 i0 _ 1 Tryd.underlying83 HI.out H0.out H1.out .i64 .i64 n n n rfl rfl rfl rfl hm0 hm1 (Nat.le_refl _) ?_
         intro w1 o1 g1
         have b1 : Below w.heap.size w w1 := (Below.refl _ _).grown g1 (Nat.le_refl _) (by intro k hk; cases hk)
         rw [made_sets] at o1
         have hltB : w.heap.size < w1.heap.size := (o1.lt _ rfl).2
         have P1 := Lib.hid (o1.alloc (.cells #[.slice (some ⟨w.heap.size, 0, none⟩) n n] 83))
         have P2 := Lib.hid (Boxed.new w1 83 (.slice (some ⟨w.heap.size, 0, none⟩) n n))
         have P3 := Lib.hid (b1.alloc b1.size (.cells #[.slice (some ⟨w.heap.size, 0, none⟩) n n] 83))
         have c1 := P2.out.cell
         clear o1 g1 b1)
      | (refine ⟨trivial, ?_⟩
         gi_at_call 52
         refine (callsIn_wide.2 (HT.out _)).mono ?_
         rintro e w2 ⟨rfl, rfl⟩))
    obtain ⟨B, hB⟩ : ∃ B, B = w1.heap.size := ⟨_, rfl⟩
    rw [← hB] at P2 hltB ⊢
    clear c1
    gi_loopw [16] (fun v16 wr => ∃ i : Nat, i ≤ n ∧ v16 = .int .i64 i ∧ Hid (wr.ownsRow w.heap.size 32 1 (.slice (some ⟨w.heap.size, 0, none⟩) n n) n (rowS n (fun j => if j < i then 65535 else 0))) ∧ Hid (Boxed wr B 83 (.slice (some ⟨w.heap.size, 0, none⟩) n n)) ∧ Hid (Below w.heap.size w wr)) (fun v16 _ => n - (intOf v16).toNat)
    case atStart => exact ⟨0, Nat.zero_le _, rfl, Lib.hid (by rw [rowS_congr (g := fun _ => 0) (fun j _ => by simp)]; exact P1.out), P2, P3⟩
    case round =>
      clear P1 P2 P3 hB
      obtain ⟨i, hi, rfl, P1, P2, P3⟩ := hrel
      obtain ⟨V, rfl⟩ : ∃ wo : World, wo = wr := ⟨_, rfl⟩
      have c1 := P2.out.cell
      by_cases hlt : i < n
      · have i1 : (i : Int) < n := by omega
        have i2 : (0 : Int) ≤ i := by omega
        have s2 : V.cell? ⟨w.heap.size, i, none⟩ = some (.int .u16 ((if i < i then 65535 else 0 : Nat) : Int)) := (P1.out.cellAt i (by omega)).trans (rowS_get _ hlt)
        rw [if_neg (Nat.lt_irrefl i)] at s2
        have f2 := P1.out.frozenAt i
        have Q1 := Lib.hid (P1.out.stored i (.int .u16 ((65535 : Nat) : Int))).1
        have Q2 := Lib.hid ((heap_setCell_other V ⟨w.heap.size, i, none⟩ B (.int .u16 ((65535 : Nat) : Int)) (show B ≠ w.heap.size by omega)).trans P2.out)
        have Q3 := Lib.hid (P3.out.setCell (p := ⟨w.heap.size, i, none⟩) (Nat.le_refl _) (.int .u16 ((65535 : Nat) : Int)))
        clear P1 P2 P3
        gi_wp2
        go_roundw
        case rel =>
          refine ⟨i + 1, by omega, by go_num, Lib.hid ?_, Q2, Q3⟩
          have h := Q1.out
          rw [rowS_set] at h
          rw [rowS_congr (g := fun j => if j = i then 65535 else if j < i then 65535 else 0) (fun j _ => fill_step i j)]
          exact h
        case measure => simp [intOf]; omega
      · obtain rfl : n = i := by omega
        rw [rowS_congr (g := fun _ => 65535) (fun j hj => by rw [if_pos hj])] at P1
        have hBV := World.block_lt_of_cell? V _ c1
        have HA : Hid (SureI w B V.heap.size n (fun _ => 65535) (V.alloc (.cells #[.func (.func 53) #[] #[.pointer (some ⟨B, 0, none⟩)]] 98))) := Lib.hid ⟨P1.out.alloc _, P2.out.alloc _, Boxed.new V _ _, P3.out.alloc P3.out.size _⟩
        have hlt2 : w.heap.size < V.heap.size := by have h : B < V.heap.size := hBV; omega
        have HC := Lib.hid (leadI_call (x := 0) (v := 0) (g := M 0) hltB hlt2 hn0 (by omega) (by omega) HA.out (fun j => by rw [HM.out]; show (if j = 0 then 0 else 65535) = if j = 0 then 65535 &&& 0 else 65535; rfl))
        clear P1 P2 P3
        gi_wp2_with (refine ⟨trivial, ?_⟩
                     gi_at_call 53
                     refine (callsIn_wide.2 HC.out).mono ?_
                     rintro e V0 ⟨rfl, hA, _⟩
                     have HA2 := Lib.hid hA
                     have c2 := hA.2.1.cell
                     have c3 := hA.2.2.1.cell
                     clear hA)
        clear HC HA c1 c2 c3
        obtain ⟨B2, hB2⟩ : ∃ B2, B2 = V.heap.size := ⟨_, rfl⟩
        rw [← hB2] at HA2 hlt2 ⊢
        clear hBV hB2
        refine wpIn_loop (fun a' V => ∃ (i : Nat) (ds : List Deferred) (u6 u7 u31 u32 u33 u34 u35 u36 u37 u38 u50 : Value), i ≤ n ∧ u31 = .int .i64 (i : Int) ∧ a' = { tmps := #[.slice a0 n cap, undef, .slice none 0 0, .pointer (some ⟨B, 0, none⟩), u4, .pointer (some ⟨B2, 0, none⟩), u6, u7, undef, .slice a0 n cap, .bool false, .slice a0 n cap, .int .i64 n, .slice (some ⟨w.heap.size, 0, none⟩) n n, .slice (some ⟨w.heap.size, 0, none⟩) n n, .int .i64 n, .int .i64 n, .bool false, u18, u19, u20, u21, u22, .func (.func 53) #[] #[.pointer (some ⟨B, 0, none⟩)], .slice a0 n cap, .int .i64 n, .bool true, .func (.func 53) #[] #[.pointer (some ⟨B, 0, none⟩)], .tuple #[], .slice a0 n cap, .int .i64 n, u31, u32, u33, u34, u35, u36, u37, u38, undef, undef, undef, undef, undef, undef, undef, undef, undef, undef, undef, u50, undef], defers := ds } ∧ Hid (SureI w B B2 n (M i) V) ∧ Hid (Marks (w.heap.size + 1) V.heap.size ds V)) (fun a' _ => n - (intOf (a'.tmps.getD 31 undef)).toNat) ?start ?round
        case start => exact ⟨0, [], _, _, _, _, _, _, _, _, _, _, _, Nat.zero_le _, rfl, rfl, HA2, Lib.hid trivial⟩
        case round =>
          clear HA2
          rintro a' V ⟨i, ds, u6, u7, u31, u32, u33, u34, u35, u36, u37, u38, u50, hi, rfl, rfl, HA, HK⟩
          by_cases hlt3 : i < n
          · have hkl : i < p.length := by have := HL.out; omega
            obtain ⟨b, o, rfl, hb, hc⟩ := HR.out (by omega)
            obtain ⟨x, hx⟩ : ∃ x, x = p[i] := ⟨_, rfl⟩
            have hxo : x.Ok := by rw [hx]; exact HO.out.get hkl
            have hat : InsAt w b (o + i * 4) x := by rw [hx]; exact hc i hkl
            have HW := Lib.hid (show wrN p i = writesN x by unfold wrN; rw [List.getElem?_eq_getElem hkl, hx])
            have hV := HA.out.2.2.2
            obtain ⟨c, jt, jf, kk⟩ := x
            obtain ⟨q0, q1, q2, q3⟩ := hat
            simp only at q0 q1 q2 q3
            have r2 := (hV.cell (p := ⟨b, o + i * 4, none⟩) hb).trans q0
            have r3 := (hV.cell (p := ⟨b, o + i * 4 + 1, none⟩) hb).trans q1
            have r4 := (hV.cell (p := ⟨b, o + i * 4 + 2, none⟩) hb).trans q2
            have r5 := (hV.cell (p := ⟨b, o + i * 4 + 3, none⟩) hb).trans q3
            have i1 : (i : Int) < n := by omega
            have i2 : (0 : Int) ≤ i := by omega
            have bl := World.block_lt_of_cell? V _ r2
            have HV := Lib.hid hV
            have HX := Lib.hid hxo
            clear hx hxo q0 q1 q2 q3 hb hc hkl hV
            gi_wp2_with (refine ⟨trivial, ?_⟩
                         gi_at_call 54
                         refine (callsIn_wide.2 (HS.out _ _)).mono ?_
                         rintro e w2 ⟨rfl, rfl⟩)
            obtain ⟨W0, hW0⟩ : ∃ W0, W0 = (((V.alloc (.cells #[.int .i64 i] 3)).alloc (.cells #[.int .u16 c, .int .u8 jt, .int .u8 jf, .int .u32 kk] 35)).alloc (.cells #[.slice (some ⟨b, o, none⟩) n cap] 22)).alloc (.cells #[.int .i64 i] 3) := ⟨_, rfl⟩
            have z0 : W0.heap.size = V.heap.size + 4 := by rw [hW0]; simp
            have BW : Below V.heap.size V W0 := by rw [hW0]; exact ((((Below.refl _ _).alloc (Nat.le_refl _) _).alloc (by simp) _).alloc (by simp; omega) _).alloc (by simp; omega) _
            have x1 : W0.cell? ⟨V.heap.size + 2, 0, none⟩ = some (.slice (some ⟨b, o, none⟩) n cap) := by
              have h := ((Boxed.new ((V.alloc (.cells #[.int .i64 i] 3)).alloc (.cells #[.int .u16 c, .int .u8 jt, .int .u8 jf, .int .u32 kk] 35)) 22 (.slice (some ⟨b, o, none⟩) n cap)).alloc (.cells #[.int .i64 i] 3)).cell
              rw [World.size_alloc, World.size_alloc] at h
              rw [hW0]; exact h
            have x2 : W0.cell? ⟨V.heap.size + 3, 0, none⟩ = some (.int .i64 i) := by
              have h := (Boxed.new (((V.alloc (.cells #[.int .i64 i] 3)).alloc (.cells #[.int .u16 c, .int .u8 jt, .int .u8 jf, .int .u32 kk] 35)).alloc (.cells #[.slice (some ⟨b, o, none⟩) n cap] 22)) 3 (.int .i64 i)).cell
              rw [World.size_alloc, World.size_alloc, World.size_alloc] at h
              rw [hW0]; exact h
            have x3 : W0.cell? ⟨V.heap.size, 0, none⟩ = some (.int .i64 (i : Nat)) := by rw [hW0]; exact ((((Boxed.new V _ _).alloc _).alloc _).alloc _).cell
            have x4 : InsAt W0 (V.heap.size + 1) 0 ⟨c, jt, jf, kk⟩ := by
              have hx : Below ((V.alloc (.cells #[.int .i64 i] 3)).alloc (.cells #[.int .u16 c, .int .u8 jt, .int .u8 jf, .int .u32 kk] 35)).heap.size ((V.alloc (.cells #[.int .i64 i] 3)).alloc (.cells #[.int .u16 c, .int .u8 jt, .int .u8 jf, .int .u32 kk] 35)) W0 := by
                rw [hW0]; exact ((Below.refl _ _).alloc (Nat.le_refl _) _).alloc (by simp) _
              exact ⟨by have := box_cells hx 0 _ rfl; rwa [World.size_alloc] at this, by have := box_cells hx 1 _ rfl; rwa [World.size_alloc] at this, by have := box_cells hx 2 _ rfl; rwa [World.size_alloc] at this, by have := box_cells hx 3 _ rfl; rwa [World.size_alloc] at this⟩
            have hBW := thn HV.out BW
            have hG := succ_gives (V.heap.size + 3) (V.heap.size + 2) n cap (some ⟨b, o, none⟩) p i W0 HL.out hn HO.out (HG.out.on hBW) (by omega) (by omega) x2 x1 ((HR.out.below hBW (Nat.le_refl _)).more hBW.size)
            rw [nextA_nat] at hG
            have HN := Lib.hid (fun y (hy : y ∈ nextL p i) => nextL_lt hy)
            rw [HL.out] at HN
            have hst := Lib.hid (show ∀ j, M (i + 1) j = if (nextL p i).contains j then M i j &&& (M i i ||| wrN p i) else M i j from fun j => by rw [HM.out]; rfl)
            rw [HW.out] at hst
            obtain ⟨l, hl⟩ : ∃ l, l = nextL p i := ⟨_, rfl⟩
            rw [← hl] at hG HN hst
            have HWR := Lib.hid (fun U => written_any ⟨c, jt, jf, kk⟩ HX.out U)
            obtain ⟨wr, hwr⟩ : ∃ wr, wr = writesN ⟨c, jt, jf, kk⟩ := ⟨_, rfl⟩
            have hwrl : wr < 65536 := by rw [hwr]; exact writesN_lt _
            rw [← hwr] at hst HWR
            have hml : M i i < 65536 := HMl.out i i
            have HOR := Lib.hid (u16_or_nat (M i i) wr hml hwrl)
            obtain ⟨vv, hvv⟩ : ∃ vv, vv = M i i ||| wr := ⟨_, rfl⟩
            have hvl : vv < 65536 := by rw [hvv]; exact or_lt hml hwrl
            rw [← hvv] at hst HOR
            have HA0 := Lib.hid (show RoundI w B B2 n (M i) V.heap.size i ⟨c, jt, jf, kk⟩ ds W0 from ⟨HA.out.on BW, HK.out.keep (W' := W0) fun D _ _ h => (BW.block D (Array.getElem?_eq_some_iff.1 h).1).trans h, x3, x4⟩)
            have hRV := HV.out.size
            have hBV : B < V.heap.size := World.block_lt_of_cell? V _ HA.out.2.1.cell
            have hBV2 : B2 < V.heap.size := World.block_lt_of_cell? V _ HA.out.2.2.1.cell
            rw [← hW0]
            clear hW0 x1 x2 x3 x4 hl hBW BW hwr hvv r2 r3 r4 r5 bl
            refine wp_gives (S := (· = V.heap.size + 3)) (m := 2) (w0 := W0) (xs := plV l) (gf := 78) (lb := #[.pointer (some ⟨V.heap.size + 3, 0, none⟩), .pointer (some ⟨V.heap.size + 2, 0, none⟩)]) rfl (enters_of Tryd.func78 (by kernel_rfl) rfl) hG (Below.refl _ _)
              (fun j U => RoundI w B B2 n (fun y => if (l.take j).contains y then M i y &&& vv else M i y) V.heap.size i ⟨c, jt, jf, kk⟩ ds U) (fun _ _ => False)
              (fun j => roundI_own w B B2 n V.heap.size i W0.heap.size _ _ ds (by omega) (by omega) ()) (fun _ _ _ _ h _ _ => h)
              (by rw [show (fun y => if (l.take 0).contains y then M i y &&& vv else M i y) = M i from funext fun y => by simp]; exact HA0.out) ?after ?assign ?body ?done ?stop
            case assign =>
              intro lp x U K hK
              gi_wp2
              exact hK
            case body =>
              rintro lp j x U hx ⟨hr, hmk, ha1, ha2⟩ hz
              obtain ⟨y, hy, rfl⟩ := plV_get0 hx
              have hj : j < l.length := (List.getElem?_eq_some_iff.1 hy).1
              have hyn := HN.out y (List.mem_of_getElem? hy)
              have hyd : l.getD j 0 = y := by rw [List.getD_eq_getElem?_getD, hy]; rfl
              have hni : (l.take j).contains i = false := by
                rw [Bool.eq_false_iff]
                intro h
                have := (HN.out i (List.mem_of_mem_take (List.contains_iff_mem.1 h))).1
                omega
              have HC := Lib.hid (fun W (hW : SureI w B B2 n (fun y => if (l.take j).contains y then M i y &&& vv else M i y) W) => leadI_call (v := vv) (f := fun y => if (l.take j).contains y then M i y &&& vv else M i y) (g := fun z => if (l.take (j + 1)).contains z then M i z &&& vv else M i z) hltB hlt2 hyn.2 (show (if (l.take j).contains y = true then M i y &&& vv else M i y) < 65536 from ite_lt16 (and_lt (HMl.out i y)) (HMl.out i y)) hvl hW (fun z => by rw [take_contains hj z, hyd]; exact lead_step (l.take j) (M i) vv z y))
              have s1 : U.cell? ⟨w.heap.size, i, none⟩ = some (.int .u16 (M i i : Nat)) := by
                have h := (hr.1.cellAt i (by omega)).trans (rowS_get _ hlt3)
                simp only [hni] at h
                exact h
              gi_wp2
              refine region_last (by kernel_rfl) 9 (fun k => 40 + k) (by kernel_rfl) (fun i j h => by omega) (fun k hk => by simp; omega) (fun k => match k with | 0 => .func (.func 53) #[] #[.pointer (some ⟨B, 0, none⟩)] | 1 => .int .i64 (y : Nat) | 2 => .slice (some ⟨w.heap.size, 0, none⟩) n n | 3 => .int .i64 (i : Nat) | 4 => .pointer (some ⟨w.heap.size, i, none⟩) | 5 => .int .u16 (M i i : Nat) | 6 => .agg #[.int .u16 c, .int .u8 jt, .int .u8 jf, .int .u32 kk] | 7 => .int .u16 (wr : Nat) | 8 => .int .u16 (vv : Nat) | _ => undef) (Below U.heap.size U) (Below.refl _ _).drew ?op ?last
              case op =>
                intro k oo hk ho a' w' hw hfr hdp K hK
                have e3 : a'.tmps[3]?.getD undef = .pointer (some ⟨B, 0, none⟩) := tq <| hfr 3 (fun j _ => by omega)
                have e5 : a'.tmps[5]?.getD undef = .pointer (some ⟨B2, 0, none⟩) := tq <| hfr 5 (fun j _ => by omega)
                have e6 : a'.tmps[6]?.getD undef = .pointer (some ⟨V.heap.size, 0, none⟩) := tq <| hfr 6 (fun j _ => by omega)
                have e7 : a'.tmps[7]?.getD undef = .pointer (some ⟨V.heap.size + 1, 0, none⟩) := tq <| hfr 7 (fun j _ => by omega)
                have e8 : a'.tmps[8]?.getD undef = .int .i64 (y : Nat) := tq <| hfr 8 (fun j _ => by omega)
                have d1 := (hw.cell (World.block_lt_of_cell? U _ hr.2.1.cell)).trans hr.2.1.cell
                have d2 := (hw.cell (World.block_lt_of_cell? U _ hr.2.2.1.cell)).trans hr.2.2.1.cell
                have d3 := (hw.cell (World.block_lt_of_cell? U _ ha1)).trans ha1
                have d4 := (hw.cell (World.block_lt_of_cell? U _ s1)).trans s1
                obtain ⟨t0, t1, t2, t3⟩ := insAt_on ha2 hw
                simp only [Nat.zero_add] at t0 t1 t2 t3
                have hcase : k = 0 ∨ k = 1 ∨ k = 2 ∨ k = 3 ∨ k = 4 ∨ k = 5 ∨ k = 6 ∨ k = 7 ∨ k = 8 := by omega
                rcases hcase with rfl | rfl | rfl | rfl | rfl | rfl | rfl | rfl | rfl
                · cases ho
                  refine op_yield (fun c h => by cases h) (fun c h => by cases h) ?_ (hK w' hw)
                  go_simp
                · cases ho
                  refine op_yield (fun c h => by cases h) (fun c h => by cases h) ?_ (hK w' hw)
                  go_simp
                · cases ho
                  refine op_yield (fun c h => by cases h) (fun c h => by cases h) ?_ (hK w' hw)
                  go_simp
                · cases ho
                  refine op_yield (fun c h => by cases h) (fun c h => by cases h) ?_ (hK w' hw)
                  go_simp
                · cases ho
                  have g2 : a'.tmps[42]?.getD undef = .slice (some ⟨w.heap.size, 0, none⟩) n n := tq <| hdp ⟨2, .data⟩ (by simp) rfl
                  have g3 : a'.tmps[43]?.getD undef = .int .i64 (i : Nat) := tq <| hdp ⟨3, .data⟩ (by simp) rfl
                  refine op_yield (fun c h => by cases h) (fun c h => by cases h) ?_ (hK w' hw)
                  go_simp
                · cases ho
                  have g4 : a'.tmps[44]?.getD undef = .pointer (some ⟨w.heap.size, i, none⟩) := tq <| hdp ⟨4, .data⟩ (by simp) rfl
                  refine op_yield (fun c h => by cases h) (fun c h => by cases h) ?_ (hK w' hw)
                  go_simp
                · cases ho
                  refine op_yield (fun c h => by cases h) (fun c h => by cases h) ?_ (hK w' hw)
                  go_simp
                · cases ho
                  have g6 : a'.tmps[46]?.getD undef = .agg #[.int .u16 c, .int .u8 jt, .int .u8 jf, .int .u32 kk] := tq <| hdp ⟨6, .data⟩ (by simp) rfl
                  go_simp
                  refine ⟨trivial, (CallsIn.inRound lp (callsIn_wide.2 (HWR.out w'))).mono ?_⟩
                  rintro e w'' ⟨rfl, rfl⟩
                  exact hK _ (hw.alloc hw.size _)
                · cases ho
                  have g5 : a'.tmps[45]?.getD undef = .int .u16 (M i i : Nat) := tq <| hdp ⟨5, .data⟩ (by simp) rfl
                  have g7 : a'.tmps[47]?.getD undef = .int .u16 (wr : Nat) := tq <| hdp ⟨7, .data⟩ (by simp) rfl
                  have hor := HOR.out
                  refine op_yield (fun c h => by cases h) (fun c h => by cases h) ?_ (hK w' hw)
                  go_simp
              case last =>
                intro oo ho a' w' hw hfr hv K hK
                cases ho
                have g0 : a'.tmps[40]?.getD undef = .func (.func 53) #[] #[.pointer (some ⟨B, 0, none⟩)] := tq <| hv 0 (by omega)
                have g1 : a'.tmps[41]?.getD undef = .int .i64 (y : Nat) := tq <| hv 1 (by omega)
                have g8 : a'.tmps[48]?.getD undef = .int .u16 (vv : Nat) := tq <| hv 8 (by omega)
                go_simp
                refine ⟨trivial, (CallsIn.inRound lp (callsIn_wide.2 (HC.out w' (SureI.on hr hw)))).mono ?_⟩
                rintro e U' ⟨rfl, hr', hg'⟩
                have hblk : ∀ b, b < U.heap.size → b ≠ w.heap.size → U'.heap[b]? = U.heap[b]? := fun b h1 h2 => (hg'.block b (by have := hw.size; omega) (fun e => h2 (by injection e))).trans (hw.block b h1)
                refine hK _ _ ⟨(KeepsFrom.of_grownBy (grown_below hw) (fun k e => by cases e)).trans (KeepsFrom.of_grownBy hg' (fun k e => by cases e; omega)), ⟨(hw.mono (Nat.zero_le _)).grown hg' (Nat.zero_le _) (fun k e => Nat.zero_le _), fun b o h1 h3 h4 => (hblk b (Array.getElem?_eq_some_iff.1 h3).1 (by rcases h1 with h1 | h1 <;> omega)).trans h3⟩, hr', ?_, ?_, ?_⟩
                · exact hmk.keep fun D h1 h2 h3 => (hblk D (Array.getElem?_eq_some_iff.1 h3).1 (by omega)).trans h3
                · rw [World.cell?_of_block (a := ⟨V.heap.size, 0, none⟩) (hblk V.heap.size (World.block_lt_of_cell? U _ ha1) (by omega))]; exact ha1
                · exact insAt_but (insAt_on ha2 hw) hg' (by omega)
            case done =>
              rintro U ⟨hr, hmk, _, _⟩ hK
              rw [plV_len, List.take_of_length_le (Nat.le_refl _)] at hr
              have hD : W0.heap.size < U.heap.size := (Array.getElem?_eq_some_iff.1 hK).1
              gi_wp2
              refine ⟨⟨i + 1, by omega, { target := .collected W0.heap.size, args := #[] } :: ds, ⟨by omega, by rw [z0]⟩, Lib.hid (show SureI w B B2 n (M (i + 1)) U by rw [show M (i + 1) = fun y => if l.contains y then M i y &&& vv else M i y from funext fun j => hst.out j]; exact hr), Lib.hid (((hmk.raise (by omega)).push (by omega) hK).raise hD)⟩, ?_⟩
              simp [intOf]; omega
            case stop =>
              rintro j U h _
              exact h.elim
          · obtain rfl : n = i := by omega
            have c1 := HA.out.2.1.cell
            gi_wp2
            refine leaves_marks ds _ V HK.out fun W' hT => ?_
            have h := hT (fun _ U => SureI w B B2 n (M n) U) (sureI_own w B B2 n _ _ (by omega)) HA.out
            exact ⟨_, results_tmp rfl _ _ _, _, _, rfl, h.1, h.2.2.2⟩
  · obtain rfl : n = 0 := by omega
    refine (callsIn_wide (n := 4)).1 ?_
    refine callsIn_of_wp_marks Tryd.func32 rfl trivial ?_ rfl
    simp only [Tryd.ntmps32, List.size_toArray, List.length_cons, List.length_nil, Nat.reduceAdd, Nat.reduceSub, Array.replicate_succ, Array.replicate_zero, List.push_toArray, List.append_toArray, List.nil_append, List.cons_append]
    gi_wp2_with (first
      | (gi_at_make
         refine wpListIn_make_full _ rfl _ _ 83 rfl w.heap.size 32 i0 _ 1 Tryd.underlying83 HI.out H0.out H1.out .i64 .i64 0 0 0 rfl rfl rfl rfl hm0 hm1 (Nat.le_refl _) ?_
         intro w1 o1 g1
         have b1 : Below w.heap.size w w1 := (Below.refl _ _).grown g1 (Nat.le_refl _) (by intro k hk; cases hk)
         rw [made_sets] at o1)
      | (refine ⟨trivial, ?_⟩
         gi_at_call 52
         refine (callsIn_wide.2 (HT.out _)).mono ?_
         rintro e w2 ⟨rfl, rfl⟩))
    refine wpIn_loop_rounds 1 ?_
    rw [roundsIn_succ]
    gi_wp2
    refine wpIn_loop_rounds 1 ?_
    rw [roundsIn_succ]
    gi_wp2
    exact ⟨_, results_tmp rfl _ _ _, _, _, rfl, by rw [rowS_congr (g := fun _ => 0) (fun j hj => absurd hj (by omega))]; exact (o1.alloc _).alloc _, (b1.alloc b1.size _).alloc (by have := b1.size; simp; omega) _⟩
theorem sure_c (a0 : Option Addr) (n cap : Nat) (p : List Ins) (w : World) (hG : GW w) (hl : p.length = n) (hok : OkL p) (hR : RdI w w.heap.size a0 p) : Calls Tryd.prog 32 #[.slice a0 n cap] w (SetsTo (lenX n) (sureN p) w) := by
  unfold lenX
  by_cases hn : n ≤ 4096
  · rw [if_pos hn]
    have h := sure_short a0 n cap p w hl hn hok hG hR
    rwa [show sureRow p n = sureN p from funext fun j => by rw [← hl]; exact sureRow_done hok j] at h
  · rw [if_neg hn]
    exact (sure_long a0 n cap w (by omega)).mono fun e w' ⟨h1, h2⟩ => ⟨none, 0, h1, h2 ▸ World.ownsRow_nil _ _ _ _, h2 ▸ Below.refl _ _⟩
end Go.Proofs.YtohfampfnhfnlaaDoor
