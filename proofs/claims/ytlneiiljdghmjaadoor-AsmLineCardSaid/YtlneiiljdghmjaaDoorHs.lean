/- What the landed readAll makes of a text's lines. Conditions: the tables and the library's two errors lie in their variables; a text of at most 2^47 bytes. -/
import Derived.Test.YtlneiiljdghmjaaDoorHr
namespace Go.Proofs.YtlneiiljdghmjaaDoor
open Go.RowKit Go.Shelf
set_option linter.unusedVariables false
set_option linter.unusedSimpArgs false
attribute [local go_sem] Oper.semAt_some

theorem read_bad (l : List UInt8) (hl : l.length ≤ 140737488355328) (at_ : Nat) (hat : at_ ≤ 1099511627776) (h : readL l at_ = none) (w : World) (hG : GP w) :
    Calls Tryd.prog 51 #[.string (bs l), .int .i64 at_] w fun e w' => ∃ c jt jf k : Int, e = .returned (.tuple #[.agg #[.int .u16 c, .int .u8 jt, .int .u8 jf, .int .u32 k], .bool false]) ∧ Below w.heap.size w w' :=
  (read_call l hl at_ hat w hG).mono fun e w' ⟨i, b, h1, h2, h3⟩ => by
    cases b with
    | true => rw [h] at h2; cases h2
    | false => exact ⟨i.c, i.jt, i.jf, i.k, h1, h3⟩
theorem read_good (l : List UInt8) (hl : l.length ≤ 140737488355328) (at_ : Nat) (hat : at_ ≤ 1099511627776) {i : Ins} (h : readL l at_ = some i) (w : World) (hG : GP w) :
    Calls Tryd.prog 51 #[.string (bs l), .int .i64 at_] w fun e w' => e = .returned (.tuple #[.agg #[.int .u16 i.c, .int .u8 i.jt, .int .u8 i.jf, .int .u32 i.k], .bool true]) ∧ Below w.heap.size w w' :=
  (read_call l hl at_ hat w hG).mono fun e w' ⟨j, b, h1, h2, h3⟩ => by
    cases b with
    | false => rw [h] at h2; cases h2
    | true =>
      rw [h] at h2
      injection h2 with h2
      subst h2
      exact ⟨h1, h3⟩
theorem suffix_le (l : List UInt8) : (Lib.trimSuffix l [10]).length ≤ l.length := by
  unfold Lib.trimSuffix
  split
  · rw [List.length_take]; omega
  · exact Nat.le_refl _
theorem boxed_grown {W W' : World} {B : Nat} {t : TypeId} {v : Value} {row : Option Nat} (h : Boxed W B t v) (hg : W.grownBy W' row) (hr : ∀ r, row = some r → ∃ o : Obj, W.heap[r]? = some o ∧ o.isCells = false) : Boxed W' B t v := h.kept hg fun e => by
  obtain ⟨o, ho2, hc⟩ := hr _ e.symm
  rw [show W.heap[B]? = _ from h] at ho2; cases ho2; cases hc
theorem boxed_below {W W' : World} {B : Nat} {t : TypeId} {v : Value} (h : Boxed W B t v) (b : Below W.heap.size W W') : Boxed W' B t v := (b.block _ (Array.getElem?_eq_some_iff.1 h).1).trans h
theorem owned_grown {W W' : World} {B n s : Nat} {e : TypeId} {v : Value} {xs : List Value} {row : Option Nat} (h : W.ownsRow B e s v n xs) (hg : W.grownBy W' row) (hr : ∀ r, row = some r → ∃ o : Obj, W.heap[r]? = some o ∧ o.isCells = false) : W'.ownsRow B e s v n xs := by
  refine h.kept hg ?_
  rcases h.2 with ⟨rfl, _⟩ | ⟨g, cap, cur, rfl, _, hgb, _⟩
  · exact .inl rfl
  · refine .inr fun e => ?_
    obtain ⟨o, ho2, hc⟩ := hr g e.symm
    rw [hgb] at ho2; cases ho2; cases hc
/-- The two boxes of the results. -/
def RaR (w V : World) : Prop := Boxed V w.heap.size 22 (.slice none 0 0) ∧ Boxed V (w.heap.size + 1) 4 (.bool false) ∧ Below w.heap.size w V
/-- Between two rounds. -/
def RaI (w : World) (ls : List (List UInt8)) (k : Nat) (V : World) : Prop :=
  ∃ (v : Value) (p : List Ins), Boxed V (w.heap.size + 2) 22 v ∧ V.ownsRow (w.heap.size + 4) 33 4 v p.length (progC p) ∧ p.length ≤ 4096 ∧ readAllL ls [] = readAllL (ls.drop k) p ∧ RaR w V
def RaX (w : World) (ls : List (List UInt8)) (_ : Nat) (V : World) : Prop := readAllL ls [] = none ∧ RaR w V
theorem raR_grown {w V V' : World} {row : Option Nat} (h : RaR w V) (hg : V.grownBy V' row) (hr : ∀ r, row = some r → w.heap.size ≤ r ∧ ∃ o : Obj, V.heap[r]? = some o ∧ o.isCells = false) : RaR w V' :=
  ⟨boxed_grown h.1 hg (fun r e => (hr r e).2), boxed_grown h.2.1 hg (fun r e => (hr r e).2), h.2.2.grown hg h.2.2.size (fun k e => (hr k e).1)⟩
theorem raI_own (w : World) (ls : List (List UInt8)) (B : Nat) (hB : w.heap.size ≤ B) : OwnFrom B (RaI w ls) := fun k V V' row ⟨v, p, h1, h2, h3, h4, h5⟩ hg hr =>
  ⟨v, p, boxed_grown h1 hg (fun r e => (hr r e).2), owned_grown h2 hg (fun r e => (hr r e).2), h3, h4, raR_grown h5 hg (fun r e => ⟨by have := (hr r e).1; omega, (hr r e).2⟩)⟩
theorem raX_own (w : World) (ls : List (List UInt8)) (B : Nat) (hB : w.heap.size ≤ B) : OwnFrom B (RaX w ls) := fun k V V' row ⟨h4, h5⟩ hg hr =>
  ⟨h4, raR_grown h5 hg (fun r e => ⟨by have := (hr r e).1; omega, (hr r e).2⟩)⟩
/-- What readAll has to return. -/
def ReadAllTo (s : List UInt8) (w : World) (e : Ending) (w' : World) : Prop :=
  (∃ (q : List Ins) (a : Option Addr) (c : Nat), readAllL (cutsL s) [] = some q ∧ e = .returned (.tuple #[.slice a q.length c, .bool true]) ∧ RdI w' w'.heap.size a q ∧ q.length ≤ c ∧ c ≤ maxLen ∧ (a = none → c = 0) ∧ Below w.heap.size w w') ∨
  (readAllL (cutsL s) [] = none ∧ e = .returned (.tuple #[.slice none 0 0, .bool false]) ∧ Below w.heap.size w w')
theorem news_lit' (w : World) (cs : Array Value) (e : TypeId) (l : List Value) {s : Nat} (hs : s = w.heap.size) (h : cs.toList = l) : ∀ j u, l[j]? = some u → (w.alloc (.cells cs e)).cell? ((⟨s, 0, none⟩ : Addr).add j) = some u := by
  subst hs; exact news_lit w cs e l h
theorem drop_at {ls : List (List UInt8)} {k : Nat} {t : List UInt8} (h : ls[k]? = some t) : ls.drop k = t :: ls.drop (k + 1) := by
  obtain ⟨hk, e⟩ := List.getElem?_eq_some_iff.1 h
  rw [List.drop_eq_getElem_cons hk, e]
set_option maxRecDepth 100000 in
set_option maxHeartbeats 16000000 in
theorem readAll_call (s : List UInt8) (hs : s.length ≤ 140737488355328) (w : World) (hG : GP w) : Calls Tryd.prog 34 #[.string (bs s)] w (ReadAllTo s w) := by
  obtain ⟨i0, hi, hz0, hz1, hz2⟩ := info_parts insn_info
  have HI := Lib.hid hi
  have H0 := Lib.hid hz0
  have H1 := Lib.hid hz1
  have H2 := Lib.hid hz2
  have HG := Lib.hid hG
  have HLC := Lib.hid (fun W => linesS_call (bs s) W)
  have HLG := Lib.hid (fun z W (hz : Boxed W z 9 (.string (bs s))) => linesS_gives z s hs W hz)
  have HSZ := Lib.hid hs
  have HLE := Lib.hid (fun x (h : x ∈ cutsL s) => Nat.le_trans (cuts_le h) hs)
  unfold ReadAllTo
  obtain ⟨ls, hls⟩ : ∃ ls, ls = cutsL s := ⟨_, rfl⟩
  rw [← hls] at HLG HLE ⊢
  clear hi hz0 hz1 hz2 hG hs hls
  refine (callsIn_wide (n := 4)).1 ?_
  refine callsIn_of_wp_marks Tryd.func34 rfl trivial ?_ rfl
  simp only [Tryd.ntmps34, List.size_toArray, List.length_cons, List.length_nil, Nat.reduceAdd, Nat.reduceSub, Array.replicate_succ, Array.replicate_zero, List.push_toArray, List.append_toArray, List.nil_append, List.cons_append]
  gi_wp2_with (refine ⟨trivial, ?_⟩
               gi_at_call 48
               refine (callsIn_wide.2 (HLC.out _)).mono ?_
               rintro e w2 ⟨rfl, rfl⟩)
  obtain ⟨W0, hW0⟩ : ∃ W0, W0 = (((w.alloc (.cells #[.slice none 0 0] 22)).alloc (.cells #[.bool false] 4)).alloc (.cells #[.slice none 0 0] 22)).alloc (.cells #[.string (bs s)] 9) := ⟨_, rfl⟩
  have z0 : W0.heap.size = w.heap.size + 4 := by rw [hW0]; simp
  have B0 : Below w.heap.size w W0 := by rw [hW0]; exact ((((Below.refl _ _).alloc (Nat.le_refl _) _).alloc (by simp) _).alloc (by simp; omega) _).alloc (by simp; omega) _
  have x0 : Boxed W0 w.heap.size 22 (.slice none 0 0) := by rw [hW0]; exact (((Boxed.new w _ _).alloc _).alloc _).alloc _
  have x1 : Boxed W0 (w.heap.size + 1) 4 (.bool false) := by
    have h := Boxed.new (w.alloc (.cells #[.slice none 0 0] 22)) 4 (.bool false)
    rw [World.size_alloc] at h
    rw [hW0]; exact (h.alloc _).alloc _
  have x2 : Boxed W0 (w.heap.size + 2) 22 (.slice none 0 0) := by
    have h := Boxed.new ((w.alloc (.cells #[.slice none 0 0] 22)).alloc (.cells #[.bool false] 4)) 22 (.slice none 0 0)
    rw [World.size_alloc, World.size_alloc] at h
    rw [hW0]; exact h.alloc _
  have x3 : Boxed W0 (w.heap.size + 3) 9 (.string (bs s)) := by
    have h := Boxed.new (((w.alloc (.cells #[.slice none 0 0] 22)).alloc (.cells #[.bool false] 4)).alloc (.cells #[.slice none 0 0] 22)) 9 (.string (bs s))
    rw [World.size_alloc, World.size_alloc, World.size_alloc] at h
    rw [hW0]; exact h
  rw [← hW0]
  have hg := HLG.out _ _ x3
  have I0 := Lib.hid (show RaI w ls 0 W0 from ⟨_, [], x2, World.ownsRow_nil _ _ _ _, by simp, by rw [List.drop_zero], x0, x1, B0⟩)
  clear hW0 x0 x1 x2 x3 B0 HLC HLG
  refine wp_givesK (w0 := W0) (gf := 55) (lb := #[.pointer (some ⟨w.heap.size + 3, 0, none⟩)]) (Kp := KeepZ (w.heap.size + 3)) (Z := (· = w.heap.size + 3)) (xs := strV ls)
    rfl (enters_of Tryd.func55 (by kernel_rfl) rfl) hg (Below.refl _ _) (keepZ_rel _ _ (by omega)) (RaI w ls) (RaX w ls)
    (raI_own _ _ _ (by omega)) (raX_own _ _ _ (by omega)) (fun z h => by omega) ?iz I0.out ?after ?assign ?body ?done ?stop
  case iz =>
    rintro k z V v rfl ⟨v', p, h1, h2, h3, h4, h5, h6, h7⟩
    have kb : ∀ {B : Nat} {t : TypeId} {u : Value}, B ≠ w.heap.size + 3 → Boxed V B t u → Boxed (V.setCell ⟨w.heap.size + 3, 0, none⟩ v) B t u := fun {B t u} hne hb => (heap_setCell_other V _ B _ (show B ≠ w.heap.size + 3 from hne)).trans hb
    refine ⟨v', p, kb (by omega) h1, h2.kept (grownBy_setCell' V (w.heap.size + 3) v) ?_, h3, h4, kb (by omega) h5, kb (by omega) h6, h7.setCell (p := ⟨w.heap.size + 3, 0, none⟩) (by show w.heap.size ≤ w.heap.size + 3; omega) _⟩
    rcases h2.2 with ⟨rfl, _⟩ | ⟨g, cap, cur, rfl, hgB, _⟩
    · exact .inl rfl
    · refine .inr fun e => ?_
      have e2 : g = w.heap.size + 3 := by simpa [Value.ownBlock] using e
      omega
  case assign =>
    intro lp x V K hK
    gi_wp2
    exact hK
  case body =>
    rintro lp k x V hx ⟨v, p, hv, hrow, hp, hra, hR⟩ hz
    obtain ⟨t, ht, rfl⟩ := strV_at hx
    have htl := HLE.out t (List.mem_of_getElem? ht)
    have hul := Nat.le_trans (suffix_le t) htl
    have HT := Lib.hid (fun W => trimS_call t htl W)
    obtain ⟨u, hu⟩ : ∃ u, u = Lib.trimSuffix t [10] := ⟨_, rfl⟩
    have hst : readAllL ls [] = _ := hra.trans (by rw [drop_at ht, readAll_cons])
    rw [← hu] at HT hul hst
    have HH := Lib.hid (fun W => hasS_call u hul W)
    obtain ⟨q, c, rfl, _, _, _⟩ := own_shapeI hrow
    have YV := Lib.hid hv
    have YO := Lib.hid hrow
    have YR := Lib.hid hR
    have HGV := Lib.hid (HG.out.on hR.2.2)
    have n4 : (p.length : Int) ≤ 4096 := by omega
    obtain ⟨n, hn⟩ : ∃ n, n = p.length := ⟨_, rfl⟩
    have HN := Lib.hid hn
    have HST := Lib.hid hst
    have hc4 := hv.cell
    clear hx hu hst hra hv hrow hR hg ht
    cases hsu : Lib.hasSuffix u [58] with
    | true =>
      rw [hsu] at HH
      have HE := Lib.hid (show readAllL ls [] = readAllL (ls.drop (k + 1)) p by rw [HST.out, hsu, if_pos rfl])
      clear hsu hn htl hul
      gi_wp2_with (first
          | (refine ⟨trivial, ?_⟩
             gi_at_call 49
             refine (CallsIn.inRound lp (callsIn_wide.2 (HT.out _))).mono ?_
             rintro e V0 ⟨rfl, rfl⟩)
          | (refine ⟨trivial, ?_⟩
             gi_at_call 50
             refine (CallsIn.inRound lp (callsIn_wide.2 (HH.out _))).mono ?_
             rintro e V0 ⟨rfl, rfl⟩))
      exact ⟨KeepsFrom.refl _ _, ⟨Nat.le_refl _, fun _ h => h⟩, ⟨_, p, YV.out, YO.out, hp, HE.out, YR.out⟩⟩
    | false =>
      rw [hsu] at HH
      cases hrl : readL u p.length with
      | none =>
        have HE := Lib.hid (show readAllL ls [] = none by rw [HST.out, hsu, hrl]; rfl)
        have HRD := Lib.hid (read_bad u hul p.length (by omega) hrl V HGV.out)
        rw [← hn] at HRD n4 hc4 YV
        clear hsu hn htl hul hrl
        gi_wp2_with (first
          | (refine ⟨trivial, ?_⟩
             gi_at_call 49
             refine (CallsIn.inRound lp (callsIn_wide.2 (HT.out _))).mono ?_
             rintro e V0 ⟨rfl, rfl⟩)
          | (refine ⟨trivial, ?_⟩
             gi_at_call 50
             refine (CallsIn.inRound lp (callsIn_wide.2 (HH.out _))).mono ?_
             rintro e V0 ⟨rfl, rfl⟩)
          | (refine ⟨trivial, ?_⟩
             gi_at_call 51
             refine (CallsIn.inRound lp (callsIn_wide.2 HRD.out)).mono ?_
             rintro e V1 ⟨cc, jt, jf, kk, rfl, b1⟩
             have C1 := Lib.hid b1
             have y0 := (boxed_below YR.out.1 b1).alloc (.cells #[.int .u16 cc, .int .u8 jt, .int .u8 jf, .int .u32 kk] 33)
             have y1 := (boxed_below YR.out.2.1 b1).alloc (.cells #[.int .u16 cc, .int .u8 jt, .int .u8 jf, .int .u32 kk] 33)
             have y2 := (boxed_below YV.out b1).alloc (.cells #[.int .u16 cc, .int .u8 jt, .int .u8 jf, .int .u32 kk] 33)
             have o1 := Lib.hid ((own_below YO.out b1).alloc (.cells #[.int .u16 cc, .int .u8 jt, .int .u8 jf, .int .u32 kk] 33))
             have Y0 := Lib.hid y0
             have Y1 := Lib.hid y1
             have Y2 := Lib.hid y2
             have d0 := y0.cell
             have f0 := y0.frozen
             have d1 := y1.cell
             have f1 := y1.frozen
             have d2 := y2.cell
             clear b1 y0 y1 y2))
        have bf : Below w.heap.size V (V1.alloc (.cells #[.int .u16 cc, .int .u8 jt, .int .u8 jf, .int .u32 kk] 33)) := (C1.out.mono YR.out.2.2.size).alloc (Nat.le_trans YR.out.2.2.size C1.out.size) _
        have kf : KeepsOthers V (V1.alloc (.cells #[.int .u16 cc, .int .u8 jt, .int .u8 jf, .int .u32 kk] 33)) := (KeepsOthers.of_grownBy (grownNone C1.out) (by intro j o e; cases e)).trans (KeepsOthers.alloc _ _)
        refine ⟨((kf.trans (KeepsOthers.setCell _ _ _)).trans (KeepsOthers.setCell _ _ _)).from _, HE.out, ?_, ?_, ((YR.out.2.2.trans bf).setCell (p := ⟨w.heap.size, 0, none⟩) (Nat.le_refl _) _).setCell (p := ⟨w.heap.size + 1, 0, none⟩) (Nat.le_succ _) _⟩
        · exact (heap_setCell_other _ _ w.heap.size _ (show w.heap.size ≠ w.heap.size + 1 by omega)).trans (Y0.out.set _)
        · have h1 : Boxed ((V1.alloc (.cells #[.int .u16 cc, .int .u8 jt, .int .u8 jf, .int .u32 kk] 33)).setCell ⟨w.heap.size, 0, none⟩ (.slice none 0 0)) (w.heap.size + 1) 4 (.bool false) := (heap_setCell_other _ ⟨w.heap.size, 0, none⟩ (w.heap.size + 1) _ (show w.heap.size + 1 ≠ w.heap.size by omega)).trans Y1.out
          exact h1.set _
      | some i =>
        have HRD := Lib.hid (read_good u hul p.length (by omega) hrl V HGV.out)
        have HIN := Lib.hid (show insC i = insC ⟨i.c, i.jt, i.jf, i.k⟩ from rfl)
        by_cases hp4 : p.length = 4096
        · have HE := Lib.hid (show readAllL ls [] = none by rw [HST.out, hsu, hrl]; show (if p.length = 4096 then none else _) = _; rw [if_pos hp4])
          have e4 : ((n : Int) == 4096) = true := beq_iff_eq.2 (by omega)
          obtain ⟨cc, jt, jf, kk⟩ := i
          simp only at HRD
          rw [← hn] at HRD n4 hc4 YV
          clear hsu hn htl hul hrl HIN hp4
          gi_wp2_with (first
          | (refine ⟨trivial, ?_⟩
             gi_at_call 49
             refine (CallsIn.inRound lp (callsIn_wide.2 (HT.out _))).mono ?_
             rintro e V0 ⟨rfl, rfl⟩)
          | (refine ⟨trivial, ?_⟩
             gi_at_call 50
             refine (CallsIn.inRound lp (callsIn_wide.2 (HH.out _))).mono ?_
             rintro e V0 ⟨rfl, rfl⟩)
          | (refine ⟨trivial, ?_⟩
             gi_at_call 51
             refine (CallsIn.inRound lp (callsIn_wide.2 HRD.out)).mono ?_
             rintro e V1 ⟨rfl, b1⟩
             have C1 := Lib.hid b1
             have y0 := (boxed_below YR.out.1 b1).alloc (.cells #[.int .u16 cc, .int .u8 jt, .int .u8 jf, .int .u32 kk] 33)
             have y1 := (boxed_below YR.out.2.1 b1).alloc (.cells #[.int .u16 cc, .int .u8 jt, .int .u8 jf, .int .u32 kk] 33)
             have y2 := (boxed_below YV.out b1).alloc (.cells #[.int .u16 cc, .int .u8 jt, .int .u8 jf, .int .u32 kk] 33)
             have o1 := Lib.hid ((own_below YO.out b1).alloc (.cells #[.int .u16 cc, .int .u8 jt, .int .u8 jf, .int .u32 kk] 33))
             have Y0 := Lib.hid y0
             have Y1 := Lib.hid y1
             have Y2 := Lib.hid y2
             have d0 := y0.cell
             have f0 := y0.frozen
             have d1 := y1.cell
             have f1 := y1.frozen
             have d2 := y2.cell
             clear b1 y0 y1 y2))
          have bf : Below w.heap.size V (V1.alloc (.cells #[.int .u16 cc, .int .u8 jt, .int .u8 jf, .int .u32 kk] 33)) := (C1.out.mono YR.out.2.2.size).alloc (Nat.le_trans YR.out.2.2.size C1.out.size) _
          have kf : KeepsOthers V (V1.alloc (.cells #[.int .u16 cc, .int .u8 jt, .int .u8 jf, .int .u32 kk] 33)) := (KeepsOthers.of_grownBy (grownNone C1.out) (by intro j o e; cases e)).trans (KeepsOthers.alloc _ _)
          refine ⟨((kf.trans (KeepsOthers.setCell _ _ _)).trans (KeepsOthers.setCell _ _ _)).from _, HE.out, ?_, ?_, ((YR.out.2.2.trans bf).setCell (p := ⟨w.heap.size, 0, none⟩) (Nat.le_refl _) _).setCell (p := ⟨w.heap.size + 1, 0, none⟩) (Nat.le_succ _) _⟩
          · exact (heap_setCell_other _ _ w.heap.size _ (show w.heap.size ≠ w.heap.size + 1 by omega)).trans (Y0.out.set _)
          · have h1 : Boxed ((V1.alloc (.cells #[.int .u16 cc, .int .u8 jt, .int .u8 jf, .int .u32 kk] 33)).setCell ⟨w.heap.size, 0, none⟩ (.slice none 0 0)) (w.heap.size + 1) 4 (.bool false) := (heap_setCell_other _ ⟨w.heap.size, 0, none⟩ (w.heap.size + 1) _ (show w.heap.size + 1 ≠ w.heap.size by omega)).trans Y1.out
            exact h1.set _
        · have HE := Lib.hid (show readAllL ls [] = readAllL (ls.drop (k + 1)) (p ++ [i]) by rw [HST.out, hsu, hrl]; show (if p.length = 4096 then none else _) = _; rw [if_neg hp4])
          have e4 : ((n : Int) == 4096) = false := beq_eq_false_iff_ne.2 (by omega)
          have hlt4 : n + 1 ≤ 4096 := by omega
          obtain ⟨cc, jt, jf, kk⟩ := i
          simp only at HRD
          rw [← hn] at HRD n4 hc4 YV YO
          clear hsu hn htl hul hrl hp4
          gi_wp2_with (first
          | (refine ⟨trivial, ?_⟩
             gi_at_call 49
             refine (CallsIn.inRound lp (callsIn_wide.2 (HT.out _))).mono ?_
             rintro e V0 ⟨rfl, rfl⟩)
          | (refine ⟨trivial, ?_⟩
             gi_at_call 50
             refine (CallsIn.inRound lp (callsIn_wide.2 (HH.out _))).mono ?_
             rintro e V0 ⟨rfl, rfl⟩)
          | (refine ⟨trivial, ?_⟩
             gi_at_call 51
             refine (CallsIn.inRound lp (callsIn_wide.2 HRD.out)).mono ?_
             rintro e V1 ⟨rfl, b1⟩
             have C1 := Lib.hid b1
             have y0 := (boxed_below YR.out.1 b1).alloc (.cells #[.int .u16 cc, .int .u8 jt, .int .u8 jf, .int .u32 kk] 33)
             have y1 := (boxed_below YR.out.2.1 b1).alloc (.cells #[.int .u16 cc, .int .u8 jt, .int .u8 jf, .int .u32 kk] 33)
             have y2 := (boxed_below YV.out b1).alloc (.cells #[.int .u16 cc, .int .u8 jt, .int .u8 jf, .int .u32 kk] 33)
             have o1 := Lib.hid ((own_below YO.out b1).alloc (.cells #[.int .u16 cc, .int .u8 jt, .int .u8 jf, .int .u32 kk] 33))
             have Y0 := Lib.hid y0
             have Y1 := Lib.hid y1
             have Y2 := Lib.hid y2
             have d0 := y0.cell
             have f0 := y0.frozen
             have d1 := y1.cell
             have f1 := y1.frozen
             have d2 := y2.cell
             clear b1 y0 y1 y2)
          | (gi_at_builtin
             refine wpListIn_append_own _ rfl _ _ 22 rfl (w.heap.size + 4) 33 i0 _ 4 8 Tryd.underlying22 HI.out H0.out H1.out H2.out rfl (by decide) (.slice q n c) n (progC p) rfl (o1.out.alloc _) ⟨V1.heap.size + 1, 0, none⟩ 1 1 (insC ⟨cc, jt, jf, kk⟩) rfl rfl (news_lit' _ _ _ _ (by simp) rfl) (insC_one _) (by unfold maxLen; omega) (by omega) (by have := C1.out.size; simp; omega) ?_
             intro v' V2 hown' hgrow _
             obtain ⟨g', cap', rfl⟩ := ownsRow_succ hown'
             have hq := Y2.out.appended (by decide) (own_lower o1.out (B' := w.heap.size) (by omega)) (by have := C1.out.size; simp; omega) (by omega) (own_lower hown' (B' := w.heap.size) (by omega)) hgrow
             have hc2 := hq.1.cell
             have hf2 := hq.1.frozen
             have HQ := Lib.hid hq
             have HW := Lib.hid hown'
             have HGR := Lib.hid hgrow
             clear hq hown' hgrow))
          obtain ⟨hv2, hv3, _, hk3, hb3⟩ := HQ.out
          have bf : Below w.heap.size V (V1.alloc (.cells #[.int .u16 cc, .int .u8 jt, .int .u8 jf, .int .u32 kk] 33)) := (C1.out.mono YR.out.2.2.size).alloc (Nat.le_trans YR.out.2.2.size C1.out.size) _
          have kf : KeepsOthers V (V1.alloc (.cells #[.int .u16 cc, .int .u8 jt, .int .u8 jf, .int .u32 kk] 33)) := (KeepsOthers.of_grownBy (grownNone C1.out) (by intro j o e; cases e)).trans (KeepsOthers.alloc _ _)
          have hst2 : progC p ++ insC ⟨cc, jt, jf, kk⟩ = progC (p ++ [⟨cc, jt, jf, kk⟩]) := by rw [progC_app]; simp [progC]
          have hle2 : (p ++ [(⟨cc, jt, jf, kk⟩ : Ins)]).length = n + 1 := by rw [List.length_append, ← HN.out]; rfl
          have kb : ∀ {B : Nat} {t : TypeId} {u : Value}, t ≠ 33 → B ≠ w.heap.size + 2 → Boxed (V1.alloc (.cells #[.int .u16 cc, .int .u8 jt, .int .u8 jf, .int .u32 kk] 33)) B t u → Boxed (V2.setCell ⟨w.heap.size + 2, 0, none⟩ (.slice (some ⟨g', 0, none⟩) (n + 1) cap')) B t u := fun {B t u} ht hB hb =>
            ((hb.alloc (.cells #[.int .u16 cc, .int .u8 jt, .int .u8 jf, .int .u32 kk] 33)).kept HGR.out (Boxed.not_row (hb.alloc (.cells #[.int .u16 cc, .int .u8 jt, .int .u8 jf, .int .u32 kk] 33)) ht (o1.out.alloc (.cells #[.int .u16 cc, .int .u8 jt, .int .u8 jf, .int .u32 kk] 33)))).kept (grownBy_setCell' V2 (w.heap.size + 2) _) (fun e => by injection e with e; omega)
          refine ⟨(kf.trans hk3).from _, ⟨Nat.le_trans bf.size hb3.size, fun o ho => ?_⟩, ⟨_, p ++ [⟨cc, jt, jf, kk⟩], hv3, ?_, by rw [hle2]; exact hlt4, HE.out, kb (by decide) (by omega) Y0.out, kb (by decide) (by omega) Y1.out, YR.out.2.2.trans (bf.trans hb3)⟩⟩
          · have lt0 := (Array.getElem?_eq_some_iff.1 ho).1
            have lt1 := Nat.lt_of_lt_of_le lt0 C1.out.size
            have e1 := (Below.heap_alloc V1 (.cells #[.int .u16 cc, .int .u8 jt, .int .u8 jf, .int .u32 kk] 33) _ lt1).trans ((C1.out.block _ lt0).trans ho)
            have lt2 := (Array.getElem?_eq_some_iff.1 e1).1
            have e2 := (Below.heap_alloc (V1.alloc (.cells #[.int .u16 cc, .int .u8 jt, .int .u8 jf, .int .u32 kk] 33)) (.cells #[.int .u16 cc, .int .u8 jt, .int .u8 jf, .int .u32 kk] 33) _ lt2).trans e1
            have e3 := (HGR.out.block _ (Array.getElem?_eq_some_iff.1 e2).1 (fun e => by have := (o1.out.lt _ e.symm).1; omega)).trans e2
            exact (heap_setCell_other V2 _ _ _ (show w.heap.size + 3 ≠ w.heap.size + 2 by omega)).trans e3
          · rw [hle2, ← hst2]
            exact HW.out.kept (grownBy_setCell' V2 (w.heap.size + 2) _) (.inr (hv2.not_row (by decide) HW.out).symm)
  case done =>
    rintro V ⟨v, p, hv, hrow, hp, hra, hR⟩ hK
    obtain ⟨q, c, rfl, _, _, _⟩ := own_shapeI hrow
    rw [strV_len, List.drop_length] at hra
    have hend : readAllL ls [] = some p := hra
    obtain ⟨x0, x1, hb⟩ := hR
    have c4 := hv.cell
    have d0 := x0.cell
    have f0 := x0.frozen
    have d1 := x1.cell
    have f1 := x1.frozen
    have hK2 : ((V.setCell ⟨w.heap.size, 0, none⟩ (.slice q p.length c)).setCell ⟨w.heap.size + 1, 0, none⟩ (.bool true)).heap[W0.heap.size]? = some (.deferred (some [])) :=
      (heap_setCell_other _ _ W0.heap.size _ (show W0.heap.size ≠ w.heap.size + 1 by omega)).trans ((heap_setCell_other V _ W0.heap.size _ (show W0.heap.size ≠ w.heap.size by omega)).trans hK)
    have y0 : Boxed ((V.setCell ⟨w.heap.size, 0, none⟩ (.slice q p.length c)).setCell ⟨w.heap.size + 1, 0, none⟩ (.bool true)) w.heap.size 22 (.slice q p.length c) :=
      (heap_setCell_other _ _ w.heap.size _ (show w.heap.size ≠ w.heap.size + 1 by omega)).trans (x0.set _)
    have y1 : Boxed ((V.setCell ⟨w.heap.size, 0, none⟩ (.slice q p.length c)).setCell ⟨w.heap.size + 1, 0, none⟩ (.bool true)) (w.heap.size + 1) 4 (.bool true) := by
      have h1 : Boxed (V.setCell ⟨w.heap.size, 0, none⟩ (.slice q p.length c)) (w.heap.size + 1) 4 (.bool false) := (heap_setCell_other _ ⟨w.heap.size, 0, none⟩ (w.heap.size + 1) _ (show w.heap.size + 1 ≠ w.heap.size by omega)).trans x1
      exact h1.set _
    have far : ∀ (X : Nat), X < w.heap.size + 4 → (Value.slice q p.length c).ownBlock ≠ some X := fun X hX e => by have := (hrow.lt _ e).1; omega
    have hrow2 := (hrow.kept (grownBy_setCell' V w.heap.size (.slice q p.length c)) (.inr (far _ (by omega)))).kept (grownBy_setCell' _ (w.heap.size + 1) (.bool true)) (.inr (far _ (by omega)))
    have hb2 := (hb.setCell (p := ⟨w.heap.size, 0, none⟩) (Nat.le_refl _) (.slice q p.length c)).setCell (p := ⟨w.heap.size + 1, 0, none⟩) (Nat.le_succ _) (.bool true)
    have Y0 := Lib.hid y0
    have Y1 := Lib.hid y1
    have O2 := Lib.hid hrow2
    have HB2 := Lib.hid hb2
    have HE := Lib.hid hend
    have HK2 := Lib.hid hK2
    clear y0 y1 hrow2 hb2 hend hK2 far hrow hv hra x0 x1 hg hK
    gi_wp2
    refine ⟨by simp, .inl ⟨_, _, rfl, run_takeDeferred HK2.out, ?_⟩⟩
    have g0 := (boxed_grown Y0.out (grownBy_putObj' _ W0.heap.size (.deferred none)) (fun r e => by cases e; exact ⟨_, HK2.out, rfl⟩)).cell
    have g1 := (boxed_grown Y1.out (grownBy_putObj' _ W0.heap.size (.deferred none)) (fun r e => by cases e; exact ⟨_, HK2.out, rfl⟩)).cell
    have o3 := ownsRow_putObj O2.out (.deferred none) HK2.out rfl
    obtain ⟨s1, s2, s3, s4⟩ := own_shapeI' o3
    refine ⟨.tuple #[.slice q p.length c, .bool true], by simp [results, Tryd.results34, go_sem, g0, g1], .inl ⟨p, q, c, HE.out, rfl, s1, s3, s4, s2, HB2.out.grown (grownBy_putObj' _ _ _) HB2.out.size (fun k e => by cases e; omega)⟩⟩
  case stop =>
    rintro j V ⟨hra, hR⟩ hK
    obtain ⟨x0, x1, hb⟩ := hR
    gi_wp2
    refine ⟨by simp, .inl ⟨_, _, rfl, run_takeDeferred hK, ?_⟩⟩
    have g0 := (boxed_grown x0 (grownBy_putObj' _ W0.heap.size (.deferred none)) (fun r e => by cases e; exact ⟨_, hK, rfl⟩)).cell
    have g1 := (boxed_grown x1 (grownBy_putObj' _ W0.heap.size (.deferred none)) (fun r e => by cases e; exact ⟨_, hK, rfl⟩)).cell
    refine ⟨.tuple #[.slice none 0 0, .bool false], by simp [results, Tryd.results34, go_sem, g0, g1], .inr ⟨hra, rfl, hb.grown (grownBy_putObj' _ _ _) hb.size (fun k e => by cases e; omega)⟩⟩
end Go.Proofs.YtlneiiljdghmjaaDoor
