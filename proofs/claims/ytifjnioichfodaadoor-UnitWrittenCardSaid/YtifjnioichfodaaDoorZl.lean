/- The landed logical: the logical lines of a file. Conditions: the library's two tables lie in their variables; a file of at most 65536 bytes and 1000 lines. -/
import Derived.Test.YtifjnioichfodaaDoorZi
import Derived.Test.YtifjnioichfodaaDoorZk
namespace Go.Proofs.YtifjnioichfodaaDoor
open Go.RowKit Go.Shelf
set_option linter.unusedVariables false
set_option linter.unusedSimpArgs false
attribute [local go_sem] Oper.semAt_some

theorem cutS_call (l : List UInt8) (hl : l.length ≤ 140737488355328) (w : World) : Calls Tryd.prog 27 #[.string (bs l), .string ⟨#[92]⟩] w fun e w' => e = .returned (.tuple #[.string (bs (Lib.trimSuffix l [92])), .bool (Lib.hasSuffix l [92])]) ∧ w = w' :=
  (Tryd.strings_CutSuffix (bs l) ⟨#[92]⟩ w (by rw [bs_size]; omega)).mono fun e w' ⟨h1, h2⟩ => ⟨h1, h2.symm⟩
theorem con_yes {s : List UInt8} (h : Lib.hasSuffix s [92] = true) : Lib.trimSuffix s [92] = s.dropLast := by
  unfold Lib.trimSuffix
  rw [if_pos h, List.dropLast_eq_take]; rfl
theorem con_no {s : List UInt8} (h : Lib.hasSuffix s [92] = false) : Lib.trimSuffix s [92] = s := by
  unfold Lib.trimSuffix
  rw [h, if_neg Bool.false_ne_true]
theorem LgAt.far {B L0 z : Nat} {t : Lst} {V : World} {c : Array Value} {ty : TypeId} {fz : Nat × Nat} (h : LgAt B L0 t V) (hz : L0 + 2 < z) (hc : V.heap[z]? = some (.cells c ty fz)) (ht : TyN ty) (v : Value) : LgAt B L0 t (V.setCell ⟨z, 0, none⟩ v) := by
  have hn : ∀ (k : Nat) (c' : Array Value) (ty' : TypeId) (fz' : Nat × Nat), V.heap[k]? = some (.cells c' ty' fz') → (ty' = 88 ∨ ty' = 5 ∨ ty' = 49) → (V.setCell ⟨z, 0, none⟩ v).heap[k]? = some (.cells c' ty' fz') := fun k c' ty' fz' hk hty =>
    (heap_setCell_other V ⟨z, 0, none⟩ k _ (fun e => by
      subst e
      refine obj_ne hk hc ?_
      rcases hty with rfl | rfl | rfl <;> rcases ht with rfl | rfl | rfl <;> decide)).trans hk
  obtain ⟨⟨u, h1, h2⟩, h3, h4⟩ := h
  exact ⟨⟨u, boxed_set h1 (by omega), owns_same h2 fun g c' fz' hg => hn g c' _ fz' hg (.inr (.inr rfl))⟩, bld_same h3 fun k c' ty' fz' hk hty => hn k c' ty' fz' hk (by rcases hty with h | h; exact .inl h; exact .inr (.inl h)), boxed_set h4 (by omega)⟩
theorem lgAt_own {B L0 : Nat} {t : Lst} {V V' : World} {row : Option Nat} (h : LgAt B L0 t V) (hg : V.grownBy V' row) (hr : ∀ r, row = some r → ∃ o : Obj, V.heap[r]? = some o ∧ o.isCells = false) : LgAt B L0 t V' := by
  obtain ⟨⟨u, h1, h2⟩, h3, h4⟩ := h
  exact ⟨⟨u, boxed_grown h1 hg hr, owned_grown h2 hg hr⟩, bld_grown h3 hg hr, boxed_grown h4 hg hr⟩
theorem ks_size {S : Nat → Obj → Prop} {A B : World} (h : KS S A B) : A.heap.size ≤ B.heap.size := h.1
/-- Between two rounds. -/
def LgI (w : World) (ls : List (List UInt8)) (k : Nat) (V : World) : Prop := LgAt (w.heap.size + 5) w.heap.size (stA ls k) V ∧ Boxed V (w.heap.size + 3) 1 (.func (.func 51) #[] #[.pointer (some ⟨w.heap.size + 1, 0, none⟩), .pointer (some ⟨w.heap.size, 0, none⟩), .pointer (some ⟨w.heap.size + 2, 0, none⟩)]) ∧ Below w.heap.size w V
theorem sl_not {L0 k : Nat} {o : Obj} (h : L0 + 2 < k) (hc : o.isCells = false) : ¬ SL L0 k o := fun hs => by
  rcases hs with h1 | h1 | h1 | ⟨c, fz, rfl⟩ | ⟨c, fz, rfl⟩
  · omega
  · omega
  · omega
  · cases hc
  · cases hc
theorem ks_from {L0 B : Nat} {V V' : World} (h : KS (SL L0) V V') (hB : L0 + 2 < B) : KeepsFrom B V V' := ⟨h.1, fun k o hk ho hc => h.2 k o ho (sl_not (by omega) hc)⟩
theorem ks_keepY {L0 B : Nat} {V V' : World} (h : KS (SL L0) V V') (hB : L0 + 2 < B) : KeepY TyN B V V' := ⟨h.1, fun z c t fz hz hc ht => h.2 z _ hc (fun hs => by
  rcases hs with h1 | h1 | h1 | h1 | h1
  · omega
  · omega
  · omega
  · exact notT (by rcases ht with rfl | rfl | rfl <;> decide) h1
  · exact notT (by rcases ht with rfl | rfl | rfl <;> decide) h1)⟩
theorem body_ends {w V V' : World} {ls : List (List UInt8)} {k N0 : Nat} (hN : N0 = w.heap.size + 5) (hL : LgAt (w.heap.size + 5) w.heap.size (stA ls (k + 1)) V') (hK : KS (SL w.heap.size) V V') (hF : Boxed V (w.heap.size + 3) 1 (.func (.func 51) #[] #[.pointer (some ⟨w.heap.size + 1, 0, none⟩), .pointer (some ⟨w.heap.size, 0, none⟩), .pointer (some ⟨w.heap.size + 2, 0, none⟩)])) (hB : Below w.heap.size w V') :
    KeepsFrom N0 V V' ∧ KeepY TyN N0 V V' ∧ LgI w ls (k + 1) V' :=
  ⟨ks_from hK (by omega), ks_keepY hK (by omega), hL, ks_box hK hF (fun hs => by rcases hs with h | h | h | h | h <;> first | omega | exact notT (by decide) h), hB⟩
/-- What logical has to return. -/
def LogTo (l : List UInt8) (w : World) (e : Ending) (w' : World) : Prop := ∃ v, e = .returned v ∧ LnsAt w' v (logR (linL l).length (linL l)) ∧ (∃ q n c, v = .slice q n c) ∧ Below w.heap.size w w'
set_option maxRecDepth 100000 in
set_option maxHeartbeats 16000000 in
theorem logical_call (a0 : Option Addr) (n cap : Nat) (l : List UInt8) (w : World) (hG : G12 w) (hl : l.length = n) (hn : n ≤ 65536) (hN : (linL l).length ≤ 1000) (hR : RdB w w.heap.size a0 l) :
    Calls Tryd.prog 35 #[.slice a0 n cap] w (LogTo l w) := by
  unfold LogTo
  have HNC := Lib.hid (fun W => numbered_call a0 n cap W)
  have HNG := Lib.hid (fun z W0 (hz : Boxed W0 z 22 (.slice a0 n cap)) (b : Below w.heap.size w W0) => numbered_gives z a0 n cap l W0 hz hl (by omega) (hR.on b))
  have HSL := Lib.hid (fun s (h : s ∈ linL l) => show s.length ≤ 65536 from by have := (linL_mem h).2; omega)
  obtain ⟨ls, hls⟩ : ∃ ls, ls = linL l := ⟨_, rfl⟩
  rw [← hls] at HNG HSL hN ⊢
  have HN := Lib.hid hN
  have HG := Lib.hid hG
  clear hl hn hR hls hN hG
  refine (callsIn_wide (n := 4)).1 ?_
  refine callsIn_of_wp_marks Tryd.func35 rfl trivial ?_ rfl
  simp only [Tryd.ntmps35, List.size_toArray, List.length_cons, List.length_nil, Nat.reduceAdd, Nat.reduceSub, Array.replicate_succ, Array.replicate_zero, List.push_toArray, List.append_toArray, List.nil_append, List.cons_append]
  gi_wp2_with (first
    | (refine ⟨trivial, ?_⟩
       gi_at_call 50
       refine (callsIn_wide.2 (HNC.out _)).mono ?_
       rintro e w2 ⟨rfl, rfl⟩))
  rename_i K0 hK0
  obtain ⟨W0, hW0⟩ : ∃ W0, W0 = ((((w.alloc (.cells #[.slice none 0 0] 42)).alloc (.cells #[.pointer none, .slice none 0 0] 88)).alloc (.cells #[.int .i64 0] 3)).alloc (.cells #[.func (.func 51) #[] #[.pointer (some ⟨w.heap.size + 1, 0, none⟩), .pointer (some ⟨w.heap.size, 0, none⟩), .pointer (some ⟨w.heap.size + 2, 0, none⟩)]] 1)).alloc (.cells #[.slice a0 n cap] 22) := ⟨_, rfl⟩
  have z0 : W0.heap.size = w.heap.size + 5 := by rw [hW0]; simp
  have B0 : Below w.heap.size w W0 := by rw [hW0]; exact (((((Below.refl _ _).alloc (Nat.le_refl _) _).alloc (by simp) _).alloc (by simp; omega) _).alloc (by simp; omega) _).alloc (by simp; omega) _
  have x0 : Boxed W0 w.heap.size 42 (.slice none 0 0) := by rw [hW0]; exact ((((Boxed.new w _ _).alloc _).alloc _).alloc _).alloc _
  have x1 : Bld (w.heap.size + 1) (w.heap.size + 1) [] W0 := by
    have h := bld_fresh (w.alloc (.cells #[.slice none 0 0] 42))
    rw [World.size_alloc] at h
    rw [hW0]; exact bld_alloc (bld_alloc (bld_alloc h _) _) _
  have x2 : Boxed W0 (w.heap.size + 2) 3 (.int .i64 ((0 : Nat) : Int)) := by
    have h := Boxed.new ((w.alloc (.cells #[.slice none 0 0] 42)).alloc (.cells #[.pointer none, .slice none 0 0] 88)) 3 (.int .i64 0)
    rw [World.size_alloc, World.size_alloc] at h
    rw [hW0]; exact (h.alloc _).alloc _
  have x3 : Boxed W0 (w.heap.size + 3) 1 (.func (.func 51) #[] #[.pointer (some ⟨w.heap.size + 1, 0, none⟩), .pointer (some ⟨w.heap.size, 0, none⟩), .pointer (some ⟨w.heap.size + 2, 0, none⟩)]) := by
    have h := Boxed.new (((w.alloc (.cells #[.slice none 0 0] 42)).alloc (.cells #[.pointer none, .slice none 0 0] 88)).alloc (.cells #[.int .i64 0] 3)) 1 (.func (.func 51) #[] #[.pointer (some ⟨w.heap.size + 1, 0, none⟩), .pointer (some ⟨w.heap.size, 0, none⟩), .pointer (some ⟨w.heap.size + 2, 0, none⟩)])
    rw [World.size_alloc, World.size_alloc, World.size_alloc] at h
    rw [hW0]; exact h.alloc _
  have x4 : Boxed W0 (w.heap.size + 4) 22 (.slice a0 n cap) := by
    have h := Boxed.new ((((w.alloc (.cells #[.slice none 0 0] 42)).alloc (.cells #[.pointer none, .slice none 0 0] 88)).alloc (.cells #[.int .i64 0] 3)).alloc (.cells #[.func (.func 51) #[] #[.pointer (some ⟨w.heap.size + 1, 0, none⟩), .pointer (some ⟨w.heap.size, 0, none⟩), .pointer (some ⟨w.heap.size + 2, 0, none⟩)]] 1)) 22 (.slice a0 n cap)
    rw [World.size_alloc, World.size_alloc, World.size_alloc, World.size_alloc] at h
    rw [hW0]; exact h
  simp only [Nat.add_assoc, Nat.reduceAdd]
  rw [← hW0]
  have hg := HNG.out _ _ x4 B0
  have I0 : LgI w ls 0 W0 := ⟨⟨⟨_, x0, World.ownsRow_nil _ _ _ _⟩, x1, x2⟩, x3, B0⟩
  have HZ0 := Lib.hid z0
  clear hW0 HNC HNG x0 x1 x2 x3 x4 B0
  refine wp_givesP (w0 := W0) (gf := 66) (lb := #[.pointer (some ⟨w.heap.size + 4, 0, none⟩)]) (Ty := TyN) (xs := pairV ls)
    rfl (enters_of Tryd.func66 (by kernel_rfl) rfl) hg (Below.refl _ _) (LgI w ls) (fun _ _ => False)
    (fun k A C row ⟨h1, h2, h3⟩ hg hr => ⟨lgAt_own h1 hg (fun r e => (hr r e).2), boxed_grown h2 hg (fun r e => (hr r e).2), h3.grown hg h3.size (fun k e => by have := (hr k e).1; omega)⟩)
    (fun _ _ _ _ h _ _ => h)
    (fun k z V v c t fz hz hc ht ⟨h1, h2, h3⟩ => ⟨h1.far (by omega) hc ht v, boxed_set h2 (by omega), h3.setCell (p := ⟨z, 0, none⟩) (by show w.heap.size ≤ z; omega) v⟩)
    I0 ?after ?assign ?body ?done ?stop
  case assign =>
    intro lp x V K hK
    gi_wp2
    exact hK
  case body =>
    rintro lp k x V hx ⟨hL, hF, hB⟩ hz
    obtain ⟨s, hs, rfl⟩ := pairV_at hx
    have hsl := HSL.out s (List.mem_of_getElem? hs)
    have hk1 : k < ls.length := (List.getElem?_eq_some_iff.1 hs).1
    have hk2 := HN.out
    have hlen := st_len ls 65536 HSL.out k
    have HST := Lib.hid (stA_at hs)
    have HCM := Lib.hid (com_in s (by unfold maxLen; omega) V (G12_on HG.out hB))
    have HZV := Lib.hid (show w.heap.size + 7 ≤ V.heap.size by omega)
    obtain ⟨t, ht⟩ : ∃ t, t = stA ls k := ⟨_, rfl⟩
    rw [← ht] at HST hL hlen
    clear ht I0 z0 hz hK0
    obtain ⟨O, T, f⟩ := t
    obtain ⟨hO, hT, _⟩ := hlen
    simp only at hO hT
    have hT2 : T.length ≤ 65537000 := by
      have : (65536 + 1) * k ≤ 65537 * 1000 := Nat.mul_le_mul_left _ (by omega)
      omega
    have HL := Lib.hid hL
    have HF := Lib.hid hF
    have HB := Lib.hid hB
    have hlen : k ≤ 1000 := by omega
    cases hc : comL s with
    | true =>
      rw [hc] at HCM
      have HE := Lib.hid (show stepG k s ⟨O, T, f⟩ = ⟨O, T, f⟩ by unfold stepG; rw [hc, if_pos rfl])
      clear hx hs hsl hk1 hk2 hL hF hB hc hg hO hT hT2 hlen
      gi_wp2_with (refine ⟨trivial, ?_⟩
                   gi_at_call 54
                   refine (CallsIn.inRound lp (callsIn_wide.2 HCM.out)).mono ?_
                   rintro e V1 ⟨rfl, b1⟩)
      exact body_ends HZ0.out (by rw [HST.out, HE.out]; exact HL.out.on b1) (KS.below b1) HF.out (HB.out.trans (b1.mono HB.out.size))
    | false =>
      rw [hc] at HCM
      have hcl : conL s = Lib.hasSuffix s [92] := (suf_con s 92).symm
      cases hcon : Lib.hasSuffix s [92] with
      | true =>
        rw [hcon] at hcl
        by_cases hf : f = 0
        · subst hf
          have HCU := Lib.hid (fun W => cutS_call s (by omega) W)
          rw [hcon, show Lib.trimSuffix s [92] = s.dropLast from con_yes hcon] at HCU
          have hul : (s.dropLast).length ≤ 65536 := by rw [List.length_dropLast]; omega
          obtain ⟨u, hu⟩ : ∃ u, u = s.dropLast := ⟨_, rfl⟩
          rw [← hu] at HCU hul
          have HE := Lib.hid (show stepG k s ⟨O, T, 0⟩ = ⟨O, (T ++ u) ++ [32], k + 1⟩ by
            unfold stepG
            rw [hc, if_neg Bool.false_ne_true, hcl, if_pos rfl, hu]
            show (⟨O, T ++ (s.dropLast ++ [32]), numG k (0)⟩ : Lst) = _
            rw [show numG k (0) = k + 1 from rfl, List.append_assoc])
          have HW1 := Lib.hid (fun W (hb : Bld (w.heap.size + 1) (w.heap.size + 1) T W) (hz : w.heap.size + 1 ≤ W.heap.size) => write_call (w.heap.size + 1) (w.heap.size + 1) T u W hb (by omega) hz)
          have HW2 := Lib.hid (fun W (hb : Bld (w.heap.size + 1) (w.heap.size + 1) (T ++ u) W) (hz : w.heap.size + 1 ≤ W.heap.size) => show Calls Tryd.prog 55 #[.pointer (some ⟨w.heap.size + 1, 0, none⟩), .string ⟨#[32]⟩] W fun e w' => (∃ v, e = .returned v) ∧ Bld (w.heap.size + 1) (w.heap.size + 1) ((T ++ u) ++ [32]) w' ∧ Below (w.heap.size + 1) W w' ∧ OthK (w.heap.size + 1) W w' from write_call (w.heap.size + 1) (w.heap.size + 1) (T ++ u) [32] W hb (by rw [List.length_append]; simp; omega) hz)
          clear hx hs hu hcon hcl hc hlen hO hT hul hsl hL hF hB hg
          gi_wp2_with (first
            | (refine ⟨trivial, ?_⟩
               gi_at_call 54
               refine (CallsIn.inRound lp (callsIn_wide.2 HCM.out)).mono ?_
               rintro e V1 ⟨rfl, b1⟩
               have hL1 := HL.out.on b1
               have cN := hL1.num.cell
               have fN := hL1.num.frozen
               have LN1 := Lib.hid (show LgAt (w.heap.size + 5) w.heap.size ⟨O, T, k + 1⟩ (V1.setCell ⟨w.heap.size + 2, 0, none⟩ (.int .i64 ((k : Int) + 1))) from hL1.num_set (k + 1))
               have KN1 := Lib.hid (show KS (SL w.heap.size) V (V1.setCell ⟨w.heap.size + 2, 0, none⟩ (.int .i64 ((k : Int) + 1))) from (KS.below b1).trans (KS.set _ _ _ _ (fun _ => .inr (.inr (.inl rfl)))))
               have BN1 := Lib.hid (show Below w.heap.size w (V1.setCell ⟨w.heap.size + 2, 0, none⟩ (.int .i64 ((k : Int) + 1))) from (HB.out.trans (b1.mono HB.out.size)).setCell (p := ⟨w.heap.size + 2, 0, none⟩) (show w.heap.size ≤ w.heap.size + 2 by omega) _)
               clear b1 hL1)
            | (refine ⟨trivial, ?_⟩
               gi_at_call 27
               refine (CallsIn.inRound lp (callsIn_wide.2 (HCU.out _))).mono ?_
               rintro e w2 ⟨rfl, rfl⟩)
            | (refine ⟨trivial, ?_⟩
               gi_at_call 55
               (with_reducible refine (CallsIn.inRound lp (callsIn_wide.2 (HW1.out _ LN1.out.bld (Nat.le_trans (by have := HZV.out; omega) (ks_size KN1.out))))).mono ?_)
               rintro e V2 ⟨⟨v2, rfl⟩, h2, b2, k2⟩
               have K2 := Lib.hid (ks_oth (L0 := w.heap.size) b2.size k2)
               have hL2 := LN1.out.byB K2.out h2
               have L2 := Lib.hid hL2
               have KN2 := Lib.hid (KN1.out.trans (K2.out.wide (fun k o hx => SB_SL hx)))
               have BN2 := Lib.hid (BN1.out.trans (b2.mono (Nat.le_succ _)))
               have F2 := Lib.hid (ks_box KN2.out HF.out (fun hs => by rcases hs with h | h | h | h | h <;> first | omega | exact notT (by decide) h))
               have cF := F2.out.cell
               clear h2 b2 k2 hL2)
            | (refine ⟨trivial, ?_⟩
               gi_at_call 55
               (with_reducible refine (CallsIn.inRound lp (callsIn_wide.2 (HW2.out _ L2.out.bld (Nat.le_trans (by have := HZV.out; omega) (ks_size KN2.out))))).mono ?_)
               rintro e V3 ⟨⟨v3, rfl⟩, h3, b3, k3⟩
               have K3 := Lib.hid (ks_oth (L0 := w.heap.size) b3.size k3)
               have L3 := Lib.hid (L2.out.byB K3.out h3)
               have KN3 := Lib.hid (KN2.out.trans (K3.out.wide (fun k o hx => SB_SL hx)))
               have BN3 := Lib.hid (BN2.out.trans (b3.mono (Nat.le_succ _)))
               clear h3 b3 k3))
          exact body_ends HZ0.out (by rw [HST.out, HE.out]; exact L3.out) KN3.out HF.out BN3.out
        · have HCU := Lib.hid (fun W => cutS_call s (by omega) W)
          rw [hcon, show Lib.trimSuffix s [92] = s.dropLast from con_yes hcon] at HCU
          have hul : (s.dropLast).length ≤ 65536 := by rw [List.length_dropLast]; omega
          obtain ⟨u, hu⟩ : ∃ u, u = s.dropLast := ⟨_, rfl⟩
          rw [← hu] at HCU hul
          have HE := Lib.hid (show stepG k s ⟨O, T, f⟩ = ⟨O, (T ++ u) ++ [32], f⟩ by
            unfold stepG
            rw [hc, if_neg Bool.false_ne_true, hcl, if_pos rfl, hu]
            show (⟨O, T ++ (s.dropLast ++ [32]), numG k (f)⟩ : Lst) = _
            rw [show numG k (f) = f from if_neg hf, List.append_assoc])
          have HW1 := Lib.hid (fun W (hb : Bld (w.heap.size + 1) (w.heap.size + 1) T W) (hz : w.heap.size + 1 ≤ W.heap.size) => write_call (w.heap.size + 1) (w.heap.size + 1) T u W hb (by omega) hz)
          have HW2 := Lib.hid (fun W (hb : Bld (w.heap.size + 1) (w.heap.size + 1) (T ++ u) W) (hz : w.heap.size + 1 ≤ W.heap.size) => show Calls Tryd.prog 55 #[.pointer (some ⟨w.heap.size + 1, 0, none⟩), .string ⟨#[32]⟩] W fun e w' => (∃ v, e = .returned v) ∧ Bld (w.heap.size + 1) (w.heap.size + 1) ((T ++ u) ++ [32]) w' ∧ Below (w.heap.size + 1) W w' ∧ OthK (w.heap.size + 1) W w' from write_call (w.heap.size + 1) (w.heap.size + 1) (T ++ u) [32] W hb (by rw [List.length_append]; simp; omega) hz)
          have e0 : ((f : Int) == 0) = false := beq_eq_false_iff_ne.2 (by omega)
          clear hx hs hu hcon hcl hc hlen hO hT hul hsl hL hF hB hg hf
          gi_wp2_with (first
            | (refine ⟨trivial, ?_⟩
               gi_at_call 54
               refine (CallsIn.inRound lp (callsIn_wide.2 HCM.out)).mono ?_
               rintro e V1 ⟨rfl, b1⟩
               have hL1 := HL.out.on b1
               have cN := hL1.num.cell
               have fN := hL1.num.frozen
               have LN1 := Lib.hid (show LgAt (w.heap.size + 5) w.heap.size ⟨O, T, f⟩ V1 from hL1)
               have KN1 := Lib.hid (show KS (SL w.heap.size) V V1 from KS.below b1)
               have BN1 := Lib.hid (show Below w.heap.size w V1 from HB.out.trans (b1.mono HB.out.size))
               clear b1 hL1)
            | (refine ⟨trivial, ?_⟩
               gi_at_call 27
               refine (CallsIn.inRound lp (callsIn_wide.2 (HCU.out _))).mono ?_
               rintro e w2 ⟨rfl, rfl⟩)
            | (refine ⟨trivial, ?_⟩
               gi_at_call 55
               (with_reducible refine (CallsIn.inRound lp (callsIn_wide.2 (HW1.out _ LN1.out.bld (Nat.le_trans (by have := HZV.out; omega) (ks_size KN1.out))))).mono ?_)
               rintro e V2 ⟨⟨v2, rfl⟩, h2, b2, k2⟩
               have K2 := Lib.hid (ks_oth (L0 := w.heap.size) b2.size k2)
               have hL2 := LN1.out.byB K2.out h2
               have L2 := Lib.hid hL2
               have KN2 := Lib.hid (KN1.out.trans (K2.out.wide (fun k o hx => SB_SL hx)))
               have BN2 := Lib.hid (BN1.out.trans (b2.mono (Nat.le_succ _)))
               have F2 := Lib.hid (ks_box KN2.out HF.out (fun hs => by rcases hs with h | h | h | h | h <;> first | omega | exact notT (by decide) h))
               have cF := F2.out.cell
               clear h2 b2 k2 hL2)
            | (refine ⟨trivial, ?_⟩
               gi_at_call 55
               (with_reducible refine (CallsIn.inRound lp (callsIn_wide.2 (HW2.out _ L2.out.bld (Nat.le_trans (by have := HZV.out; omega) (ks_size KN2.out))))).mono ?_)
               rintro e V3 ⟨⟨v3, rfl⟩, h3, b3, k3⟩
               have K3 := Lib.hid (ks_oth (L0 := w.heap.size) b3.size k3)
               have L3 := Lib.hid (L2.out.byB K3.out h3)
               have KN3 := Lib.hid (KN2.out.trans (K3.out.wide (fun k o hx => SB_SL hx)))
               have BN3 := Lib.hid (BN2.out.trans (b3.mono (Nat.le_succ _)))
               clear h3 b3 k3))
          exact body_ends HZ0.out (by rw [HST.out, HE.out]; exact L3.out) KN3.out HF.out BN3.out

      | false =>
        rw [hcon] at hcl
        by_cases hf : f = 0
        · subst hf
          have HCU := Lib.hid (fun W => cutS_call s (by omega) W)
          rw [hcon, show Lib.trimSuffix s [92] = s from con_no hcon] at HCU
          have hul : (s).length ≤ 65536 := by omega
          have HE := Lib.hid (show stepG k s ⟨O, T, 0⟩ = ⟨emitL O (T ++ s) (k + 1), [], 0⟩ by
            unfold stepG
            rw [hc, if_neg Bool.false_ne_true, hcl, if_neg Bool.false_ne_true]
            show (⟨emitL O (T ++ s) (numG k (0)), [], 0⟩ : Lst) = _
            rw [show numG k (0) = k + 1 from rfl])
          have HW1 := Lib.hid (fun W (hb : Bld (w.heap.size + 1) (w.heap.size + 1) T W) (hz : w.heap.size + 1 ≤ W.heap.size) => write_call (w.heap.size + 1) (w.heap.size + 1) T s W hb (by omega) hz)
          have HEN := Lib.hid (fun W (hb : Below w.heap.size w W) (h : LgAt (w.heap.size + 5) w.heap.size ⟨O, T ++ s, k + 1⟩ W) (hz : w.heap.size + 5 ≤ W.heap.size) => end_call (w.heap.size + 5) ⟨O, T ++ s, k + 1⟩ w W HG.out hb h (by show (T ++ s).length ≤ _; rw [List.length_append]; omega) (by show O.length ≤ _; omega) (by omega) hz (by omega))
          clear hx hs hcon hcl hc hlen hO hT hul hsl hL hF hB hg
          gi_wp2_with (first
            | (refine ⟨trivial, ?_⟩
               gi_at_call 54
               refine (CallsIn.inRound lp (callsIn_wide.2 HCM.out)).mono ?_
               rintro e V1 ⟨rfl, b1⟩
               have hL1 := HL.out.on b1
               have cN := hL1.num.cell
               have fN := hL1.num.frozen
               have LN1 := Lib.hid (show LgAt (w.heap.size + 5) w.heap.size ⟨O, T, k + 1⟩ (V1.setCell ⟨w.heap.size + 2, 0, none⟩ (.int .i64 ((k : Int) + 1))) from hL1.num_set (k + 1))
               have KN1 := Lib.hid (show KS (SL w.heap.size) V (V1.setCell ⟨w.heap.size + 2, 0, none⟩ (.int .i64 ((k : Int) + 1))) from (KS.below b1).trans (KS.set _ _ _ _ (fun _ => .inr (.inr (.inl rfl)))))
               have BN1 := Lib.hid (show Below w.heap.size w (V1.setCell ⟨w.heap.size + 2, 0, none⟩ (.int .i64 ((k : Int) + 1))) from (HB.out.trans (b1.mono HB.out.size)).setCell (p := ⟨w.heap.size + 2, 0, none⟩) (show w.heap.size ≤ w.heap.size + 2 by omega) _)
               clear b1 hL1)
            | (refine ⟨trivial, ?_⟩
               gi_at_call 27
               refine (CallsIn.inRound lp (callsIn_wide.2 (HCU.out _))).mono ?_
               rintro e w2 ⟨rfl, rfl⟩)
            | (refine ⟨trivial, ?_⟩
               gi_at_call 55
               (with_reducible refine (CallsIn.inRound lp (callsIn_wide.2 (HW1.out _ LN1.out.bld (Nat.le_trans (by have := HZV.out; omega) (ks_size KN1.out))))).mono ?_)
               rintro e V2 ⟨⟨v2, rfl⟩, h2, b2, k2⟩
               have K2 := Lib.hid (ks_oth (L0 := w.heap.size) b2.size k2)
               have hL2 := LN1.out.byB K2.out h2
               have L2 := Lib.hid hL2
               have KN2 := Lib.hid (KN1.out.trans (K2.out.wide (fun k o hx => SB_SL hx)))
               have BN2 := Lib.hid (BN1.out.trans (b2.mono (Nat.le_succ _)))
               have F2 := Lib.hid (ks_box KN2.out HF.out (fun hs => by rcases hs with h | h | h | h | h <;> first | omega | exact notT (by decide) h))
               have cF := F2.out.cell
               clear h2 b2 k2 hL2)
            | (refine ⟨trivial, ?_⟩
               gi_at_call 51
               refine (CallsIn.inRound lp (callsIn_wide.2 (HEN.out _ BN2.out L2.out (Nat.le_trans (by have := HZV.out; omega) (ks_size KN2.out))))).mono ?_
               rintro e V3 ⟨rfl, h3, k3, b3⟩
               have L3 := Lib.hid h3
               have KN3 := Lib.hid (KN2.out.trans k3)
               have BN3 := Lib.hid (BN2.out.trans b3)
               clear h3 b3 k3))
          exact body_ends HZ0.out (by rw [HST.out, HE.out]; exact L3.out) KN3.out HF.out BN3.out
        · have HCU := Lib.hid (fun W => cutS_call s (by omega) W)
          rw [hcon, show Lib.trimSuffix s [92] = s from con_no hcon] at HCU
          have hul : (s).length ≤ 65536 := by omega
          have HE := Lib.hid (show stepG k s ⟨O, T, f⟩ = ⟨emitL O (T ++ s) (f), [], 0⟩ by
            unfold stepG
            rw [hc, if_neg Bool.false_ne_true, hcl, if_neg Bool.false_ne_true]
            show (⟨emitL O (T ++ s) (numG k (f)), [], 0⟩ : Lst) = _
            rw [show numG k (f) = f from if_neg hf])
          have HW1 := Lib.hid (fun W (hb : Bld (w.heap.size + 1) (w.heap.size + 1) T W) (hz : w.heap.size + 1 ≤ W.heap.size) => write_call (w.heap.size + 1) (w.heap.size + 1) T s W hb (by omega) hz)
          have HEN := Lib.hid (fun W (hb : Below w.heap.size w W) (h : LgAt (w.heap.size + 5) w.heap.size ⟨O, T ++ s, f⟩ W) (hz : w.heap.size + 5 ≤ W.heap.size) => end_call (w.heap.size + 5) ⟨O, T ++ s, f⟩ w W HG.out hb h (by show (T ++ s).length ≤ _; rw [List.length_append]; omega) (by show O.length ≤ _; omega) (by omega) hz (by omega))
          have e0 : ((f : Int) == 0) = false := beq_eq_false_iff_ne.2 (by omega)
          clear hx hs hcon hcl hc hlen hO hT hul hsl hL hF hB hg hf
          gi_wp2_with (first
            | (refine ⟨trivial, ?_⟩
               gi_at_call 54
               refine (CallsIn.inRound lp (callsIn_wide.2 HCM.out)).mono ?_
               rintro e V1 ⟨rfl, b1⟩
               have hL1 := HL.out.on b1
               have cN := hL1.num.cell
               have fN := hL1.num.frozen
               have LN1 := Lib.hid (show LgAt (w.heap.size + 5) w.heap.size ⟨O, T, f⟩ V1 from hL1)
               have KN1 := Lib.hid (show KS (SL w.heap.size) V V1 from KS.below b1)
               have BN1 := Lib.hid (show Below w.heap.size w V1 from HB.out.trans (b1.mono HB.out.size))
               clear b1 hL1)
            | (refine ⟨trivial, ?_⟩
               gi_at_call 27
               refine (CallsIn.inRound lp (callsIn_wide.2 (HCU.out _))).mono ?_
               rintro e w2 ⟨rfl, rfl⟩)
            | (refine ⟨trivial, ?_⟩
               gi_at_call 55
               (with_reducible refine (CallsIn.inRound lp (callsIn_wide.2 (HW1.out _ LN1.out.bld (Nat.le_trans (by have := HZV.out; omega) (ks_size KN1.out))))).mono ?_)
               rintro e V2 ⟨⟨v2, rfl⟩, h2, b2, k2⟩
               have K2 := Lib.hid (ks_oth (L0 := w.heap.size) b2.size k2)
               have hL2 := LN1.out.byB K2.out h2
               have L2 := Lib.hid hL2
               have KN2 := Lib.hid (KN1.out.trans (K2.out.wide (fun k o hx => SB_SL hx)))
               have BN2 := Lib.hid (BN1.out.trans (b2.mono (Nat.le_succ _)))
               have F2 := Lib.hid (ks_box KN2.out HF.out (fun hs => by rcases hs with h | h | h | h | h <;> first | omega | exact notT (by decide) h))
               have cF := F2.out.cell
               clear h2 b2 k2 hL2)
            | (refine ⟨trivial, ?_⟩
               gi_at_call 51
               refine (CallsIn.inRound lp (callsIn_wide.2 (HEN.out _ BN2.out L2.out (Nat.le_trans (by have := HZV.out; omega) (ks_size KN2.out))))).mono ?_
               rintro e V3 ⟨rfl, h3, k3, b3⟩
               have L3 := Lib.hid h3
               have KN3 := Lib.hid (KN2.out.trans k3)
               have BN3 := Lib.hid (BN2.out.trans b3)
               clear h3 b3 k3))
          exact body_ends HZ0.out (by rw [HST.out, HE.out]; exact L3.out) KN3.out HF.out BN3.out

  case done =>
    rintro V ⟨hL, hF, hB⟩ hK
    rw [pairV_len] at hL
    have hend := st_end ls
    have hlen := st_len ls 65536 HSL.out ls.length
    have hN2 := HN.out
    have hVz := (Array.getElem?_eq_some_iff.1 hK).1
    obtain ⟨⟨O, T, f⟩, ht⟩ : ∃ t, t = stA ls ls.length := ⟨_, rfl⟩
    rw [← ht] at hend hL hlen
    obtain ⟨hO, hT, _⟩ := hlen
    simp only at hend hO hT
    have hT2 : T.length ≤ 65537000 := by
      have : (65536 + 1) * ls.length ≤ 65537 * 1000 := Nat.mul_le_mul_left _ (by omega)
      omega
    have HEN := Lib.hid (end_call (w.heap.size + 5) ⟨O, T, f⟩ w V HG.out hB hL (by show T.length ≤ _; omega) (by show O.length ≤ _; omega) (by omega) (by omega) (by omega))
    rw [show emitL (⟨O, T, f⟩ : Lst).O (⟨O, T, f⟩ : Lst).T (⟨O, T, f⟩ : Lst).f = logR ls.length ls from hend] at HEN
    have cF := hF.cell
    have HB := Lib.hid hB
    have HK := Lib.hid hK
    clear hend hO hT hT2 ht hL hB hK hF hg hN2 hVz I0
    refine hK0 _ _ ?_
    clear hK0
    gi_wp2_with (refine ⟨trivial, ?_⟩
                 gi_at_call 51
                 refine (callsIn_wide.2 HEN.out).mono ?_
                 rintro e V3 ⟨rfl, h3, k3, b3⟩
                 obtain ⟨vL, hbx, hrw⟩ := h3.box
                 obtain ⟨q, c, rfl⟩ := own_form12 hrw
                 have cL := hbx.cell
                 have HRW := Lib.hid hrw
                 have B3 := Lib.hid b3
                 have K3 := Lib.hid k3
                 clear hrw hbx b3 k3 h3)
    have hK2 := K3.out.2 _ _ HK.out (sl_not (by omega) rfl)
    rw [HZ0.out] at hK2
    refine ⟨by simp, .inl ⟨_, _, rfl, run_takeDeferred hK2, ?_⟩⟩
    have hb := HB.out.trans B3.out
    exact ⟨_, results_tmp rfl _ _ _, _, rfl, lns_own (owned_grown HRW.out (grownBy_putObj' _ _ _) (fun r e => by cases e; exact ⟨_, hK2, rfl⟩)), ⟨_, _, _, rfl⟩, hb.grown (grownBy_putObj' _ _ _) hb.size (fun k e => by cases e; omega)⟩
  case stop =>
    rintro k V h _
    exact h.elim
end Go.Proofs.YtifjnioichfodaaDoor
