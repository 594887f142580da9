/- The landed restrict's Set; all its calls. Conditions: the tables lie in their variables; lists of at most 10,000, values of at most 1,000 bytes. -/
import Derived.Test.YtlenjfodjkhpmaaGreatDoorRa
import Derived.Test.YtlenjfodjkhpmaaGreatDoorRb
import Derived.Deep.RegionHeld3
namespace Go.Proofs.YtlenjfodjkhpmaaGreatDoor
set_option maxRecDepth 100000
open Go.Lib (hid)
open Go.RowKit Go.Shelf Go.Maps
set_option linter.unusedVariables false
set_option linter.unusedSimpArgs false
attribute [local go_sem ↓] Go.wp_at_zero Go.wp_at_succ

theorem run_lookup17r {w : World} (b n : Nat) {D : DataW Value} (hown : w.ownsMap Tryz.prog 9 RV17r b n D) (s : ByteArray) (hkey : Go.keyOf Tryz.prog 9 (.string s) = some (kl17r s)) (v : Value) (ok : Bool) (hok : has D (kl17r s) = ok) (hv : D.atKey (kl17r s) (.held .nilFunc) = .held v) :
 (Instr.lookup 133 (.map (some b)) (.string s) true).run Tryz.prog w = .ok (.tuple #[v, .bool ok]) w := by
 obtain ⟨v', ps, hrun, hv'⟩ := hown.look_ok keyed17r Tryz.underlying133 (zero17r w) (show RV17r .nilFunc = some (.held .nilFunc, []) from rfl) hkey
 have e1 := congrArg (fun q => q.1) (Option.some.inj hv')
 have e2 : DataW.held v' = .held v := (show DataW.held v' = D.atKey (kl17r s) (.held .nilFunc) from e1).trans hv
 injection e2 with e2
 subst e2
 rw [hrun, hok]
theorem OwnP.low {B B' : Nat} {w : World} {p : Pls} {P : Pol} (h : OwnP B w p P) (hb : B' ≤ B) : OwnP B' w p P := ⟨h.al, h.fl, h.ll, h.ml, owns_low16 h.ar hb, owns_low16 h.fi hb, owns_low16 h.lo hb, owns_low16 h.fa hb⟩
theorem OwnP.box {B b : Nat} {w : World} {p : Pls} {P : Pol} {cs : Array Value} {fz : Nat × Nat} (h : OwnP B w p P) (hb : w.heap[b]? = some (.cells cs 32 fz)) (i : Nat) (l : List Value) : OwnP B (w.setCells b i l) p P :=
 ⟨h.al, h.fl, h.ll, h.ml, rows_box17 hb (by decide) h.ar l, rows_box17 hb (by decide) h.fi l, rows_box17 hb (by decide) h.lo l, rows_box17 hb (by decide) h.fa l⟩
theorem plV_eqS18 (p : Pls) (P : Pol) : plV p P = .agg #[.slice p.aq p.an p.ac, .int .u8 (P.fl.1 : Nat), .slice p.fq p.fn p.fc, .int .u32 (P.dn : Nat), .int .u8 (P.lg.1 : Nat), .slice p.lq p.ln p.lc, .slice p.mq p.mn p.mc, .int .u8 (P.fm : Nat), .int .u64 (P.sp : Nat), .bool P.b1, .bool P.b2, .bool P.b3, .bool P.b4] := rfl
theorem st_info18 : (Tryz.prog.info? 136).map (·.size) = some 19 := by kernel_rfl
theorem stC_one18 (p : Pls) (P : Pol) (a : As) (q : Option Addr) (n c : Nat) : (stC p P a (.slice q n c)).toArray.all (·.oneCell') = true := by unfold stC plC asC; simp [Value.oneCell']
theorem KeepT.cells {T : TypeId} {W : World} {g : Nat} {cs : Array Value} {fz : Nat × Nat} (hg : W.heap[g]? = some (.cells cs T fz)) (i : Nat) (l : List Value) : KeepT T W (W.setCells g i l) := fun k cs2 t fz2 ht hk =>
 (heap_setCells16 W _ _ (ne_type16 hk hg ht) _ _).trans hk
structure FS18 (w : World) (p : Pls) (P : Pol) (a : As) (Z : World) (sb : Nat) (q : Pls) : Prop where
 s : S17 w p P a Z
 t : St (w.heap.size + 3) sb Z q P a (.slice none 0 0) []
theorem keyS18 {F R : World → Nat → Pls → Prop} {T : Prop} (h1 : (∀ Z b q, F Z b q → R Z b q) → T) (h2 : ∀ Z b q, F Z b q → R Z b q) : T := h1 h2
theorem finS18 {w V : World} {p q : Pls} {P : Pol} {a : As} {sb : Nat} (hs : S17 w p P a V) (hz : V.heap[sb]? = some (.cells ([.slice none 0 0, .int .u8 0, .slice none 0 0, .int .u32 0, .int .u8 0, .slice none 0 0, .slice none 0 0, .int .u8 0, .int .u64 0, .bool false, .bool false, .bool false, .bool false, .string ⟨#[]⟩, .int .i64 0, .string ⟨#[]⟩, .string ⟨#[]⟩, .string ⟨#[]⟩, .slice none 0 0] : List Value).toArray 136 (0, 0))) (hb : w.heap.size + 3 ≤ sb) (ho : OwnP (w.heap.size + 3) V q P) : FS18 w p P a (V.setCells sb 0 (stC q P a (.slice none 0 0))) sb q := by
 have k := KeepT.cells hz 0 (stC q P a (.slice none 0 0))
 have hbox := set_row17 (W := V) (stC q P a (.slice none 0 0)) 0 _ V hz (by rw [stC_len]; decide)
 refine ⟨⟨below_setCells16 (show w.heap.size ≤ sb by omega) _ 0 _ hs.bel, k _ _ _ _ (by decide) hs.pol, k _ _ _ _ (by decide) hs.asg, k _ _ _ _ (by decide) hs.res⟩, ?_, ho.kept k (by decide) (by decide) (by decide), World.ownsRow_nil _ _ _ _, hb⟩
 rw [hbox, List.take_zero, List.nil_append, stC_len, Nat.zero_add, List.drop_eq_nil_of_le (by decide), List.append_nil]
theorem S17.on3 {w : World} {p : Pls} {P : Pol} {a : As} {V V' : World} (h : S17 w p P a V) (b : Below (w.heap.size + 3) V V') : S17 w p P a V' :=
 ⟨h.bel.trans (b.mono (by omega)), (b.block _ (by omega)).trans h.pol, (b.block _ (by omega)).trans h.asg, (b.block _ (by omega)).trans h.res⟩
theorem S17.size3 {w : World} {p : Pls} {P : Pol} {a : As} {V : World} (h : S17 w p P a V) : w.heap.size + 3 ≤ V.heap.size := blk_lt h.res
theorem St.apart {B b g : Nat} {w : World} {p : Pls} {P : Pol} {a : As} {v : Value} {N : List Nte} {cs : Array Value} {fz : Nat × Nat} (h : St B b w p P a v N) (hg : w.heap[g]? = some (.cells cs 32 fz)) (i : Nat) (l : List Value) : St B b (w.setCells g i l) p P a v N := by
 have k := KeepT.cells hg i l
 exact ⟨k _ _ _ _ (by decide) h.box, h.own.kept k (by decide) (by decide) (by decide), k.own (by decide) h.nts, h.hb⟩
set_option maxHeartbeats 32000000 in
theorem set_c18 (p : Pls) (P : Pol) (a : As) (w : World) (hG : G18 w) (hP : PolAt w p P) (hr : Rises18 P) (hpa : p.an ≤ 10000) (hpm : p.mn ≤ 10000) (hpf : p.fn ≤ 100) (hpl : p.ln ≤ 100) (hv : a.val.size ≤ 1000) (hk : a.key.size ≤ 200) : Calls Tryz.prog 71 #[plV p P, asV a] w fun e w' => ∃ p' v, e = .returned (.tuple #[plV p' (setR (putC18 P.fm (turnR a.val).2) P a.key a.val).1, v]) ∧ OwnP w.heap.size w' p' (setR (putC18 P.fm (turnR a.val).2) P a.key a.val).1 ∧ w'.ownsRow w.heap.size 57 4 v ((setR (putC18 P.fm (turnR a.val).2) P a.key a.val).2.map (nteP a)).length (rowC encN ((setR (putC18 P.fm (turnR a.val).2) P a.key a.val).2.map (nteP a))) ∧ Below w.heap.size w w' := by
 obtain ⟨af, al, ax, ak, av⟩ := a
 simp only at hv hk
 unfold asV
 simp only
 obtain ⟨F, hF⟩ : ∃ F, F = setR (putC18 P.fm (turnR av).2) P ak av := ⟨_, rfl⟩
 rw [← hF]
 have HFE := hid hF
 clear hF
 obtain ⟨W, hW⟩ : ∃ W, W = ((w.alloc (.cells #[.slice p.aq p.an p.ac, .int .u8 (P.fl.1 : Nat), .slice p.fq p.fn p.fc, .int .u32 (P.dn : Nat), .int .u8 (P.lg.1 : Nat), .slice p.lq p.ln p.lc, .slice p.mq p.mn p.mc, .int .u8 (P.fm : Nat), .int .u64 (P.sp : Nat), .bool P.b1, .bool P.b2, .bool P.b3, .bool P.b4] 32)).alloc (.cells #[.string af, .int .i64 al, .string ax, .string ak, .string av] 37)).alloc (.cells #[.slice none 0 0, .int .u8 0, .slice none 0 0, .int .u32 0, .int .u8 0, .slice none 0 0, .slice none 0 0, .int .u8 0, .int .u64 0, .bool false, .bool false, .bool false, .bool false] 32) := ⟨_, rfl⟩
 have S0 := hid (show S17 w p P (⟨af, al, ax, ak, av⟩ : As) W from hW ▸ S17.start w p P (⟨af, al, ax, ak, av⟩ : As))
 have HWW := hid hW
 have HON := hid (fun (w w' : World) => G18.on (w := w) (w' := w'))
 have HG := hid hG
 have HOW := hid (fun (X : World) (b : Below w.heap.size w X) => own_c18 p P X (hP.on b) (by omega) (by omega) (by omega) (by omega))
 have HEF := hid (fun (X : World) => effects_c18 X)
 have HKY := hid (show Go.keyOf Tryz.prog 9 (.string ak) = some (kl17r ak) from WideMaps.keyOf_string_mk Tryz.underlying9 (by unfold maxLen; omega))
 have hav : av.size ≤ 1000 := hv
 have hna : P.ar.length ≤ 10000 := by rw [← hP.al]; exact hpa
 have hnf : P.fa.length ≤ 10000 := by rw [← hP.ml]; exact hpm
 have hra := hr.ar
 have hrf := hr.fa
 have SK := hid (fun (Y : World) (s : S17 w p P (⟨af, al, ax, ak, av⟩ : As) Y) => (show Y.cell? ⟨w.heap.size, 0, none⟩ = some (.slice p.aq p.an p.ac) ∧ Y.cell? ⟨w.heap.size, 1, none⟩ = some (.int .u8 (P.fl.1 : Nat)) ∧ Y.cell? ⟨w.heap.size, 2, none⟩ = some (.slice p.fq p.fn p.fc) ∧ Y.cell? ⟨w.heap.size, 3, none⟩ = some (.int .u32 (P.dn : Nat)) ∧ Y.cell? ⟨w.heap.size, 4, none⟩ = some (.int .u8 (P.lg.1 : Nat)) ∧ Y.cell? ⟨w.heap.size, 5, none⟩ = some (.slice p.lq p.ln p.lc) ∧ Y.cell? ⟨w.heap.size, 6, none⟩ = some (.slice p.mq p.mn p.mc) ∧ Y.cell? ⟨w.heap.size, 7, none⟩ = some (.int .u8 (P.fm : Nat)) ∧ Y.cell? ⟨w.heap.size, 8, none⟩ = some (.int .u64 (P.sp : Nat)) ∧ Y.cell? ⟨w.heap.size, 9, none⟩ = some (.bool P.b1) ∧ Y.cell? ⟨w.heap.size, 10, none⟩ = some (.bool P.b2) ∧ Y.cell? ⟨w.heap.size, 11, none⟩ = some (.bool P.b3) ∧ Y.cell? ⟨w.heap.size, 12, none⟩ = some (.bool P.b4) ∧ Y.cell? ⟨w.heap.size + 1, 0, none⟩ = some (.string af) ∧ Y.cell? ⟨w.heap.size + 1, 1, none⟩ = some (.int .i64 al) ∧ Y.cell? ⟨w.heap.size + 1, 2, none⟩ = some (.string ax) ∧ Y.cell? ⟨w.heap.size + 1, 3, none⟩ = some (.string ak) ∧ Y.cell? ⟨w.heap.size + 1, 4, none⟩ = some (.string av) from cells17 (a := (⟨af, al, ax, ak, av⟩ : As)) s.pol s.asg))
 simp only [plV_eqS18] at HOW
 rw [plV_eqS18 p P]
 clear hpa hpm hpf hpl hk hP hr hG hv
 go_enter Tryz.func71, Tryz.ntmps71
 go_wp2_with fail
 rw [← HWW.out]
 clear HWW hW
 refine keyS18 (F := FS18 w p P (⟨af, al, ax, ak, av⟩ : As)) (R := ?R18) ?h18 ?k18
 case h18 =>
  intro KEY
  refine wp_region_held_drew (S := (fun w' => w'.cell? ⟨w.heap.size, 0, none⟩ = some (.slice p.aq p.an p.ac) ∧ w'.cell? ⟨w.heap.size, 1, none⟩ = some (.int .u8 (P.fl.1 : Nat)) ∧ w'.cell? ⟨w.heap.size, 2, none⟩ = some (.slice p.fq p.fn p.fc) ∧ w'.cell? ⟨w.heap.size, 3, none⟩ = some (.int .u32 (P.dn : Nat)) ∧ w'.cell? ⟨w.heap.size, 4, none⟩ = some (.int .u8 (P.lg.1 : Nat)) ∧ w'.cell? ⟨w.heap.size, 5, none⟩ = some (.slice p.lq p.ln p.lc) ∧ w'.cell? ⟨w.heap.size, 6, none⟩ = some (.slice p.mq p.mn p.mc) ∧ w'.cell? ⟨w.heap.size, 7, none⟩ = some (.int .u8 (P.fm : Nat)) ∧ w'.cell? ⟨w.heap.size, 8, none⟩ = some (.int .u64 (P.sp : Nat)) ∧ w'.cell? ⟨w.heap.size, 9, none⟩ = some (.bool P.b1) ∧ w'.cell? ⟨w.heap.size, 10, none⟩ = some (.bool P.b2) ∧ w'.cell? ⟨w.heap.size, 11, none⟩ = some (.bool P.b3) ∧ w'.cell? ⟨w.heap.size, 12, none⟩ = some (.bool P.b4) ∧ w'.cell? ⟨w.heap.size + 1, 0, none⟩ = some (.string af) ∧ w'.cell? ⟨w.heap.size + 1, 1, none⟩ = some (.int .i64 al) ∧ w'.cell? ⟨w.heap.size + 1, 2, none⟩ = some (.string ax) ∧ w'.cell? ⟨w.heap.size + 1, 3, none⟩ = some (.string ak) ∧ w'.cell? ⟨w.heap.size + 1, 4, none⟩ = some (.string av))) (by kernel_rfl) ?_ (fun hHeld => ?_)
  ·exact SK.out _ (S0.out.on (Below.refl _ _).drew)
  obtain ⟨Y0, hY0⟩ : ∃ Y, Y = W.drew := ⟨_, rfl⟩
  have SY := hid (show S17 w p P (⟨af, al, ax, ak, av⟩ : As) Y0 from hY0 ▸ S0.out.on (Below.refl _ _).drew)
  rw [← hY0] at hHeld ⊢
  clear hY0
  refine take_op2 (i := 0) (v := ?_) rfl (by kernel_rfl) (by kernel_rfl) (by kernel_rfl) (fun _ _ _ h => h) (Or.inl ⟨wanted_plain rfl, ?_⟩) (by assumption) ?_
  rotate_left
  ·(intro w hSw; (try dsimp only at hSw); go_simp; try with_reducible rfl)
  intro act_ hact_; simp only [Act.put, List.setIfInBounds_toArray, List.set_cons_zero, List.set_cons_succ] at hact_; subst hact_
  refine take_op2 (i := 2) (v := ?_) rfl (by kernel_rfl) (by kernel_rfl) (by kernel_rfl) (fun _ _ _ h => h) (Or.inl ⟨wanted_plain rfl, ?_⟩) (by assumption) ?_
  rotate_left
  ·(intro w hSw; (try dsimp only at hSw); go_simp; try with_reducible rfl)
  intro act_ hact_; simp only [Act.put, List.setIfInBounds_toArray, List.set_cons_zero, List.set_cons_succ] at hact_; subst hact_
  refine wpAnyH_ready (rs := [1, 4]) (by kernel_rfl) (List.cons_ne_nil _ _) ?_
  refine AllReadyH.cons rfl (fun K hK => ?_) ?_
  ·go_simp
   go_wp2_with (go_at_call 101; ((with_reducible refine (HOW.out Y0 SY.out.bel).mono ?_); rintro e Y1 ⟨q, rfl, o1, b⟩))
   have OQ1 := hid (show OwnP (w.heap.size + 3) Y1 q P from o1.low (S17.size3 SY.out))
   have SY := hid (SY.out.on b)
   have OQ := OQ1
   clear o1 b OQ1
   refine hK.out _ _ ?_ (fun hHeld2 => ?_)
   ·exact SK.out _ SY.out
   clear hK K
   have hHeld := hHeld2
   clear hHeld2
   refine take_op2 (i := 3) (v := ?_) rfl (by kernel_rfl) (by kernel_rfl) (by kernel_rfl) (fun _ _ _ h => h) (Or.inl ⟨wanted_plain rfl, ?_⟩) (by assumption) ?_
   rotate_left
   ·(intro w hSw; (try dsimp only at hSw); go_simp; try with_reducible rfl)
   intro act_ hact_; simp only [Act.put, List.setIfInBounds_toArray, List.set_cons_zero, List.set_cons_succ] at hact_; subst hact_
   refine wpAnyH_ready (rs := [4]) (by kernel_rfl) (List.cons_ne_nil _ _) ?_
   refine AllReadyH.cons rfl (fun K hK => ?_) AllReadyH.nil
   go_simp
   refine hK.out _ _ ?_ (fun hHeld2 => ?_)
   ·exact SK.out _ (SY.out.on (below16 _ _))
   clear hK K
   obtain ⟨Y2, hN⟩ : ∃ X, X = World.alloc Y1 (.cells #[.slice none 0 0, .int .u8 0, .slice none 0 0, .int .u32 0, .int .u8 0, .slice none 0 0, .slice none 0 0, .int .u8 0, .int .u64 0, .bool false, .bool false, .bool false, .bool false, .string ⟨#[]⟩, .int .i64 0, .string ⟨#[]⟩, .string ⟨#[]⟩, .string ⟨#[]⟩, .slice none 0 0] 136) := ⟨_, rfl⟩
   have b : Below Y1.heap.size Y1 Y2 := hN ▸ below16 Y1 (.cells #[.slice none 0 0, .int .u8 0, .slice none 0 0, .int .u32 0, .int .u8 0, .slice none 0 0, .slice none 0 0, .int .u8 0, .int .u64 0, .bool false, .bool false, .bool false, .bool false, .string ⟨#[]⟩, .int .i64 0, .string ⟨#[]⟩, .string ⟨#[]⟩, .string ⟨#[]⟩, .slice none 0 0] 136)
   have ZA := hid (show Y2.heap[Y1.heap.size]? = some (.cells ([.slice none 0 0, .int .u8 0, .slice none 0 0, .int .u32 0, .int .u8 0, .slice none 0 0, .slice none 0 0, .int .u8 0, .int .u64 0, .bool false, .bool false, .bool false, .bool false, .string ⟨#[]⟩, .int .i64 0, .string ⟨#[]⟩, .string ⟨#[]⟩, .string ⟨#[]⟩, .slice none 0 0] : List Value).toArray 136 (0, 0)) from hN ▸ heap_alloc_new Y1 _)
   have GA := hid (show w.heap.size + 3 ≤ Y1.heap.size from S17.size3 SY.out)
   rw [← hN] at hHeld2 ⊢
   have SY := hid (SY.out.on b)
   have OQ := hid (OQ.out.on b)
   obtain ⟨gA, hg⟩ : ∃ g, g = Y1.heap.size := ⟨_, rfl⟩
   rw [← hg] at ZA GA ⊢
   clear b hN hg
   have hHeld := hHeld2
   clear hHeld2
   refine wpAnyH_ready (rs := [5]) (by kernel_rfl) (List.cons_ne_nil _ _) ?_
   refine AllReadyH.cons rfl (fun K hK => ?_) AllReadyH.nil
   refine step_storeL17 rfl 136 (.tmp 6) (.tmp 12) (by rfl) gA 0 (stC q P (⟨af, al, ax, ak, av⟩ : As) (.slice none 0 0)) (by rfl) (by rfl) (there_row17 ZA.out (show 0 + 19 ≤ 19 by decide)) st_info18 (stC_one18 _ _ _ _ _ _) ?_
   change K (Act.put _ none _) _
   simp only [Act.put]
   refine hK.out _ _ ?_ (fun hHeld2 => ?_)
   ·exact SK.out _ (finS18 SY.out ZA.out GA.out OQ.out).s
   clear hK K
   have hHeld := hHeld2
   clear hHeld2
   refine wpAnyH_done (by kernel_rfl) ?_ _
   have FIN := hid (finS18 SY.out ZA.out GA.out OQ.out)
   generalize Y2.setCells gA 0 (stC q P (⟨af, al, ax, ak, av⟩ : As) (.slice none 0 0)) = Z at FIN ⊢
   exact KEY Z gA q FIN.out
  refine AllReadyH.cons rfl (fun K hK => ?_) ?_
  ·go_simp
   refine hK.out _ _ ?_ (fun hHeld2 => ?_)
   ·exact SK.out _ (SY.out.on (below16 _ _))
   clear hK K
   obtain ⟨Y1, hN⟩ : ∃ X, X = World.alloc Y0 (.cells #[.slice none 0 0, .int .u8 0, .slice none 0 0, .int .u32 0, .int .u8 0, .slice none 0 0, .slice none 0 0, .int .u8 0, .int .u64 0, .bool false, .bool false, .bool false, .bool false, .string ⟨#[]⟩, .int .i64 0, .string ⟨#[]⟩, .string ⟨#[]⟩, .string ⟨#[]⟩, .slice none 0 0] 136) := ⟨_, rfl⟩
   have b : Below Y0.heap.size Y0 Y1 := hN ▸ below16 Y0 (.cells #[.slice none 0 0, .int .u8 0, .slice none 0 0, .int .u32 0, .int .u8 0, .slice none 0 0, .slice none 0 0, .int .u8 0, .int .u64 0, .bool false, .bool false, .bool false, .bool false, .string ⟨#[]⟩, .int .i64 0, .string ⟨#[]⟩, .string ⟨#[]⟩, .string ⟨#[]⟩, .slice none 0 0] 136)
   have ZA := hid (show Y1.heap[Y0.heap.size]? = some (.cells ([.slice none 0 0, .int .u8 0, .slice none 0 0, .int .u32 0, .int .u8 0, .slice none 0 0, .slice none 0 0, .int .u8 0, .int .u64 0, .bool false, .bool false, .bool false, .bool false, .string ⟨#[]⟩, .int .i64 0, .string ⟨#[]⟩, .string ⟨#[]⟩, .string ⟨#[]⟩, .slice none 0 0] : List Value).toArray 136 (0, 0)) from hN ▸ heap_alloc_new Y0 _)
   have GA := hid (show w.heap.size + 3 ≤ Y0.heap.size from S17.size3 SY.out)
   rw [← hN] at hHeld2 ⊢
   have SY := hid (SY.out.on b)
   obtain ⟨gA, hg⟩ : ∃ g, g = Y0.heap.size := ⟨_, rfl⟩
   rw [← hg] at ZA GA ⊢
   clear b hN hg
   have hHeld := hHeld2
   clear hHeld2
   refine wpAnyH_ready (rs := [1]) (by kernel_rfl) (List.cons_ne_nil _ _) ?_
   refine AllReadyH.cons rfl (fun K hK => ?_) AllReadyH.nil
   go_simp
   go_wp2_with (go_at_call 101; ((with_reducible refine (HOW.out Y1 SY.out.bel).mono ?_); rintro e Y2 ⟨q, rfl, o1, b⟩))
   have OQ1 := hid (show OwnP (w.heap.size + 3) Y2 q P from o1.low (S17.size3 SY.out))
   have SY := hid (SY.out.on b)
   have ZA := hid (blk_on ZA.out b)
   have OQ := OQ1
   clear o1 b OQ1
   refine hK.out _ _ ?_ (fun hHeld2 => ?_)
   ·exact SK.out _ SY.out
   clear hK K
   have hHeld := hHeld2
   clear hHeld2
   refine take_op2 (i := 3) (v := ?_) rfl (by kernel_rfl) (by kernel_rfl) (by kernel_rfl) (fun _ _ _ h => h) (Or.inl ⟨wanted_plain rfl, ?_⟩) (by assumption) ?_
   rotate_left
   ·(intro w hSw; (try dsimp only at hSw); go_simp; try with_reducible rfl)
   intro act_ hact_; simp only [Act.put, List.setIfInBounds_toArray, List.set_cons_zero, List.set_cons_succ] at hact_; subst hact_
   refine wpAnyH_ready (rs := [5]) (by kernel_rfl) (List.cons_ne_nil _ _) ?_
   refine AllReadyH.cons rfl (fun K hK => ?_) AllReadyH.nil
   refine step_storeL17 rfl 136 (.tmp 6) (.tmp 12) (by rfl) gA 0 (stC q P (⟨af, al, ax, ak, av⟩ : As) (.slice none 0 0)) (by rfl) (by rfl) (there_row17 ZA.out (show 0 + 19 ≤ 19 by decide)) st_info18 (stC_one18 _ _ _ _ _ _) ?_
   change K (Act.put _ none _) _
   simp only [Act.put]
   refine hK.out _ _ ?_ (fun hHeld2 => ?_)
   ·exact SK.out _ (finS18 SY.out ZA.out GA.out OQ.out).s
   clear hK K
   have hHeld := hHeld2
   clear hHeld2
   refine wpAnyH_done (by kernel_rfl) ?_ _
   have FIN := hid (finS18 SY.out ZA.out GA.out OQ.out)
   generalize Y2.setCells gA 0 (stC q P (⟨af, al, ax, ak, av⟩ : As) (.slice none 0 0)) = Z at FIN ⊢
   exact KEY Z gA q FIN.out
  exact AllReadyH.nil
 case k18 =>
  intro Z sb q hF
  have SY := hid hF.s
  have TY := hid hF.t
  clear hF
  by_cases h0 : ak = kArc
  ·have HAT := hid (show has M7 (kl17r ak) = true ∧ M7.atKey (kl17r ak) (.held .nilFunc) = .held (.func (.func 128) #[] #[]) by rw [h0]; exact at_kArc)
   have hse : setR (putC18 P.fm (turnR av).2) P ak av = ({ P with ar := (arcF P.ar av).1 }, (arcF P.ar av).2) := by rw [h0]; unfold setR; rw [if_pos rfl]
   have HCH := hid (fun (X : World) (k : Below w.heap.size w X) (q : Pls) (al_ : q.an = P.ar.length) (ml_ : q.mn = P.fa.length) (s : St (w.heap.size + 3) sb X q P (⟨af, al, ax, ak, av⟩ : As) (.slice none 0 0) []) => arches_c18 (w.heap.size + 3) sb X q P (⟨af, al, ax, ak, av⟩ : As) (fun Y y => HON.out _ _ HG.out (k.trans (y.mono (by omega)))) s hav (by rw [al_]; exact hna) hra)
   obtain ⟨P3, hP3⟩ : ∃ X, X = ({ P with ar := (arcF P.ar av).1 } : Pol) := ⟨_, rfl⟩
   obtain ⟨N3, hN3⟩ : ∃ X, X = (arcF P.ar av).2 := ⟨_, rfl⟩
   have HFF := hid (show F = (P3, N3) by rw [HFE.out, hse, hP3, hN3])
   rw [← hP3, ← hN3] at HCH
   clear hse hP3 hN3 hav hna hnf hra hrf h0
   have a3 := (cell_of_row Z (w.heap.size + 1) 3 _ _ (0, 0) SY.out.asg).trans (show _ = some (Value.string ak) from rfl)
   go_wp2_with fail
   go_region_held3 (fun w' => w'.cell? ⟨w.heap.size + 1, 3, none⟩ = some (.string ak)) (first
    | exact a3
    | exact a32) (first
    | (go_at_call 100
       ((with_reducible refine (HEF.out _).mono ?_); rintro e v2 ⟨rfl, o2, b2⟩)
       have S2 := hid (SY.out.on (((Below.refl Z.heap.size Z).drew).trans b2))
       have T2 := hid (TY.out.on (((Below.refl Z.heap.size Z).drew).trans b2))
       have M2 := hid o2
       have a32 := (cell_of_row v2 (w.heap.size + 1) 3 _ _ (0, 0) S2.out.asg).trans (show _ = some (Value.string ak) from rfl)
       have hlk : (Instr.lookup 133 (.map (some Z.heap.size)) (.string ak) true).run Tryz.prog v2 = .ok (.tuple #[(.func (.func 128) #[] #[]), .bool true]) v2 := run_lookup17r Z.heap.size 7 M2.out ak HKY.out (.func (.func 128) #[] #[]) true HAT.out.1 HAT.out.2
       clear o2 b2))
   go_upto_if 20 with fail
   go_wp2_with (go_at_call 128; ((with_reducible refine (HCH.out v2 S2.out.bel q T2.out.own.al T2.out.own.ml T2.out).mono ?_); rintro e v3 ⟨rfl, ⟨p4, vN, s4⟩, b4⟩); have T5 := hid s4; have S5 := hid (S2.out.on3 b4); clear s4 b4)
   obtain ⟨qN, cN, hvN⟩ := own16 T5.out.nts
   subst hvN
   obtain ⟨NF, hNF⟩ : ∃ X, X = N3.map (nteP (⟨af, al, ax, ak, av⟩ : As)) := ⟨_, rfl⟩
   rw [← hNF] at T5
   obtain ⟨nF, hnF⟩ : ∃ X, X = NF.length := ⟨_, rfl⟩
   rw [← hnF] at T5
   have HNF := hid hNF
   have HnF := hid hnF
   clear hNF hnF
   have SK5 := hid (fun (Y : World) (t : St (w.heap.size + 3) sb Y p4 P3 (⟨af, al, ax, ak, av⟩ : As) (.slice qN nF cN) NF) => (show (fun w' => w'.cell? ⟨sb, 0, none⟩ = some (.slice p4.aq p4.an p4.ac) ∧ w'.cell? ⟨sb, 1, none⟩ = some (.int .u8 (P3.fl.1 : Nat)) ∧ w'.cell? ⟨sb, 2, none⟩ = some (.slice p4.fq p4.fn p4.fc) ∧ w'.cell? ⟨sb, 3, none⟩ = some (.int .u32 (P3.dn : Nat)) ∧ w'.cell? ⟨sb, 4, none⟩ = some (.int .u8 (P3.lg.1 : Nat)) ∧ w'.cell? ⟨sb, 5, none⟩ = some (.slice p4.lq p4.ln p4.lc) ∧ w'.cell? ⟨sb, 6, none⟩ = some (.slice p4.mq p4.mn p4.mc) ∧ w'.cell? ⟨sb, 7, none⟩ = some (.int .u8 (P3.fm : Nat)) ∧ w'.cell? ⟨sb, 8, none⟩ = some (.int .u64 (P3.sp : Nat)) ∧ w'.cell? ⟨sb, 9, none⟩ = some (.bool P3.b1) ∧ w'.cell? ⟨sb, 10, none⟩ = some (.bool P3.b2) ∧ w'.cell? ⟨sb, 11, none⟩ = some (.bool P3.b3) ∧ w'.cell? ⟨sb, 12, none⟩ = some (.bool P3.b4) ∧ w'.cell? ⟨sb, 18, none⟩ = some (.slice qN nF cN)) Y from ⟨t.cell 0 (.slice p4.aq p4.an p4.ac) rfl, t.cell 1 (.int .u8 (P3.fl.1 : Nat)) rfl, t.cell 2 (.slice p4.fq p4.fn p4.fc) rfl, t.cell 3 (.int .u32 (P3.dn : Nat)) rfl, t.cell 4 (.int .u8 (P3.lg.1 : Nat)) rfl, t.cell 5 (.slice p4.lq p4.ln p4.lc) rfl, t.cell 6 (.slice p4.mq p4.mn p4.mc) rfl, t.cell 7 (.int .u8 (P3.fm : Nat)) rfl, t.cell 8 (.int .u64 (P3.sp : Nat)) rfl, t.cell 9 (.bool P3.b1) rfl, t.cell 10 (.bool P3.b2) rfl, t.cell 11 (.bool P3.b3) rfl, t.cell 12 (.bool P3.b4) rfl, t.cell 18 (.slice qN nF cN) rfl⟩))
   refine wp_region_held_drew (S := (fun w' => w'.cell? ⟨sb, 0, none⟩ = some (.slice p4.aq p4.an p4.ac) ∧ w'.cell? ⟨sb, 1, none⟩ = some (.int .u8 (P3.fl.1 : Nat)) ∧ w'.cell? ⟨sb, 2, none⟩ = some (.slice p4.fq p4.fn p4.fc) ∧ w'.cell? ⟨sb, 3, none⟩ = some (.int .u32 (P3.dn : Nat)) ∧ w'.cell? ⟨sb, 4, none⟩ = some (.int .u8 (P3.lg.1 : Nat)) ∧ w'.cell? ⟨sb, 5, none⟩ = some (.slice p4.lq p4.ln p4.lc) ∧ w'.cell? ⟨sb, 6, none⟩ = some (.slice p4.mq p4.mn p4.mc) ∧ w'.cell? ⟨sb, 7, none⟩ = some (.int .u8 (P3.fm : Nat)) ∧ w'.cell? ⟨sb, 8, none⟩ = some (.int .u64 (P3.sp : Nat)) ∧ w'.cell? ⟨sb, 9, none⟩ = some (.bool P3.b1) ∧ w'.cell? ⟨sb, 10, none⟩ = some (.bool P3.b2) ∧ w'.cell? ⟨sb, 11, none⟩ = some (.bool P3.b3) ∧ w'.cell? ⟨sb, 12, none⟩ = some (.bool P3.b4) ∧ w'.cell? ⟨sb, 18, none⟩ = some (.slice qN nF cN))) (by kernel_rfl) ?_ (fun hHeld => ?_)
   ·exact SK5.out _ (T5.out.on (Below.refl _ _).drew)
   obtain ⟨Y0, hY0⟩ : ∃ Y, Y = v3.drew := ⟨_, rfl⟩
   have S6 := hid (show S17 w p P (⟨af, al, ax, ak, av⟩ : As) Y0 from hY0 ▸ S5.out.on (Below.refl _ _).drew)
   have T6 := hid (show St (w.heap.size + 3) sb Y0 p4 P3 (⟨af, al, ax, ak, av⟩ : As) (.slice qN nF cN) NF from hY0 ▸ T5.out.on (Below.refl _ _).drew)
   rw [← hY0] at hHeld ⊢
   clear hY0
   refine take_op2 (i := 0) (v := ?_) rfl (by kernel_rfl) (by kernel_rfl) (by kernel_rfl) (fun _ _ _ h => h) (Or.inl ⟨wanted_plain rfl, ?_⟩) (by assumption) ?_
   rotate_left
   ·(intro w hSw; (try dsimp only at hSw); go_simp; try with_reducible rfl)
   intro act_ hact_; simp only [Act.put, List.setIfInBounds_toArray, List.set_cons_zero, List.set_cons_succ] at hact_; subst hact_
   refine take_op2 (i := 1) (v := ?_) rfl (by kernel_rfl) (by kernel_rfl) (by kernel_rfl) (fun _ _ _ h => h) (Or.inl ⟨wanted_plain rfl, ?_⟩) (by assumption) ?_
   rotate_left
   ·(intro w hSw; (try dsimp only at hSw); go_simp; try with_reducible rfl)
   intro act_ hact_; simp only [Act.put, List.setIfInBounds_toArray, List.set_cons_zero, List.set_cons_succ] at hact_; subst hact_
   refine take_op2 (i := 2) (v := ?_) rfl (by kernel_rfl) (by kernel_rfl) (by kernel_rfl) (fun _ _ _ h => h) (Or.inl ⟨wanted_plain rfl, ?_⟩) (by assumption) ?_
   rotate_left
   ·(intro w hSw; (try dsimp only at hSw); go_simp; try with_reducible rfl)
   intro act_ hact_; simp only [Act.put, List.setIfInBounds_toArray, List.set_cons_zero, List.set_cons_succ] at hact_; subst hact_
   refine take_op2 (i := 3) (v := ?_) rfl (by kernel_rfl) (by kernel_rfl) (by kernel_rfl) (fun _ _ _ h => h) (Or.inl ⟨wanted_plain rfl, ?_⟩) (by assumption) ?_
   rotate_left
   ·(intro w hSw; (try dsimp only at hSw); go_simp; try with_reducible rfl)
   intro act_ hact_; simp only [Act.put, List.setIfInBounds_toArray, List.set_cons_zero, List.set_cons_succ] at hact_; subst hact_
   refine wpAnyH_ready (rs := [4]) (by kernel_rfl) (List.cons_ne_nil _ _) ?_
   refine AllReadyH.cons rfl (fun K hK => ?_) AllReadyH.nil
   refine step_storeL17 rfl 32 (.tmp 4) (.tmp 24) (by rfl) (w.heap.size + 2) 0 (plC p4 P3) (by rfl) (by rfl) (there_row17 S6.out.res (show 0 + 13 ≤ 13 by decide)) pl_info (plC_one _ _) ?_
   change K (Act.put _ none _) _
   simp only [Act.put]
   refine hK.out _ _ ?_ (fun hHeld2 => ?_)
   ·exact SK5.out _ (T6.out.apart S6.out.res 0 (plC p4 P3))
   clear hK K
   have hHeld := hHeld2
   clear hHeld2
   refine take_op2 (i := 5) (v := ?_) rfl (by kernel_rfl) (by kernel_rfl) (by kernel_rfl) (fun _ _ _ h => h) (Or.inl ⟨wanted_plain rfl, ?_⟩) (by assumption) ?_
   rotate_left
   ·(intro w hSw; (try dsimp only at hSw); go_simp; try with_reducible rfl)
   intro act_ hact_; simp only [Act.put, List.setIfInBounds_toArray, List.set_cons_zero, List.set_cons_succ] at hact_; subst hact_
   refine wpAnyH_done (by kernel_rfl) ?_ _
   have hl := run_loadVar_mid (P := Tryz.prog) (Y0.setCells (w.heap.size + 2) 0 (plC p4 P3)) (w.heap.size + 2) 0 32 (plC p4 P3) _ (World.rangeAt_setCells_same Y0 _ 0 _ (there_row17 S6.out.res (show 0 + 13 ≤ 13 by decide))) Tryz.underlying32 rfl pl_info
   have HBF := hid (below_setCells16 (show w.heap.size ≤ w.heap.size + 2 by omega) (plC p4 P3) 0 _ S6.out.bel)
   have TF := hid (T6.out.apart S6.out.res 0 (plC p4 P3))
   generalize Y0.setCells (w.heap.size + 2) 0 (plC p4 P3) = ZZ at hl HBF TF ⊢
   (try go_wp2_with fail)
   (try simp only [Exit.inBlock, Exit.then])
   refine bodyPost_ret (v := .tuple #[.agg (plC p4 P3).toArray, .slice qN nF cN]) (results_two15 Tryz.results71 ?_ ?_ hl) rfl ⟨p4, _, by rw [HFF.out]; rfl, by rw [HFF.out]; exact TF.out.own.low (Nat.le_add_right _ 3), by have hq := owns_low16 TF.out.nts (Nat.le_add_right w.heap.size 3); rw [HFF.out]; simp only [HNF.out, List.length_map] at hq ⊢; exact hq, HBF.out⟩
   all_goals rfl
  by_cases h1 : ak = kFam
  ·have HAT := hid (show has M7 (kl17r ak) = true ∧ M7.atKey (kl17r ak) (.held .nilFunc) = .held (.func (.func 129) #[] #[]) by rw [h1]; exact at_kFam)
   have hse : setR (putC18 P.fm (turnR av).2) P ak av = ({ P with fa := (famF (putC18 P.fm (turnR av).2) P.fm P.fa av).1.2, fm := (famF (putC18 P.fm (turnR av).2) P.fm P.fa av).1.1 }, (famF (putC18 P.fm (turnR av).2) P.fm P.fa av).2) := by rw [h1]; unfold setR; rw [if_neg (by decide)]; rw [if_pos rfl]
   have HCH := hid (fun (X : World) (k : Below w.heap.size w X) (q : Pls) (al_ : q.an = P.ar.length) (ml_ : q.mn = P.fa.length) (s : St (w.heap.size + 3) sb X q P (⟨af, al, ax, ak, av⟩ : As) (.slice none 0 0) []) => families_c18 (w.heap.size + 3) sb X q P (⟨af, al, ax, ak, av⟩ : As) (fun Y y => HON.out _ _ HG.out (k.trans (y.mono (by omega)))) s hav hnf hrf)
   obtain ⟨P3, hP3⟩ : ∃ X, X = ({ P with fa := (famF (putC18 P.fm (turnR av).2) P.fm P.fa av).1.2, fm := (famF (putC18 P.fm (turnR av).2) P.fm P.fa av).1.1 } : Pol) := ⟨_, rfl⟩
   obtain ⟨N3, hN3⟩ : ∃ X, X = (famF (putC18 P.fm (turnR av).2) P.fm P.fa av).2 := ⟨_, rfl⟩
   have HFF := hid (show F = (P3, N3) by rw [HFE.out, hse, hP3, hN3])
   rw [← hP3, ← hN3] at HCH
   clear hse hP3 hN3 hav hna hnf hra hrf h0 h1
   have a3 := (cell_of_row Z (w.heap.size + 1) 3 _ _ (0, 0) SY.out.asg).trans (show _ = some (Value.string ak) from rfl)
   go_wp2_with fail
   go_region_held3 (fun w' => w'.cell? ⟨w.heap.size + 1, 3, none⟩ = some (.string ak)) (first
    | exact a3
    | exact a32) (first
    | (go_at_call 100
       ((with_reducible refine (HEF.out _).mono ?_); rintro e v2 ⟨rfl, o2, b2⟩)
       have S2 := hid (SY.out.on (((Below.refl Z.heap.size Z).drew).trans b2))
       have T2 := hid (TY.out.on (((Below.refl Z.heap.size Z).drew).trans b2))
       have M2 := hid o2
       have a32 := (cell_of_row v2 (w.heap.size + 1) 3 _ _ (0, 0) S2.out.asg).trans (show _ = some (Value.string ak) from rfl)
       have hlk : (Instr.lookup 133 (.map (some Z.heap.size)) (.string ak) true).run Tryz.prog v2 = .ok (.tuple #[(.func (.func 129) #[] #[]), .bool true]) v2 := run_lookup17r Z.heap.size 7 M2.out ak HKY.out (.func (.func 129) #[] #[]) true HAT.out.1 HAT.out.2
       clear o2 b2))
   go_upto_if 20 with fail
   go_wp2_with (go_at_call 129; ((with_reducible refine (HCH.out v2 S2.out.bel q T2.out.own.al T2.out.own.ml T2.out).mono ?_); rintro e v3 ⟨rfl, ⟨p4, vN, s4⟩, b4⟩); have T5 := hid s4; have S5 := hid (S2.out.on3 b4); clear s4 b4)
   obtain ⟨qN, cN, hvN⟩ := own16 T5.out.nts
   subst hvN
   obtain ⟨NF, hNF⟩ : ∃ X, X = N3.map (nteP (⟨af, al, ax, ak, av⟩ : As)) := ⟨_, rfl⟩
   rw [← hNF] at T5
   obtain ⟨nF, hnF⟩ : ∃ X, X = NF.length := ⟨_, rfl⟩
   rw [← hnF] at T5
   have HNF := hid hNF
   have HnF := hid hnF
   clear hNF hnF
   have SK5 := hid (fun (Y : World) (t : St (w.heap.size + 3) sb Y p4 P3 (⟨af, al, ax, ak, av⟩ : As) (.slice qN nF cN) NF) => (show (fun w' => w'.cell? ⟨sb, 0, none⟩ = some (.slice p4.aq p4.an p4.ac) ∧ w'.cell? ⟨sb, 1, none⟩ = some (.int .u8 (P3.fl.1 : Nat)) ∧ w'.cell? ⟨sb, 2, none⟩ = some (.slice p4.fq p4.fn p4.fc) ∧ w'.cell? ⟨sb, 3, none⟩ = some (.int .u32 (P3.dn : Nat)) ∧ w'.cell? ⟨sb, 4, none⟩ = some (.int .u8 (P3.lg.1 : Nat)) ∧ w'.cell? ⟨sb, 5, none⟩ = some (.slice p4.lq p4.ln p4.lc) ∧ w'.cell? ⟨sb, 6, none⟩ = some (.slice p4.mq p4.mn p4.mc) ∧ w'.cell? ⟨sb, 7, none⟩ = some (.int .u8 (P3.fm : Nat)) ∧ w'.cell? ⟨sb, 8, none⟩ = some (.int .u64 (P3.sp : Nat)) ∧ w'.cell? ⟨sb, 9, none⟩ = some (.bool P3.b1) ∧ w'.cell? ⟨sb, 10, none⟩ = some (.bool P3.b2) ∧ w'.cell? ⟨sb, 11, none⟩ = some (.bool P3.b3) ∧ w'.cell? ⟨sb, 12, none⟩ = some (.bool P3.b4) ∧ w'.cell? ⟨sb, 18, none⟩ = some (.slice qN nF cN)) Y from ⟨t.cell 0 (.slice p4.aq p4.an p4.ac) rfl, t.cell 1 (.int .u8 (P3.fl.1 : Nat)) rfl, t.cell 2 (.slice p4.fq p4.fn p4.fc) rfl, t.cell 3 (.int .u32 (P3.dn : Nat)) rfl, t.cell 4 (.int .u8 (P3.lg.1 : Nat)) rfl, t.cell 5 (.slice p4.lq p4.ln p4.lc) rfl, t.cell 6 (.slice p4.mq p4.mn p4.mc) rfl, t.cell 7 (.int .u8 (P3.fm : Nat)) rfl, t.cell 8 (.int .u64 (P3.sp : Nat)) rfl, t.cell 9 (.bool P3.b1) rfl, t.cell 10 (.bool P3.b2) rfl, t.cell 11 (.bool P3.b3) rfl, t.cell 12 (.bool P3.b4) rfl, t.cell 18 (.slice qN nF cN) rfl⟩))
   refine wp_region_held_drew (S := (fun w' => w'.cell? ⟨sb, 0, none⟩ = some (.slice p4.aq p4.an p4.ac) ∧ w'.cell? ⟨sb, 1, none⟩ = some (.int .u8 (P3.fl.1 : Nat)) ∧ w'.cell? ⟨sb, 2, none⟩ = some (.slice p4.fq p4.fn p4.fc) ∧ w'.cell? ⟨sb, 3, none⟩ = some (.int .u32 (P3.dn : Nat)) ∧ w'.cell? ⟨sb, 4, none⟩ = some (.int .u8 (P3.lg.1 : Nat)) ∧ w'.cell? ⟨sb, 5, none⟩ = some (.slice p4.lq p4.ln p4.lc) ∧ w'.cell? ⟨sb, 6, none⟩ = some (.slice p4.mq p4.mn p4.mc) ∧ w'.cell? ⟨sb, 7, none⟩ = some (.int .u8 (P3.fm : Nat)) ∧ w'.cell? ⟨sb, 8, none⟩ = some (.int .u64 (P3.sp : Nat)) ∧ w'.cell? ⟨sb, 9, none⟩ = some (.bool P3.b1) ∧ w'.cell? ⟨sb, 10, none⟩ = some (.bool P3.b2) ∧ w'.cell? ⟨sb, 11, none⟩ = some (.bool P3.b3) ∧ w'.cell? ⟨sb, 12, none⟩ = some (.bool P3.b4) ∧ w'.cell? ⟨sb, 18, none⟩ = some (.slice qN nF cN))) (by kernel_rfl) ?_ (fun hHeld => ?_)
   ·exact SK5.out _ (T5.out.on (Below.refl _ _).drew)
   obtain ⟨Y0, hY0⟩ : ∃ Y, Y = v3.drew := ⟨_, rfl⟩
   have S6 := hid (show S17 w p P (⟨af, al, ax, ak, av⟩ : As) Y0 from hY0 ▸ S5.out.on (Below.refl _ _).drew)
   have T6 := hid (show St (w.heap.size + 3) sb Y0 p4 P3 (⟨af, al, ax, ak, av⟩ : As) (.slice qN nF cN) NF from hY0 ▸ T5.out.on (Below.refl _ _).drew)
   rw [← hY0] at hHeld ⊢
   clear hY0
   refine take_op2 (i := 0) (v := ?_) rfl (by kernel_rfl) (by kernel_rfl) (by kernel_rfl) (fun _ _ _ h => h) (Or.inl ⟨wanted_plain rfl, ?_⟩) (by assumption) ?_
   rotate_left
   ·(intro w hSw; (try dsimp only at hSw); go_simp; try with_reducible rfl)
   intro act_ hact_; simp only [Act.put, List.setIfInBounds_toArray, List.set_cons_zero, List.set_cons_succ] at hact_; subst hact_
   refine take_op2 (i := 1) (v := ?_) rfl (by kernel_rfl) (by kernel_rfl) (by kernel_rfl) (fun _ _ _ h => h) (Or.inl ⟨wanted_plain rfl, ?_⟩) (by assumption) ?_
   rotate_left
   ·(intro w hSw; (try dsimp only at hSw); go_simp; try with_reducible rfl)
   intro act_ hact_; simp only [Act.put, List.setIfInBounds_toArray, List.set_cons_zero, List.set_cons_succ] at hact_; subst hact_
   refine take_op2 (i := 2) (v := ?_) rfl (by kernel_rfl) (by kernel_rfl) (by kernel_rfl) (fun _ _ _ h => h) (Or.inl ⟨wanted_plain rfl, ?_⟩) (by assumption) ?_
   rotate_left
   ·(intro w hSw; (try dsimp only at hSw); go_simp; try with_reducible rfl)
   intro act_ hact_; simp only [Act.put, List.setIfInBounds_toArray, List.set_cons_zero, List.set_cons_succ] at hact_; subst hact_
   refine take_op2 (i := 3) (v := ?_) rfl (by kernel_rfl) (by kernel_rfl) (by kernel_rfl) (fun _ _ _ h => h) (Or.inl ⟨wanted_plain rfl, ?_⟩) (by assumption) ?_
   rotate_left
   ·(intro w hSw; (try dsimp only at hSw); go_simp; try with_reducible rfl)
   intro act_ hact_; simp only [Act.put, List.setIfInBounds_toArray, List.set_cons_zero, List.set_cons_succ] at hact_; subst hact_
   refine wpAnyH_ready (rs := [4]) (by kernel_rfl) (List.cons_ne_nil _ _) ?_
   refine AllReadyH.cons rfl (fun K hK => ?_) AllReadyH.nil
   refine step_storeL17 rfl 32 (.tmp 4) (.tmp 24) (by rfl) (w.heap.size + 2) 0 (plC p4 P3) (by rfl) (by rfl) (there_row17 S6.out.res (show 0 + 13 ≤ 13 by decide)) pl_info (plC_one _ _) ?_
   change K (Act.put _ none _) _
   simp only [Act.put]
   refine hK.out _ _ ?_ (fun hHeld2 => ?_)
   ·exact SK5.out _ (T6.out.apart S6.out.res 0 (plC p4 P3))
   clear hK K
   have hHeld := hHeld2
   clear hHeld2
   refine take_op2 (i := 5) (v := ?_) rfl (by kernel_rfl) (by kernel_rfl) (by kernel_rfl) (fun _ _ _ h => h) (Or.inl ⟨wanted_plain rfl, ?_⟩) (by assumption) ?_
   rotate_left
   ·(intro w hSw; (try dsimp only at hSw); go_simp; try with_reducible rfl)
   intro act_ hact_; simp only [Act.put, List.setIfInBounds_toArray, List.set_cons_zero, List.set_cons_succ] at hact_; subst hact_
   refine wpAnyH_done (by kernel_rfl) ?_ _
   have hl := run_loadVar_mid (P := Tryz.prog) (Y0.setCells (w.heap.size + 2) 0 (plC p4 P3)) (w.heap.size + 2) 0 32 (plC p4 P3) _ (World.rangeAt_setCells_same Y0 _ 0 _ (there_row17 S6.out.res (show 0 + 13 ≤ 13 by decide))) Tryz.underlying32 rfl pl_info
   have HBF := hid (below_setCells16 (show w.heap.size ≤ w.heap.size + 2 by omega) (plC p4 P3) 0 _ S6.out.bel)
   have TF := hid (T6.out.apart S6.out.res 0 (plC p4 P3))
   generalize Y0.setCells (w.heap.size + 2) 0 (plC p4 P3) = ZZ at hl HBF TF ⊢
   (try go_wp2_with fail)
   (try simp only [Exit.inBlock, Exit.then])
   refine bodyPost_ret (v := .tuple #[.agg (plC p4 P3).toArray, .slice qN nF cN]) (results_two15 Tryz.results71 ?_ ?_ hl) rfl ⟨p4, _, by rw [HFF.out]; rfl, by rw [HFF.out]; exact TF.out.own.low (Nat.le_add_right _ 3), by have hq := owns_low16 TF.out.nts (Nat.le_add_right w.heap.size 3); rw [HFF.out]; simp only [HNF.out, List.length_map] at hq ⊢; exact hq, HBF.out⟩
   all_goals rfl
  by_cases h2 : ak = kSpa
  ·have HAT := hid (show has M7 (kl17r ak) = true ∧ M7.atKey (kl17r ak) (.held .nilFunc) = .held (.func (.func 130) #[] #[]) by rw [h2]; exact at_kSpa)
   have hse : setR (putC18 P.fm (turnR av).2) P ak av = ({ P with sp := (spaF P.sp av).1 }, (spaF P.sp av).2) := by rw [h2]; unfold setR; rw [if_neg (by decide)]; rw [if_neg (by decide)]; rw [if_pos rfl]
   have HCH := hid (fun (X : World) (k : Below w.heap.size w X) (q : Pls) (al_ : q.an = P.ar.length) (ml_ : q.mn = P.fa.length) (s : St (w.heap.size + 3) sb X q P (⟨af, al, ax, ak, av⟩ : As) (.slice none 0 0) []) => spaces_c18 (w.heap.size + 3) sb X q P (⟨af, al, ax, ak, av⟩ : As) (fun Y y => HON.out _ _ HG.out (k.trans (y.mono (by omega)))) s hav)
   obtain ⟨P3, hP3⟩ : ∃ X, X = ({ P with sp := (spaF P.sp av).1 } : Pol) := ⟨_, rfl⟩
   obtain ⟨N3, hN3⟩ : ∃ X, X = (spaF P.sp av).2 := ⟨_, rfl⟩
   have HFF := hid (show F = (P3, N3) by rw [HFE.out, hse, hP3, hN3])
   rw [← hP3, ← hN3] at HCH
   clear hse hP3 hN3 hav hna hnf hra hrf h0 h1 h2
   have a3 := (cell_of_row Z (w.heap.size + 1) 3 _ _ (0, 0) SY.out.asg).trans (show _ = some (Value.string ak) from rfl)
   go_wp2_with fail
   go_region_held3 (fun w' => w'.cell? ⟨w.heap.size + 1, 3, none⟩ = some (.string ak)) (first
    | exact a3
    | exact a32) (first
    | (go_at_call 100
       ((with_reducible refine (HEF.out _).mono ?_); rintro e v2 ⟨rfl, o2, b2⟩)
       have S2 := hid (SY.out.on (((Below.refl Z.heap.size Z).drew).trans b2))
       have T2 := hid (TY.out.on (((Below.refl Z.heap.size Z).drew).trans b2))
       have M2 := hid o2
       have a32 := (cell_of_row v2 (w.heap.size + 1) 3 _ _ (0, 0) S2.out.asg).trans (show _ = some (Value.string ak) from rfl)
       have hlk : (Instr.lookup 133 (.map (some Z.heap.size)) (.string ak) true).run Tryz.prog v2 = .ok (.tuple #[(.func (.func 130) #[] #[]), .bool true]) v2 := run_lookup17r Z.heap.size 7 M2.out ak HKY.out (.func (.func 130) #[] #[]) true HAT.out.1 HAT.out.2
       clear o2 b2))
   go_upto_if 20 with fail
   go_wp2_with (go_at_call 130; ((with_reducible refine (HCH.out v2 S2.out.bel q T2.out.own.al T2.out.own.ml T2.out).mono ?_); rintro e v3 ⟨rfl, ⟨p4, vN, s4⟩, b4⟩); have T5 := hid s4; have S5 := hid (S2.out.on3 b4); clear s4 b4)
   obtain ⟨qN, cN, hvN⟩ := own16 T5.out.nts
   subst hvN
   obtain ⟨NF, hNF⟩ : ∃ X, X = N3.map (nteP (⟨af, al, ax, ak, av⟩ : As)) := ⟨_, rfl⟩
   rw [← hNF] at T5
   obtain ⟨nF, hnF⟩ : ∃ X, X = NF.length := ⟨_, rfl⟩
   rw [← hnF] at T5
   have HNF := hid hNF
   have HnF := hid hnF
   clear hNF hnF
   have SK5 := hid (fun (Y : World) (t : St (w.heap.size + 3) sb Y p4 P3 (⟨af, al, ax, ak, av⟩ : As) (.slice qN nF cN) NF) => (show (fun w' => w'.cell? ⟨sb, 0, none⟩ = some (.slice p4.aq p4.an p4.ac) ∧ w'.cell? ⟨sb, 1, none⟩ = some (.int .u8 (P3.fl.1 : Nat)) ∧ w'.cell? ⟨sb, 2, none⟩ = some (.slice p4.fq p4.fn p4.fc) ∧ w'.cell? ⟨sb, 3, none⟩ = some (.int .u32 (P3.dn : Nat)) ∧ w'.cell? ⟨sb, 4, none⟩ = some (.int .u8 (P3.lg.1 : Nat)) ∧ w'.cell? ⟨sb, 5, none⟩ = some (.slice p4.lq p4.ln p4.lc) ∧ w'.cell? ⟨sb, 6, none⟩ = some (.slice p4.mq p4.mn p4.mc) ∧ w'.cell? ⟨sb, 7, none⟩ = some (.int .u8 (P3.fm : Nat)) ∧ w'.cell? ⟨sb, 8, none⟩ = some (.int .u64 (P3.sp : Nat)) ∧ w'.cell? ⟨sb, 9, none⟩ = some (.bool P3.b1) ∧ w'.cell? ⟨sb, 10, none⟩ = some (.bool P3.b2) ∧ w'.cell? ⟨sb, 11, none⟩ = some (.bool P3.b3) ∧ w'.cell? ⟨sb, 12, none⟩ = some (.bool P3.b4) ∧ w'.cell? ⟨sb, 18, none⟩ = some (.slice qN nF cN)) Y from ⟨t.cell 0 (.slice p4.aq p4.an p4.ac) rfl, t.cell 1 (.int .u8 (P3.fl.1 : Nat)) rfl, t.cell 2 (.slice p4.fq p4.fn p4.fc) rfl, t.cell 3 (.int .u32 (P3.dn : Nat)) rfl, t.cell 4 (.int .u8 (P3.lg.1 : Nat)) rfl, t.cell 5 (.slice p4.lq p4.ln p4.lc) rfl, t.cell 6 (.slice p4.mq p4.mn p4.mc) rfl, t.cell 7 (.int .u8 (P3.fm : Nat)) rfl, t.cell 8 (.int .u64 (P3.sp : Nat)) rfl, t.cell 9 (.bool P3.b1) rfl, t.cell 10 (.bool P3.b2) rfl, t.cell 11 (.bool P3.b3) rfl, t.cell 12 (.bool P3.b4) rfl, t.cell 18 (.slice qN nF cN) rfl⟩))
   refine wp_region_held_drew (S := (fun w' => w'.cell? ⟨sb, 0, none⟩ = some (.slice p4.aq p4.an p4.ac) ∧ w'.cell? ⟨sb, 1, none⟩ = some (.int .u8 (P3.fl.1 : Nat)) ∧ w'.cell? ⟨sb, 2, none⟩ = some (.slice p4.fq p4.fn p4.fc) ∧ w'.cell? ⟨sb, 3, none⟩ = some (.int .u32 (P3.dn : Nat)) ∧ w'.cell? ⟨sb, 4, none⟩ = some (.int .u8 (P3.lg.1 : Nat)) ∧ w'.cell? ⟨sb, 5, none⟩ = some (.slice p4.lq p4.ln p4.lc) ∧ w'.cell? ⟨sb, 6, none⟩ = some (.slice p4.mq p4.mn p4.mc) ∧ w'.cell? ⟨sb, 7, none⟩ = some (.int .u8 (P3.fm : Nat)) ∧ w'.cell? ⟨sb, 8, none⟩ = some (.int .u64 (P3.sp : Nat)) ∧ w'.cell? ⟨sb, 9, none⟩ = some (.bool P3.b1) ∧ w'.cell? ⟨sb, 10, none⟩ = some (.bool P3.b2) ∧ w'.cell? ⟨sb, 11, none⟩ = some (.bool P3.b3) ∧ w'.cell? ⟨sb, 12, none⟩ = some (.bool P3.b4) ∧ w'.cell? ⟨sb, 18, none⟩ = some (.slice qN nF cN))) (by kernel_rfl) ?_ (fun hHeld => ?_)
   ·exact SK5.out _ (T5.out.on (Below.refl _ _).drew)
   obtain ⟨Y0, hY0⟩ : ∃ Y, Y = v3.drew := ⟨_, rfl⟩
   have S6 := hid (show S17 w p P (⟨af, al, ax, ak, av⟩ : As) Y0 from hY0 ▸ S5.out.on (Below.refl _ _).drew)
   have T6 := hid (show St (w.heap.size + 3) sb Y0 p4 P3 (⟨af, al, ax, ak, av⟩ : As) (.slice qN nF cN) NF from hY0 ▸ T5.out.on (Below.refl _ _).drew)
   rw [← hY0] at hHeld ⊢
   clear hY0
   refine take_op2 (i := 0) (v := ?_) rfl (by kernel_rfl) (by kernel_rfl) (by kernel_rfl) (fun _ _ _ h => h) (Or.inl ⟨wanted_plain rfl, ?_⟩) (by assumption) ?_
   rotate_left
   ·(intro w hSw; (try dsimp only at hSw); go_simp; try with_reducible rfl)
   intro act_ hact_; simp only [Act.put, List.setIfInBounds_toArray, List.set_cons_zero, List.set_cons_succ] at hact_; subst hact_
   refine take_op2 (i := 1) (v := ?_) rfl (by kernel_rfl) (by kernel_rfl) (by kernel_rfl) (fun _ _ _ h => h) (Or.inl ⟨wanted_plain rfl, ?_⟩) (by assumption) ?_
   rotate_left
   ·(intro w hSw; (try dsimp only at hSw); go_simp; try with_reducible rfl)
   intro act_ hact_; simp only [Act.put, List.setIfInBounds_toArray, List.set_cons_zero, List.set_cons_succ] at hact_; subst hact_
   refine take_op2 (i := 2) (v := ?_) rfl (by kernel_rfl) (by kernel_rfl) (by kernel_rfl) (fun _ _ _ h => h) (Or.inl ⟨wanted_plain rfl, ?_⟩) (by assumption) ?_
   rotate_left
   ·(intro w hSw; (try dsimp only at hSw); go_simp; try with_reducible rfl)
   intro act_ hact_; simp only [Act.put, List.setIfInBounds_toArray, List.set_cons_zero, List.set_cons_succ] at hact_; subst hact_
   refine take_op2 (i := 3) (v := ?_) rfl (by kernel_rfl) (by kernel_rfl) (by kernel_rfl) (fun _ _ _ h => h) (Or.inl ⟨wanted_plain rfl, ?_⟩) (by assumption) ?_
   rotate_left
   ·(intro w hSw; (try dsimp only at hSw); go_simp; try with_reducible rfl)
   intro act_ hact_; simp only [Act.put, List.setIfInBounds_toArray, List.set_cons_zero, List.set_cons_succ] at hact_; subst hact_
   refine wpAnyH_ready (rs := [4]) (by kernel_rfl) (List.cons_ne_nil _ _) ?_
   refine AllReadyH.cons rfl (fun K hK => ?_) AllReadyH.nil
   refine step_storeL17 rfl 32 (.tmp 4) (.tmp 24) (by rfl) (w.heap.size + 2) 0 (plC p4 P3) (by rfl) (by rfl) (there_row17 S6.out.res (show 0 + 13 ≤ 13 by decide)) pl_info (plC_one _ _) ?_
   change K (Act.put _ none _) _
   simp only [Act.put]
   refine hK.out _ _ ?_ (fun hHeld2 => ?_)
   ·exact SK5.out _ (T6.out.apart S6.out.res 0 (plC p4 P3))
   clear hK K
   have hHeld := hHeld2
   clear hHeld2
   refine take_op2 (i := 5) (v := ?_) rfl (by kernel_rfl) (by kernel_rfl) (by kernel_rfl) (fun _ _ _ h => h) (Or.inl ⟨wanted_plain rfl, ?_⟩) (by assumption) ?_
   rotate_left
   ·(intro w hSw; (try dsimp only at hSw); go_simp; try with_reducible rfl)
   intro act_ hact_; simp only [Act.put, List.setIfInBounds_toArray, List.set_cons_zero, List.set_cons_succ] at hact_; subst hact_
   refine wpAnyH_done (by kernel_rfl) ?_ _
   have hl := run_loadVar_mid (P := Tryz.prog) (Y0.setCells (w.heap.size + 2) 0 (plC p4 P3)) (w.heap.size + 2) 0 32 (plC p4 P3) _ (World.rangeAt_setCells_same Y0 _ 0 _ (there_row17 S6.out.res (show 0 + 13 ≤ 13 by decide))) Tryz.underlying32 rfl pl_info
   have HBF := hid (below_setCells16 (show w.heap.size ≤ w.heap.size + 2 by omega) (plC p4 P3) 0 _ S6.out.bel)
   have TF := hid (T6.out.apart S6.out.res 0 (plC p4 P3))
   generalize Y0.setCells (w.heap.size + 2) 0 (plC p4 P3) = ZZ at hl HBF TF ⊢
   (try go_wp2_with fail)
   (try simp only [Exit.inBlock, Exit.then])
   refine bodyPost_ret (v := .tuple #[.agg (plC p4 P3).toArray, .slice qN nF cN]) (results_two15 Tryz.results71 ?_ ?_ hl) rfl ⟨p4, _, by rw [HFF.out]; rfl, by rw [HFF.out]; exact TF.out.own.low (Nat.le_add_right _ 3), by have hq := owns_low16 TF.out.nts (Nat.le_add_right w.heap.size 3); rw [HFF.out]; simp only [HNF.out, List.length_map] at hq ⊢; exact hq, HBF.out⟩
   all_goals rfl
  by_cases h3 : ak = kWri
  ·have HAT := hid (show has M7 (kl17r ak) = true ∧ M7.atKey (kl17r ak) (.held .nilFunc) = .held (.func (.func 131) #[] #[]) by rw [h3]; exact at_kWri)
   have hse : setR (putC18 P.fm (turnR av).2) P ak av = ({ P with b1 := (flgF P.b1 av).1 }, (flgF P.b1 av).2) := by rw [h3]; unfold setR; rw [if_neg (by decide)]; rw [if_neg (by decide)]; rw [if_neg (by decide)]; rw [if_pos rfl]
   have HCH := hid (fun (X : World) (k : Below w.heap.size w X) (q : Pls) (al_ : q.an = P.ar.length) (ml_ : q.mn = P.fa.length) (s : St (w.heap.size + 3) sb X q P (⟨af, al, ax, ak, av⟩ : As) (.slice none 0 0) []) => writeExecute_c18 (w.heap.size + 3) sb X q P (⟨af, al, ax, ak, av⟩ : As) (fun Y y => HON.out _ _ HG.out (k.trans (y.mono (by omega)))) s hav)
   obtain ⟨P3, hP3⟩ : ∃ X, X = ({ P with b1 := (flgF P.b1 av).1 } : Pol) := ⟨_, rfl⟩
   obtain ⟨N3, hN3⟩ : ∃ X, X = (flgF P.b1 av).2 := ⟨_, rfl⟩
   have HFF := hid (show F = (P3, N3) by rw [HFE.out, hse, hP3, hN3])
   rw [← hP3, ← hN3] at HCH
   clear hse hP3 hN3 hav hna hnf hra hrf h0 h1 h2 h3
   have a3 := (cell_of_row Z (w.heap.size + 1) 3 _ _ (0, 0) SY.out.asg).trans (show _ = some (Value.string ak) from rfl)
   go_wp2_with fail
   go_region_held3 (fun w' => w'.cell? ⟨w.heap.size + 1, 3, none⟩ = some (.string ak)) (first
    | exact a3
    | exact a32) (first
    | (go_at_call 100
       ((with_reducible refine (HEF.out _).mono ?_); rintro e v2 ⟨rfl, o2, b2⟩)
       have S2 := hid (SY.out.on (((Below.refl Z.heap.size Z).drew).trans b2))
       have T2 := hid (TY.out.on (((Below.refl Z.heap.size Z).drew).trans b2))
       have M2 := hid o2
       have a32 := (cell_of_row v2 (w.heap.size + 1) 3 _ _ (0, 0) S2.out.asg).trans (show _ = some (Value.string ak) from rfl)
       have hlk : (Instr.lookup 133 (.map (some Z.heap.size)) (.string ak) true).run Tryz.prog v2 = .ok (.tuple #[(.func (.func 131) #[] #[]), .bool true]) v2 := run_lookup17r Z.heap.size 7 M2.out ak HKY.out (.func (.func 131) #[] #[]) true HAT.out.1 HAT.out.2
       clear o2 b2))
   go_upto_if 20 with fail
   go_wp2_with (go_at_call 131; ((with_reducible refine (HCH.out v2 S2.out.bel q T2.out.own.al T2.out.own.ml T2.out).mono ?_); rintro e v3 ⟨rfl, ⟨p4, vN, s4⟩, b4⟩); have T5 := hid s4; have S5 := hid (S2.out.on3 b4); clear s4 b4)
   obtain ⟨qN, cN, hvN⟩ := own16 T5.out.nts
   subst hvN
   obtain ⟨NF, hNF⟩ : ∃ X, X = N3.map (nteP (⟨af, al, ax, ak, av⟩ : As)) := ⟨_, rfl⟩
   rw [← hNF] at T5
   obtain ⟨nF, hnF⟩ : ∃ X, X = NF.length := ⟨_, rfl⟩
   rw [← hnF] at T5
   have HNF := hid hNF
   have HnF := hid hnF
   clear hNF hnF
   have SK5 := hid (fun (Y : World) (t : St (w.heap.size + 3) sb Y p4 P3 (⟨af, al, ax, ak, av⟩ : As) (.slice qN nF cN) NF) => (show (fun w' => w'.cell? ⟨sb, 0, none⟩ = some (.slice p4.aq p4.an p4.ac) ∧ w'.cell? ⟨sb, 1, none⟩ = some (.int .u8 (P3.fl.1 : Nat)) ∧ w'.cell? ⟨sb, 2, none⟩ = some (.slice p4.fq p4.fn p4.fc) ∧ w'.cell? ⟨sb, 3, none⟩ = some (.int .u32 (P3.dn : Nat)) ∧ w'.cell? ⟨sb, 4, none⟩ = some (.int .u8 (P3.lg.1 : Nat)) ∧ w'.cell? ⟨sb, 5, none⟩ = some (.slice p4.lq p4.ln p4.lc) ∧ w'.cell? ⟨sb, 6, none⟩ = some (.slice p4.mq p4.mn p4.mc) ∧ w'.cell? ⟨sb, 7, none⟩ = some (.int .u8 (P3.fm : Nat)) ∧ w'.cell? ⟨sb, 8, none⟩ = some (.int .u64 (P3.sp : Nat)) ∧ w'.cell? ⟨sb, 9, none⟩ = some (.bool P3.b1) ∧ w'.cell? ⟨sb, 10, none⟩ = some (.bool P3.b2) ∧ w'.cell? ⟨sb, 11, none⟩ = some (.bool P3.b3) ∧ w'.cell? ⟨sb, 12, none⟩ = some (.bool P3.b4) ∧ w'.cell? ⟨sb, 18, none⟩ = some (.slice qN nF cN)) Y from ⟨t.cell 0 (.slice p4.aq p4.an p4.ac) rfl, t.cell 1 (.int .u8 (P3.fl.1 : Nat)) rfl, t.cell 2 (.slice p4.fq p4.fn p4.fc) rfl, t.cell 3 (.int .u32 (P3.dn : Nat)) rfl, t.cell 4 (.int .u8 (P3.lg.1 : Nat)) rfl, t.cell 5 (.slice p4.lq p4.ln p4.lc) rfl, t.cell 6 (.slice p4.mq p4.mn p4.mc) rfl, t.cell 7 (.int .u8 (P3.fm : Nat)) rfl, t.cell 8 (.int .u64 (P3.sp : Nat)) rfl, t.cell 9 (.bool P3.b1) rfl, t.cell 10 (.bool P3.b2) rfl, t.cell 11 (.bool P3.b3) rfl, t.cell 12 (.bool P3.b4) rfl, t.cell 18 (.slice qN nF cN) rfl⟩))
   refine wp_region_held_drew (S := (fun w' => w'.cell? ⟨sb, 0, none⟩ = some (.slice p4.aq p4.an p4.ac) ∧ w'.cell? ⟨sb, 1, none⟩ = some (.int .u8 (P3.fl.1 : Nat)) ∧ w'.cell? ⟨sb, 2, none⟩ = some (.slice p4.fq p4.fn p4.fc) ∧ w'.cell? ⟨sb, 3, none⟩ = some (.int .u32 (P3.dn : Nat)) ∧ w'.cell? ⟨sb, 4, none⟩ = some (.int .u8 (P3.lg.1 : Nat)) ∧ w'.cell? ⟨sb, 5, none⟩ = some (.slice p4.lq p4.ln p4.lc) ∧ w'.cell? ⟨sb, 6, none⟩ = some (.slice p4.mq p4.mn p4.mc) ∧ w'.cell? ⟨sb, 7, none⟩ = some (.int .u8 (P3.fm : Nat)) ∧ w'.cell? ⟨sb, 8, none⟩ = some (.int .u64 (P3.sp : Nat)) ∧ w'.cell? ⟨sb, 9, none⟩ = some (.bool P3.b1) ∧ w'.cell? ⟨sb, 10, none⟩ = some (.bool P3.b2) ∧ w'.cell? ⟨sb, 11, none⟩ = some (.bool P3.b3) ∧ w'.cell? ⟨sb, 12, none⟩ = some (.bool P3.b4) ∧ w'.cell? ⟨sb, 18, none⟩ = some (.slice qN nF cN))) (by kernel_rfl) ?_ (fun hHeld => ?_)
   ·exact SK5.out _ (T5.out.on (Below.refl _ _).drew)
   obtain ⟨Y0, hY0⟩ : ∃ Y, Y = v3.drew := ⟨_, rfl⟩
   have S6 := hid (show S17 w p P (⟨af, al, ax, ak, av⟩ : As) Y0 from hY0 ▸ S5.out.on (Below.refl _ _).drew)
   have T6 := hid (show St (w.heap.size + 3) sb Y0 p4 P3 (⟨af, al, ax, ak, av⟩ : As) (.slice qN nF cN) NF from hY0 ▸ T5.out.on (Below.refl _ _).drew)
   rw [← hY0] at hHeld ⊢
   clear hY0
   refine take_op2 (i := 0) (v := ?_) rfl (by kernel_rfl) (by kernel_rfl) (by kernel_rfl) (fun _ _ _ h => h) (Or.inl ⟨wanted_plain rfl, ?_⟩) (by assumption) ?_
   rotate_left
   ·(intro w hSw; (try dsimp only at hSw); go_simp; try with_reducible rfl)
   intro act_ hact_; simp only [Act.put, List.setIfInBounds_toArray, List.set_cons_zero, List.set_cons_succ] at hact_; subst hact_
   refine take_op2 (i := 1) (v := ?_) rfl (by kernel_rfl) (by kernel_rfl) (by kernel_rfl) (fun _ _ _ h => h) (Or.inl ⟨wanted_plain rfl, ?_⟩) (by assumption) ?_
   rotate_left
   ·(intro w hSw; (try dsimp only at hSw); go_simp; try with_reducible rfl)
   intro act_ hact_; simp only [Act.put, List.setIfInBounds_toArray, List.set_cons_zero, List.set_cons_succ] at hact_; subst hact_
   refine take_op2 (i := 2) (v := ?_) rfl (by kernel_rfl) (by kernel_rfl) (by kernel_rfl) (fun _ _ _ h => h) (Or.inl ⟨wanted_plain rfl, ?_⟩) (by assumption) ?_
   rotate_left
   ·(intro w hSw; (try dsimp only at hSw); go_simp; try with_reducible rfl)
   intro act_ hact_; simp only [Act.put, List.setIfInBounds_toArray, List.set_cons_zero, List.set_cons_succ] at hact_; subst hact_
   refine take_op2 (i := 3) (v := ?_) rfl (by kernel_rfl) (by kernel_rfl) (by kernel_rfl) (fun _ _ _ h => h) (Or.inl ⟨wanted_plain rfl, ?_⟩) (by assumption) ?_
   rotate_left
   ·(intro w hSw; (try dsimp only at hSw); go_simp; try with_reducible rfl)
   intro act_ hact_; simp only [Act.put, List.setIfInBounds_toArray, List.set_cons_zero, List.set_cons_succ] at hact_; subst hact_
   refine wpAnyH_ready (rs := [4]) (by kernel_rfl) (List.cons_ne_nil _ _) ?_
   refine AllReadyH.cons rfl (fun K hK => ?_) AllReadyH.nil
   refine step_storeL17 rfl 32 (.tmp 4) (.tmp 24) (by rfl) (w.heap.size + 2) 0 (plC p4 P3) (by rfl) (by rfl) (there_row17 S6.out.res (show 0 + 13 ≤ 13 by decide)) pl_info (plC_one _ _) ?_
   change K (Act.put _ none _) _
   simp only [Act.put]
   refine hK.out _ _ ?_ (fun hHeld2 => ?_)
   ·exact SK5.out _ (T6.out.apart S6.out.res 0 (plC p4 P3))
   clear hK K
   have hHeld := hHeld2
   clear hHeld2
   refine take_op2 (i := 5) (v := ?_) rfl (by kernel_rfl) (by kernel_rfl) (by kernel_rfl) (fun _ _ _ h => h) (Or.inl ⟨wanted_plain rfl, ?_⟩) (by assumption) ?_
   rotate_left
   ·(intro w hSw; (try dsimp only at hSw); go_simp; try with_reducible rfl)
   intro act_ hact_; simp only [Act.put, List.setIfInBounds_toArray, List.set_cons_zero, List.set_cons_succ] at hact_; subst hact_
   refine wpAnyH_done (by kernel_rfl) ?_ _
   have hl := run_loadVar_mid (P := Tryz.prog) (Y0.setCells (w.heap.size + 2) 0 (plC p4 P3)) (w.heap.size + 2) 0 32 (plC p4 P3) _ (World.rangeAt_setCells_same Y0 _ 0 _ (there_row17 S6.out.res (show 0 + 13 ≤ 13 by decide))) Tryz.underlying32 rfl pl_info
   have HBF := hid (below_setCells16 (show w.heap.size ≤ w.heap.size + 2 by omega) (plC p4 P3) 0 _ S6.out.bel)
   have TF := hid (T6.out.apart S6.out.res 0 (plC p4 P3))
   generalize Y0.setCells (w.heap.size + 2) 0 (plC p4 P3) = ZZ at hl HBF TF ⊢
   (try go_wp2_with fail)
   (try simp only [Exit.inBlock, Exit.then])
   refine bodyPost_ret (v := .tuple #[.agg (plC p4 P3).toArray, .slice qN nF cN]) (results_two15 Tryz.results71 ?_ ?_ hl) rfl ⟨p4, _, by rw [HFF.out]; rfl, by rw [HFF.out]; exact TF.out.own.low (Nat.le_add_right _ 3), by have hq := owns_low16 TF.out.nts (Nat.le_add_right w.heap.size 3); rw [HFF.out]; simp only [HNF.out, List.length_map] at hq ⊢; exact hq, HBF.out⟩
   all_goals rfl
  by_cases h4 : ak = kPer
  ·have HAT := hid (show has M7 (kl17r ak) = true ∧ M7.atKey (kl17r ak) (.held .nilFunc) = .held (.func (.func 132) #[] #[]) by rw [h4]; exact at_kPer)
   have hse : setR (putC18 P.fm (turnR av).2) P ak av = ({ P with b2 := (flgF P.b2 av).1 }, (flgF P.b2 av).2) := by rw [h4]; unfold setR; rw [if_neg (by decide)]; rw [if_neg (by decide)]; rw [if_neg (by decide)]; rw [if_neg (by decide)]; rw [if_pos rfl]
   have HCH := hid (fun (X : World) (k : Below w.heap.size w X) (q : Pls) (al_ : q.an = P.ar.length) (ml_ : q.mn = P.fa.length) (s : St (w.heap.size + 3) sb X q P (⟨af, al, ax, ak, av⟩ : As) (.slice none 0 0) []) => personality_c18 (w.heap.size + 3) sb X q P (⟨af, al, ax, ak, av⟩ : As) (fun Y y => HON.out _ _ HG.out (k.trans (y.mono (by omega)))) s hav)
   obtain ⟨P3, hP3⟩ : ∃ X, X = ({ P with b2 := (flgF P.b2 av).1 } : Pol) := ⟨_, rfl⟩
   obtain ⟨N3, hN3⟩ : ∃ X, X = (flgF P.b2 av).2 := ⟨_, rfl⟩
   have HFF := hid (show F = (P3, N3) by rw [HFE.out, hse, hP3, hN3])
   rw [← hP3, ← hN3] at HCH
   clear hse hP3 hN3 hav hna hnf hra hrf h0 h1 h2 h3 h4
   have a3 := (cell_of_row Z (w.heap.size + 1) 3 _ _ (0, 0) SY.out.asg).trans (show _ = some (Value.string ak) from rfl)
   go_wp2_with fail
   go_region_held3 (fun w' => w'.cell? ⟨w.heap.size + 1, 3, none⟩ = some (.string ak)) (first
    | exact a3
    | exact a32) (first
    | (go_at_call 100
       ((with_reducible refine (HEF.out _).mono ?_); rintro e v2 ⟨rfl, o2, b2⟩)
       have S2 := hid (SY.out.on (((Below.refl Z.heap.size Z).drew).trans b2))
       have T2 := hid (TY.out.on (((Below.refl Z.heap.size Z).drew).trans b2))
       have M2 := hid o2
       have a32 := (cell_of_row v2 (w.heap.size + 1) 3 _ _ (0, 0) S2.out.asg).trans (show _ = some (Value.string ak) from rfl)
       have hlk : (Instr.lookup 133 (.map (some Z.heap.size)) (.string ak) true).run Tryz.prog v2 = .ok (.tuple #[(.func (.func 132) #[] #[]), .bool true]) v2 := run_lookup17r Z.heap.size 7 M2.out ak HKY.out (.func (.func 132) #[] #[]) true HAT.out.1 HAT.out.2
       clear o2 b2))
   go_upto_if 20 with fail
   go_wp2_with (go_at_call 132; ((with_reducible refine (HCH.out v2 S2.out.bel q T2.out.own.al T2.out.own.ml T2.out).mono ?_); rintro e v3 ⟨rfl, ⟨p4, vN, s4⟩, b4⟩); have T5 := hid s4; have S5 := hid (S2.out.on3 b4); clear s4 b4)
   obtain ⟨qN, cN, hvN⟩ := own16 T5.out.nts
   subst hvN
   obtain ⟨NF, hNF⟩ : ∃ X, X = N3.map (nteP (⟨af, al, ax, ak, av⟩ : As)) := ⟨_, rfl⟩
   rw [← hNF] at T5
   obtain ⟨nF, hnF⟩ : ∃ X, X = NF.length := ⟨_, rfl⟩
   rw [← hnF] at T5
   have HNF := hid hNF
   have HnF := hid hnF
   clear hNF hnF
   have SK5 := hid (fun (Y : World) (t : St (w.heap.size + 3) sb Y p4 P3 (⟨af, al, ax, ak, av⟩ : As) (.slice qN nF cN) NF) => (show (fun w' => w'.cell? ⟨sb, 0, none⟩ = some (.slice p4.aq p4.an p4.ac) ∧ w'.cell? ⟨sb, 1, none⟩ = some (.int .u8 (P3.fl.1 : Nat)) ∧ w'.cell? ⟨sb, 2, none⟩ = some (.slice p4.fq p4.fn p4.fc) ∧ w'.cell? ⟨sb, 3, none⟩ = some (.int .u32 (P3.dn : Nat)) ∧ w'.cell? ⟨sb, 4, none⟩ = some (.int .u8 (P3.lg.1 : Nat)) ∧ w'.cell? ⟨sb, 5, none⟩ = some (.slice p4.lq p4.ln p4.lc) ∧ w'.cell? ⟨sb, 6, none⟩ = some (.slice p4.mq p4.mn p4.mc) ∧ w'.cell? ⟨sb, 7, none⟩ = some (.int .u8 (P3.fm : Nat)) ∧ w'.cell? ⟨sb, 8, none⟩ = some (.int .u64 (P3.sp : Nat)) ∧ w'.cell? ⟨sb, 9, none⟩ = some (.bool P3.b1) ∧ w'.cell? ⟨sb, 10, none⟩ = some (.bool P3.b2) ∧ w'.cell? ⟨sb, 11, none⟩ = some (.bool P3.b3) ∧ w'.cell? ⟨sb, 12, none⟩ = some (.bool P3.b4) ∧ w'.cell? ⟨sb, 18, none⟩ = some (.slice qN nF cN)) Y from ⟨t.cell 0 (.slice p4.aq p4.an p4.ac) rfl, t.cell 1 (.int .u8 (P3.fl.1 : Nat)) rfl, t.cell 2 (.slice p4.fq p4.fn p4.fc) rfl, t.cell 3 (.int .u32 (P3.dn : Nat)) rfl, t.cell 4 (.int .u8 (P3.lg.1 : Nat)) rfl, t.cell 5 (.slice p4.lq p4.ln p4.lc) rfl, t.cell 6 (.slice p4.mq p4.mn p4.mc) rfl, t.cell 7 (.int .u8 (P3.fm : Nat)) rfl, t.cell 8 (.int .u64 (P3.sp : Nat)) rfl, t.cell 9 (.bool P3.b1) rfl, t.cell 10 (.bool P3.b2) rfl, t.cell 11 (.bool P3.b3) rfl, t.cell 12 (.bool P3.b4) rfl, t.cell 18 (.slice qN nF cN) rfl⟩))
   refine wp_region_held_drew (S := (fun w' => w'.cell? ⟨sb, 0, none⟩ = some (.slice p4.aq p4.an p4.ac) ∧ w'.cell? ⟨sb, 1, none⟩ = some (.int .u8 (P3.fl.1 : Nat)) ∧ w'.cell? ⟨sb, 2, none⟩ = some (.slice p4.fq p4.fn p4.fc) ∧ w'.cell? ⟨sb, 3, none⟩ = some (.int .u32 (P3.dn : Nat)) ∧ w'.cell? ⟨sb, 4, none⟩ = some (.int .u8 (P3.lg.1 : Nat)) ∧ w'.cell? ⟨sb, 5, none⟩ = some (.slice p4.lq p4.ln p4.lc) ∧ w'.cell? ⟨sb, 6, none⟩ = some (.slice p4.mq p4.mn p4.mc) ∧ w'.cell? ⟨sb, 7, none⟩ = some (.int .u8 (P3.fm : Nat)) ∧ w'.cell? ⟨sb, 8, none⟩ = some (.int .u64 (P3.sp : Nat)) ∧ w'.cell? ⟨sb, 9, none⟩ = some (.bool P3.b1) ∧ w'.cell? ⟨sb, 10, none⟩ = some (.bool P3.b2) ∧ w'.cell? ⟨sb, 11, none⟩ = some (.bool P3.b3) ∧ w'.cell? ⟨sb, 12, none⟩ = some (.bool P3.b4) ∧ w'.cell? ⟨sb, 18, none⟩ = some (.slice qN nF cN))) (by kernel_rfl) ?_ (fun hHeld => ?_)
   ·exact SK5.out _ (T5.out.on (Below.refl _ _).drew)
   obtain ⟨Y0, hY0⟩ : ∃ Y, Y = v3.drew := ⟨_, rfl⟩
   have S6 := hid (show S17 w p P (⟨af, al, ax, ak, av⟩ : As) Y0 from hY0 ▸ S5.out.on (Below.refl _ _).drew)
   have T6 := hid (show St (w.heap.size + 3) sb Y0 p4 P3 (⟨af, al, ax, ak, av⟩ : As) (.slice qN nF cN) NF from hY0 ▸ T5.out.on (Below.refl _ _).drew)
   rw [← hY0] at hHeld ⊢
   clear hY0
   refine take_op2 (i := 0) (v := ?_) rfl (by kernel_rfl) (by kernel_rfl) (by kernel_rfl) (fun _ _ _ h => h) (Or.inl ⟨wanted_plain rfl, ?_⟩) (by assumption) ?_
   rotate_left
   ·(intro w hSw; (try dsimp only at hSw); go_simp; try with_reducible rfl)
   intro act_ hact_; simp only [Act.put, List.setIfInBounds_toArray, List.set_cons_zero, List.set_cons_succ] at hact_; subst hact_
   refine take_op2 (i := 1) (v := ?_) rfl (by kernel_rfl) (by kernel_rfl) (by kernel_rfl) (fun _ _ _ h => h) (Or.inl ⟨wanted_plain rfl, ?_⟩) (by assumption) ?_
   rotate_left
   ·(intro w hSw; (try dsimp only at hSw); go_simp; try with_reducible rfl)
   intro act_ hact_; simp only [Act.put, List.setIfInBounds_toArray, List.set_cons_zero, List.set_cons_succ] at hact_; subst hact_
   refine take_op2 (i := 2) (v := ?_) rfl (by kernel_rfl) (by kernel_rfl) (by kernel_rfl) (fun _ _ _ h => h) (Or.inl ⟨wanted_plain rfl, ?_⟩) (by assumption) ?_
   rotate_left
   ·(intro w hSw; (try dsimp only at hSw); go_simp; try with_reducible rfl)
   intro act_ hact_; simp only [Act.put, List.setIfInBounds_toArray, List.set_cons_zero, List.set_cons_succ] at hact_; subst hact_
   refine take_op2 (i := 3) (v := ?_) rfl (by kernel_rfl) (by kernel_rfl) (by kernel_rfl) (fun _ _ _ h => h) (Or.inl ⟨wanted_plain rfl, ?_⟩) (by assumption) ?_
   rotate_left
   ·(intro w hSw; (try dsimp only at hSw); go_simp; try with_reducible rfl)
   intro act_ hact_; simp only [Act.put, List.setIfInBounds_toArray, List.set_cons_zero, List.set_cons_succ] at hact_; subst hact_
   refine wpAnyH_ready (rs := [4]) (by kernel_rfl) (List.cons_ne_nil _ _) ?_
   refine AllReadyH.cons rfl (fun K hK => ?_) AllReadyH.nil
   refine step_storeL17 rfl 32 (.tmp 4) (.tmp 24) (by rfl) (w.heap.size + 2) 0 (plC p4 P3) (by rfl) (by rfl) (there_row17 S6.out.res (show 0 + 13 ≤ 13 by decide)) pl_info (plC_one _ _) ?_
   change K (Act.put _ none _) _
   simp only [Act.put]
   refine hK.out _ _ ?_ (fun hHeld2 => ?_)
   ·exact SK5.out _ (T6.out.apart S6.out.res 0 (plC p4 P3))
   clear hK K
   have hHeld := hHeld2
   clear hHeld2
   refine take_op2 (i := 5) (v := ?_) rfl (by kernel_rfl) (by kernel_rfl) (by kernel_rfl) (fun _ _ _ h => h) (Or.inl ⟨wanted_plain rfl, ?_⟩) (by assumption) ?_
   rotate_left
   ·(intro w hSw; (try dsimp only at hSw); go_simp; try with_reducible rfl)
   intro act_ hact_; simp only [Act.put, List.setIfInBounds_toArray, List.set_cons_zero, List.set_cons_succ] at hact_; subst hact_
   refine wpAnyH_done (by kernel_rfl) ?_ _
   have hl := run_loadVar_mid (P := Tryz.prog) (Y0.setCells (w.heap.size + 2) 0 (plC p4 P3)) (w.heap.size + 2) 0 32 (plC p4 P3) _ (World.rangeAt_setCells_same Y0 _ 0 _ (there_row17 S6.out.res (show 0 + 13 ≤ 13 by decide))) Tryz.underlying32 rfl pl_info
   have HBF := hid (below_setCells16 (show w.heap.size ≤ w.heap.size + 2 by omega) (plC p4 P3) 0 _ S6.out.bel)
   have TF := hid (T6.out.apart S6.out.res 0 (plC p4 P3))
   generalize Y0.setCells (w.heap.size + 2) 0 (plC p4 P3) = ZZ at hl HBF TF ⊢
   (try go_wp2_with fail)
   (try simp only [Exit.inBlock, Exit.then])
   refine bodyPost_ret (v := .tuple #[.agg (plC p4 P3).toArray, .slice qN nF cN]) (results_two15 Tryz.results71 ?_ ?_ hl) rfl ⟨p4, _, by rw [HFF.out]; rfl, by rw [HFF.out]; exact TF.out.own.low (Nat.le_add_right _ 3), by have hq := owns_low16 TF.out.nts (Nat.le_add_right w.heap.size 3); rw [HFF.out]; simp only [HNF.out, List.length_map] at hq ⊢; exact hq, HBF.out⟩
   all_goals rfl
  by_cases h5 : ak = kRea
  ·have HAT := hid (show has M7 (kl17r ak) = true ∧ M7.atKey (kl17r ak) (.held .nilFunc) = .held (.func (.func 133) #[] #[]) by rw [h5]; exact at_kRea)
   have hse : setR (putC18 P.fm (turnR av).2) P ak av = ({ P with b3 := (flgF P.b3 av).1 }, (flgF P.b3 av).2) := by rw [h5]; unfold setR; rw [if_neg (by decide)]; rw [if_neg (by decide)]; rw [if_neg (by decide)]; rw [if_neg (by decide)]; rw [if_neg (by decide)]; rw [if_pos rfl]
   have HCH := hid (fun (X : World) (k : Below w.heap.size w X) (q : Pls) (al_ : q.an = P.ar.length) (ml_ : q.mn = P.fa.length) (s : St (w.heap.size + 3) sb X q P (⟨af, al, ax, ak, av⟩ : As) (.slice none 0 0) []) => realtime_c18 (w.heap.size + 3) sb X q P (⟨af, al, ax, ak, av⟩ : As) (fun Y y => HON.out _ _ HG.out (k.trans (y.mono (by omega)))) s hav)
   obtain ⟨P3, hP3⟩ : ∃ X, X = ({ P with b3 := (flgF P.b3 av).1 } : Pol) := ⟨_, rfl⟩
   obtain ⟨N3, hN3⟩ : ∃ X, X = (flgF P.b3 av).2 := ⟨_, rfl⟩
   have HFF := hid (show F = (P3, N3) by rw [HFE.out, hse, hP3, hN3])
   rw [← hP3, ← hN3] at HCH
   clear hse hP3 hN3 hav hna hnf hra hrf h0 h1 h2 h3 h4 h5
   have a3 := (cell_of_row Z (w.heap.size + 1) 3 _ _ (0, 0) SY.out.asg).trans (show _ = some (Value.string ak) from rfl)
   go_wp2_with fail
   go_region_held3 (fun w' => w'.cell? ⟨w.heap.size + 1, 3, none⟩ = some (.string ak)) (first
    | exact a3
    | exact a32) (first
    | (go_at_call 100
       ((with_reducible refine (HEF.out _).mono ?_); rintro e v2 ⟨rfl, o2, b2⟩)
       have S2 := hid (SY.out.on (((Below.refl Z.heap.size Z).drew).trans b2))
       have T2 := hid (TY.out.on (((Below.refl Z.heap.size Z).drew).trans b2))
       have M2 := hid o2
       have a32 := (cell_of_row v2 (w.heap.size + 1) 3 _ _ (0, 0) S2.out.asg).trans (show _ = some (Value.string ak) from rfl)
       have hlk : (Instr.lookup 133 (.map (some Z.heap.size)) (.string ak) true).run Tryz.prog v2 = .ok (.tuple #[(.func (.func 133) #[] #[]), .bool true]) v2 := run_lookup17r Z.heap.size 7 M2.out ak HKY.out (.func (.func 133) #[] #[]) true HAT.out.1 HAT.out.2
       clear o2 b2))
   go_upto_if 20 with fail
   go_wp2_with (go_at_call 133; ((with_reducible refine (HCH.out v2 S2.out.bel q T2.out.own.al T2.out.own.ml T2.out).mono ?_); rintro e v3 ⟨rfl, ⟨p4, vN, s4⟩, b4⟩); have T5 := hid s4; have S5 := hid (S2.out.on3 b4); clear s4 b4)
   obtain ⟨qN, cN, hvN⟩ := own16 T5.out.nts
   subst hvN
   obtain ⟨NF, hNF⟩ : ∃ X, X = N3.map (nteP (⟨af, al, ax, ak, av⟩ : As)) := ⟨_, rfl⟩
   rw [← hNF] at T5
   obtain ⟨nF, hnF⟩ : ∃ X, X = NF.length := ⟨_, rfl⟩
   rw [← hnF] at T5
   have HNF := hid hNF
   have HnF := hid hnF
   clear hNF hnF
   have SK5 := hid (fun (Y : World) (t : St (w.heap.size + 3) sb Y p4 P3 (⟨af, al, ax, ak, av⟩ : As) (.slice qN nF cN) NF) => (show (fun w' => w'.cell? ⟨sb, 0, none⟩ = some (.slice p4.aq p4.an p4.ac) ∧ w'.cell? ⟨sb, 1, none⟩ = some (.int .u8 (P3.fl.1 : Nat)) ∧ w'.cell? ⟨sb, 2, none⟩ = some (.slice p4.fq p4.fn p4.fc) ∧ w'.cell? ⟨sb, 3, none⟩ = some (.int .u32 (P3.dn : Nat)) ∧ w'.cell? ⟨sb, 4, none⟩ = some (.int .u8 (P3.lg.1 : Nat)) ∧ w'.cell? ⟨sb, 5, none⟩ = some (.slice p4.lq p4.ln p4.lc) ∧ w'.cell? ⟨sb, 6, none⟩ = some (.slice p4.mq p4.mn p4.mc) ∧ w'.cell? ⟨sb, 7, none⟩ = some (.int .u8 (P3.fm : Nat)) ∧ w'.cell? ⟨sb, 8, none⟩ = some (.int .u64 (P3.sp : Nat)) ∧ w'.cell? ⟨sb, 9, none⟩ = some (.bool P3.b1) ∧ w'.cell? ⟨sb, 10, none⟩ = some (.bool P3.b2) ∧ w'.cell? ⟨sb, 11, none⟩ = some (.bool P3.b3) ∧ w'.cell? ⟨sb, 12, none⟩ = some (.bool P3.b4) ∧ w'.cell? ⟨sb, 18, none⟩ = some (.slice qN nF cN)) Y from ⟨t.cell 0 (.slice p4.aq p4.an p4.ac) rfl, t.cell 1 (.int .u8 (P3.fl.1 : Nat)) rfl, t.cell 2 (.slice p4.fq p4.fn p4.fc) rfl, t.cell 3 (.int .u32 (P3.dn : Nat)) rfl, t.cell 4 (.int .u8 (P3.lg.1 : Nat)) rfl, t.cell 5 (.slice p4.lq p4.ln p4.lc) rfl, t.cell 6 (.slice p4.mq p4.mn p4.mc) rfl, t.cell 7 (.int .u8 (P3.fm : Nat)) rfl, t.cell 8 (.int .u64 (P3.sp : Nat)) rfl, t.cell 9 (.bool P3.b1) rfl, t.cell 10 (.bool P3.b2) rfl, t.cell 11 (.bool P3.b3) rfl, t.cell 12 (.bool P3.b4) rfl, t.cell 18 (.slice qN nF cN) rfl⟩))
   refine wp_region_held_drew (S := (fun w' => w'.cell? ⟨sb, 0, none⟩ = some (.slice p4.aq p4.an p4.ac) ∧ w'.cell? ⟨sb, 1, none⟩ = some (.int .u8 (P3.fl.1 : Nat)) ∧ w'.cell? ⟨sb, 2, none⟩ = some (.slice p4.fq p4.fn p4.fc) ∧ w'.cell? ⟨sb, 3, none⟩ = some (.int .u32 (P3.dn : Nat)) ∧ w'.cell? ⟨sb, 4, none⟩ = some (.int .u8 (P3.lg.1 : Nat)) ∧ w'.cell? ⟨sb, 5, none⟩ = some (.slice p4.lq p4.ln p4.lc) ∧ w'.cell? ⟨sb, 6, none⟩ = some (.slice p4.mq p4.mn p4.mc) ∧ w'.cell? ⟨sb, 7, none⟩ = some (.int .u8 (P3.fm : Nat)) ∧ w'.cell? ⟨sb, 8, none⟩ = some (.int .u64 (P3.sp : Nat)) ∧ w'.cell? ⟨sb, 9, none⟩ = some (.bool P3.b1) ∧ w'.cell? ⟨sb, 10, none⟩ = some (.bool P3.b2) ∧ w'.cell? ⟨sb, 11, none⟩ = some (.bool P3.b3) ∧ w'.cell? ⟨sb, 12, none⟩ = some (.bool P3.b4) ∧ w'.cell? ⟨sb, 18, none⟩ = some (.slice qN nF cN))) (by kernel_rfl) ?_ (fun hHeld => ?_)
   ·exact SK5.out _ (T5.out.on (Below.refl _ _).drew)
   obtain ⟨Y0, hY0⟩ : ∃ Y, Y = v3.drew := ⟨_, rfl⟩
   have S6 := hid (show S17 w p P (⟨af, al, ax, ak, av⟩ : As) Y0 from hY0 ▸ S5.out.on (Below.refl _ _).drew)
   have T6 := hid (show St (w.heap.size + 3) sb Y0 p4 P3 (⟨af, al, ax, ak, av⟩ : As) (.slice qN nF cN) NF from hY0 ▸ T5.out.on (Below.refl _ _).drew)
   rw [← hY0] at hHeld ⊢
   clear hY0
   refine take_op2 (i := 0) (v := ?_) rfl (by kernel_rfl) (by kernel_rfl) (by kernel_rfl) (fun _ _ _ h => h) (Or.inl ⟨wanted_plain rfl, ?_⟩) (by assumption) ?_
   rotate_left
   ·(intro w hSw; (try dsimp only at hSw); go_simp; try with_reducible rfl)
   intro act_ hact_; simp only [Act.put, List.setIfInBounds_toArray, List.set_cons_zero, List.set_cons_succ] at hact_; subst hact_
   refine take_op2 (i := 1) (v := ?_) rfl (by kernel_rfl) (by kernel_rfl) (by kernel_rfl) (fun _ _ _ h => h) (Or.inl ⟨wanted_plain rfl, ?_⟩) (by assumption) ?_
   rotate_left
   ·(intro w hSw; (try dsimp only at hSw); go_simp; try with_reducible rfl)
   intro act_ hact_; simp only [Act.put, List.setIfInBounds_toArray, List.set_cons_zero, List.set_cons_succ] at hact_; subst hact_
   refine take_op2 (i := 2) (v := ?_) rfl (by kernel_rfl) (by kernel_rfl) (by kernel_rfl) (fun _ _ _ h => h) (Or.inl ⟨wanted_plain rfl, ?_⟩) (by assumption) ?_
   rotate_left
   ·(intro w hSw; (try dsimp only at hSw); go_simp; try with_reducible rfl)
   intro act_ hact_; simp only [Act.put, List.setIfInBounds_toArray, List.set_cons_zero, List.set_cons_succ] at hact_; subst hact_
   refine take_op2 (i := 3) (v := ?_) rfl (by kernel_rfl) (by kernel_rfl) (by kernel_rfl) (fun _ _ _ h => h) (Or.inl ⟨wanted_plain rfl, ?_⟩) (by assumption) ?_
   rotate_left
   ·(intro w hSw; (try dsimp only at hSw); go_simp; try with_reducible rfl)
   intro act_ hact_; simp only [Act.put, List.setIfInBounds_toArray, List.set_cons_zero, List.set_cons_succ] at hact_; subst hact_
   refine wpAnyH_ready (rs := [4]) (by kernel_rfl) (List.cons_ne_nil _ _) ?_
   refine AllReadyH.cons rfl (fun K hK => ?_) AllReadyH.nil
   refine step_storeL17 rfl 32 (.tmp 4) (.tmp 24) (by rfl) (w.heap.size + 2) 0 (plC p4 P3) (by rfl) (by rfl) (there_row17 S6.out.res (show 0 + 13 ≤ 13 by decide)) pl_info (plC_one _ _) ?_
   change K (Act.put _ none _) _
   simp only [Act.put]
   refine hK.out _ _ ?_ (fun hHeld2 => ?_)
   ·exact SK5.out _ (T6.out.apart S6.out.res 0 (plC p4 P3))
   clear hK K
   have hHeld := hHeld2
   clear hHeld2
   refine take_op2 (i := 5) (v := ?_) rfl (by kernel_rfl) (by kernel_rfl) (by kernel_rfl) (fun _ _ _ h => h) (Or.inl ⟨wanted_plain rfl, ?_⟩) (by assumption) ?_
   rotate_left
   ·(intro w hSw; (try dsimp only at hSw); go_simp; try with_reducible rfl)
   intro act_ hact_; simp only [Act.put, List.setIfInBounds_toArray, List.set_cons_zero, List.set_cons_succ] at hact_; subst hact_
   refine wpAnyH_done (by kernel_rfl) ?_ _
   have hl := run_loadVar_mid (P := Tryz.prog) (Y0.setCells (w.heap.size + 2) 0 (plC p4 P3)) (w.heap.size + 2) 0 32 (plC p4 P3) _ (World.rangeAt_setCells_same Y0 _ 0 _ (there_row17 S6.out.res (show 0 + 13 ≤ 13 by decide))) Tryz.underlying32 rfl pl_info
   have HBF := hid (below_setCells16 (show w.heap.size ≤ w.heap.size + 2 by omega) (plC p4 P3) 0 _ S6.out.bel)
   have TF := hid (T6.out.apart S6.out.res 0 (plC p4 P3))
   generalize Y0.setCells (w.heap.size + 2) 0 (plC p4 P3) = ZZ at hl HBF TF ⊢
   (try go_wp2_with fail)
   (try simp only [Exit.inBlock, Exit.then])
   refine bodyPost_ret (v := .tuple #[.agg (plC p4 P3).toArray, .slice qN nF cN]) (results_two15 Tryz.results71 ?_ ?_ hl) rfl ⟨p4, _, by rw [HFF.out]; rfl, by rw [HFF.out]; exact TF.out.own.low (Nat.le_add_right _ 3), by have hq := owns_low16 TF.out.nts (Nat.le_add_right w.heap.size 3); rw [HFF.out]; simp only [HNF.out, List.length_map] at hq ⊢; exact hq, HBF.out⟩
   all_goals rfl
  by_cases h6 : ak = kNop
  ·have HAT := hid (show has M7 (kl17r ak) = true ∧ M7.atKey (kl17r ak) (.held .nilFunc) = .held (.func (.func 134) #[] #[]) by rw [h6]; exact at_kNop)
   have hse : setR (putC18 P.fm (turnR av).2) P ak av = ({ P with b4 := (flgF P.b4 av).1 }, (flgF P.b4 av).2) := by rw [h6]; unfold setR; rw [if_neg (by decide)]; rw [if_neg (by decide)]; rw [if_neg (by decide)]; rw [if_neg (by decide)]; rw [if_neg (by decide)]; rw [if_neg (by decide)]; rw [if_pos rfl]
   have HCH := hid (fun (X : World) (k : Below w.heap.size w X) (q : Pls) (al_ : q.an = P.ar.length) (ml_ : q.mn = P.fa.length) (s : St (w.heap.size + 3) sb X q P (⟨af, al, ax, ak, av⟩ : As) (.slice none 0 0) []) => noPrivileges_c18 (w.heap.size + 3) sb X q P (⟨af, al, ax, ak, av⟩ : As) (fun Y y => HON.out _ _ HG.out (k.trans (y.mono (by omega)))) s hav)
   obtain ⟨P3, hP3⟩ : ∃ X, X = ({ P with b4 := (flgF P.b4 av).1 } : Pol) := ⟨_, rfl⟩
   obtain ⟨N3, hN3⟩ : ∃ X, X = (flgF P.b4 av).2 := ⟨_, rfl⟩
   have HFF := hid (show F = (P3, N3) by rw [HFE.out, hse, hP3, hN3])
   rw [← hP3, ← hN3] at HCH
   clear hse hP3 hN3 hav hna hnf hra hrf h0 h1 h2 h3 h4 h5 h6
   have a3 := (cell_of_row Z (w.heap.size + 1) 3 _ _ (0, 0) SY.out.asg).trans (show _ = some (Value.string ak) from rfl)
   go_wp2_with fail
   go_region_held3 (fun w' => w'.cell? ⟨w.heap.size + 1, 3, none⟩ = some (.string ak)) (first
    | exact a3
    | exact a32) (first
    | (go_at_call 100
       ((with_reducible refine (HEF.out _).mono ?_); rintro e v2 ⟨rfl, o2, b2⟩)
       have S2 := hid (SY.out.on (((Below.refl Z.heap.size Z).drew).trans b2))
       have T2 := hid (TY.out.on (((Below.refl Z.heap.size Z).drew).trans b2))
       have M2 := hid o2
       have a32 := (cell_of_row v2 (w.heap.size + 1) 3 _ _ (0, 0) S2.out.asg).trans (show _ = some (Value.string ak) from rfl)
       have hlk : (Instr.lookup 133 (.map (some Z.heap.size)) (.string ak) true).run Tryz.prog v2 = .ok (.tuple #[(.func (.func 134) #[] #[]), .bool true]) v2 := run_lookup17r Z.heap.size 7 M2.out ak HKY.out (.func (.func 134) #[] #[]) true HAT.out.1 HAT.out.2
       clear o2 b2))
   go_upto_if 20 with fail
   go_wp2_with (go_at_call 134; ((with_reducible refine (HCH.out v2 S2.out.bel q T2.out.own.al T2.out.own.ml T2.out).mono ?_); rintro e v3 ⟨rfl, ⟨p4, vN, s4⟩, b4⟩); have T5 := hid s4; have S5 := hid (S2.out.on3 b4); clear s4 b4)
   obtain ⟨qN, cN, hvN⟩ := own16 T5.out.nts
   subst hvN
   obtain ⟨NF, hNF⟩ : ∃ X, X = N3.map (nteP (⟨af, al, ax, ak, av⟩ : As)) := ⟨_, rfl⟩
   rw [← hNF] at T5
   obtain ⟨nF, hnF⟩ : ∃ X, X = NF.length := ⟨_, rfl⟩
   rw [← hnF] at T5
   have HNF := hid hNF
   have HnF := hid hnF
   clear hNF hnF
   have SK5 := hid (fun (Y : World) (t : St (w.heap.size + 3) sb Y p4 P3 (⟨af, al, ax, ak, av⟩ : As) (.slice qN nF cN) NF) => (show (fun w' => w'.cell? ⟨sb, 0, none⟩ = some (.slice p4.aq p4.an p4.ac) ∧ w'.cell? ⟨sb, 1, none⟩ = some (.int .u8 (P3.fl.1 : Nat)) ∧ w'.cell? ⟨sb, 2, none⟩ = some (.slice p4.fq p4.fn p4.fc) ∧ w'.cell? ⟨sb, 3, none⟩ = some (.int .u32 (P3.dn : Nat)) ∧ w'.cell? ⟨sb, 4, none⟩ = some (.int .u8 (P3.lg.1 : Nat)) ∧ w'.cell? ⟨sb, 5, none⟩ = some (.slice p4.lq p4.ln p4.lc) ∧ w'.cell? ⟨sb, 6, none⟩ = some (.slice p4.mq p4.mn p4.mc) ∧ w'.cell? ⟨sb, 7, none⟩ = some (.int .u8 (P3.fm : Nat)) ∧ w'.cell? ⟨sb, 8, none⟩ = some (.int .u64 (P3.sp : Nat)) ∧ w'.cell? ⟨sb, 9, none⟩ = some (.bool P3.b1) ∧ w'.cell? ⟨sb, 10, none⟩ = some (.bool P3.b2) ∧ w'.cell? ⟨sb, 11, none⟩ = some (.bool P3.b3) ∧ w'.cell? ⟨sb, 12, none⟩ = some (.bool P3.b4) ∧ w'.cell? ⟨sb, 18, none⟩ = some (.slice qN nF cN)) Y from ⟨t.cell 0 (.slice p4.aq p4.an p4.ac) rfl, t.cell 1 (.int .u8 (P3.fl.1 : Nat)) rfl, t.cell 2 (.slice p4.fq p4.fn p4.fc) rfl, t.cell 3 (.int .u32 (P3.dn : Nat)) rfl, t.cell 4 (.int .u8 (P3.lg.1 : Nat)) rfl, t.cell 5 (.slice p4.lq p4.ln p4.lc) rfl, t.cell 6 (.slice p4.mq p4.mn p4.mc) rfl, t.cell 7 (.int .u8 (P3.fm : Nat)) rfl, t.cell 8 (.int .u64 (P3.sp : Nat)) rfl, t.cell 9 (.bool P3.b1) rfl, t.cell 10 (.bool P3.b2) rfl, t.cell 11 (.bool P3.b3) rfl, t.cell 12 (.bool P3.b4) rfl, t.cell 18 (.slice qN nF cN) rfl⟩))
   refine wp_region_held_drew (S := (fun w' => w'.cell? ⟨sb, 0, none⟩ = some (.slice p4.aq p4.an p4.ac) ∧ w'.cell? ⟨sb, 1, none⟩ = some (.int .u8 (P3.fl.1 : Nat)) ∧ w'.cell? ⟨sb, 2, none⟩ = some (.slice p4.fq p4.fn p4.fc) ∧ w'.cell? ⟨sb, 3, none⟩ = some (.int .u32 (P3.dn : Nat)) ∧ w'.cell? ⟨sb, 4, none⟩ = some (.int .u8 (P3.lg.1 : Nat)) ∧ w'.cell? ⟨sb, 5, none⟩ = some (.slice p4.lq p4.ln p4.lc) ∧ w'.cell? ⟨sb, 6, none⟩ = some (.slice p4.mq p4.mn p4.mc) ∧ w'.cell? ⟨sb, 7, none⟩ = some (.int .u8 (P3.fm : Nat)) ∧ w'.cell? ⟨sb, 8, none⟩ = some (.int .u64 (P3.sp : Nat)) ∧ w'.cell? ⟨sb, 9, none⟩ = some (.bool P3.b1) ∧ w'.cell? ⟨sb, 10, none⟩ = some (.bool P3.b2) ∧ w'.cell? ⟨sb, 11, none⟩ = some (.bool P3.b3) ∧ w'.cell? ⟨sb, 12, none⟩ = some (.bool P3.b4) ∧ w'.cell? ⟨sb, 18, none⟩ = some (.slice qN nF cN))) (by kernel_rfl) ?_ (fun hHeld => ?_)
   ·exact SK5.out _ (T5.out.on (Below.refl _ _).drew)
   obtain ⟨Y0, hY0⟩ : ∃ Y, Y = v3.drew := ⟨_, rfl⟩
   have S6 := hid (show S17 w p P (⟨af, al, ax, ak, av⟩ : As) Y0 from hY0 ▸ S5.out.on (Below.refl _ _).drew)
   have T6 := hid (show St (w.heap.size + 3) sb Y0 p4 P3 (⟨af, al, ax, ak, av⟩ : As) (.slice qN nF cN) NF from hY0 ▸ T5.out.on (Below.refl _ _).drew)
   rw [← hY0] at hHeld ⊢
   clear hY0
   refine take_op2 (i := 0) (v := ?_) rfl (by kernel_rfl) (by kernel_rfl) (by kernel_rfl) (fun _ _ _ h => h) (Or.inl ⟨wanted_plain rfl, ?_⟩) (by assumption) ?_
   rotate_left
   ·(intro w hSw; (try dsimp only at hSw); go_simp; try with_reducible rfl)
   intro act_ hact_; simp only [Act.put, List.setIfInBounds_toArray, List.set_cons_zero, List.set_cons_succ] at hact_; subst hact_
   refine take_op2 (i := 1) (v := ?_) rfl (by kernel_rfl) (by kernel_rfl) (by kernel_rfl) (fun _ _ _ h => h) (Or.inl ⟨wanted_plain rfl, ?_⟩) (by assumption) ?_
   rotate_left
   ·(intro w hSw; (try dsimp only at hSw); go_simp; try with_reducible rfl)
   intro act_ hact_; simp only [Act.put, List.setIfInBounds_toArray, List.set_cons_zero, List.set_cons_succ] at hact_; subst hact_
   refine take_op2 (i := 2) (v := ?_) rfl (by kernel_rfl) (by kernel_rfl) (by kernel_rfl) (fun _ _ _ h => h) (Or.inl ⟨wanted_plain rfl, ?_⟩) (by assumption) ?_
   rotate_left
   ·(intro w hSw; (try dsimp only at hSw); go_simp; try with_reducible rfl)
   intro act_ hact_; simp only [Act.put, List.setIfInBounds_toArray, List.set_cons_zero, List.set_cons_succ] at hact_; subst hact_
   refine take_op2 (i := 3) (v := ?_) rfl (by kernel_rfl) (by kernel_rfl) (by kernel_rfl) (fun _ _ _ h => h) (Or.inl ⟨wanted_plain rfl, ?_⟩) (by assumption) ?_
   rotate_left
   ·(intro w hSw; (try dsimp only at hSw); go_simp; try with_reducible rfl)
   intro act_ hact_; simp only [Act.put, List.setIfInBounds_toArray, List.set_cons_zero, List.set_cons_succ] at hact_; subst hact_
   refine wpAnyH_ready (rs := [4]) (by kernel_rfl) (List.cons_ne_nil _ _) ?_
   refine AllReadyH.cons rfl (fun K hK => ?_) AllReadyH.nil
   refine step_storeL17 rfl 32 (.tmp 4) (.tmp 24) (by rfl) (w.heap.size + 2) 0 (plC p4 P3) (by rfl) (by rfl) (there_row17 S6.out.res (show 0 + 13 ≤ 13 by decide)) pl_info (plC_one _ _) ?_
   change K (Act.put _ none _) _
   simp only [Act.put]
   refine hK.out _ _ ?_ (fun hHeld2 => ?_)
   ·exact SK5.out _ (T6.out.apart S6.out.res 0 (plC p4 P3))
   clear hK K
   have hHeld := hHeld2
   clear hHeld2
   refine take_op2 (i := 5) (v := ?_) rfl (by kernel_rfl) (by kernel_rfl) (by kernel_rfl) (fun _ _ _ h => h) (Or.inl ⟨wanted_plain rfl, ?_⟩) (by assumption) ?_
   rotate_left
   ·(intro w hSw; (try dsimp only at hSw); go_simp; try with_reducible rfl)
   intro act_ hact_; simp only [Act.put, List.setIfInBounds_toArray, List.set_cons_zero, List.set_cons_succ] at hact_; subst hact_
   refine wpAnyH_done (by kernel_rfl) ?_ _
   have hl := run_loadVar_mid (P := Tryz.prog) (Y0.setCells (w.heap.size + 2) 0 (plC p4 P3)) (w.heap.size + 2) 0 32 (plC p4 P3) _ (World.rangeAt_setCells_same Y0 _ 0 _ (there_row17 S6.out.res (show 0 + 13 ≤ 13 by decide))) Tryz.underlying32 rfl pl_info
   have HBF := hid (below_setCells16 (show w.heap.size ≤ w.heap.size + 2 by omega) (plC p4 P3) 0 _ S6.out.bel)
   have TF := hid (T6.out.apart S6.out.res 0 (plC p4 P3))
   generalize Y0.setCells (w.heap.size + 2) 0 (plC p4 P3) = ZZ at hl HBF TF ⊢
   (try go_wp2_with fail)
   (try simp only [Exit.inBlock, Exit.then])
   refine bodyPost_ret (v := .tuple #[.agg (plC p4 P3).toArray, .slice qN nF cN]) (results_two15 Tryz.results71 ?_ ?_ hl) rfl ⟨p4, _, by rw [HFF.out]; rfl, by rw [HFF.out]; exact TF.out.own.low (Nat.le_add_right _ 3), by have hq := owns_low16 TF.out.nts (Nat.le_add_right w.heap.size 3); rw [HFF.out]; simp only [HNF.out, List.length_map] at hq ⊢; exact hq, HBF.out⟩
   all_goals rfl
  have HAT := hid (at_oth18 h0 h1 h2 h3 h4 h5 h6)
  have hse : setR (putC18 P.fm (turnR av).2) P ak av = (P, []) := by unfold setR; rw [if_neg h0, if_neg h1, if_neg h2, if_neg h3, if_neg h4, if_neg h5, if_neg h6]
  have HFF := hid (show F = (P, []) from HFE.out.trans hse)
  clear hse hav hna hnf hra hrf h0 h1 h2 h3 h4 h5 h6
  have a3 := (cell_of_row Z (w.heap.size + 1) 3 _ _ (0, 0) SY.out.asg).trans (show _ = some (Value.string ak) from rfl)
  go_wp2_with fail
  go_region_held3 (fun w' => w'.cell? ⟨w.heap.size + 1, 3, none⟩ = some (.string ak)) (first
   | exact a3
   | exact a32) (first
   | (go_at_call 100
      ((with_reducible refine (HEF.out _).mono ?_); rintro e v2 ⟨rfl, o2, b2⟩)
      have S2 := hid (SY.out.on (((Below.refl Z.heap.size Z).drew).trans b2))
      have T2 := hid (TY.out.on (((Below.refl Z.heap.size Z).drew).trans b2))
      have M2 := hid o2
      have a32 := (cell_of_row v2 (w.heap.size + 1) 3 _ _ (0, 0) S2.out.asg).trans (show _ = some (Value.string ak) from rfl)
      have hlk : (Instr.lookup 133 (.map (some Z.heap.size)) (.string ak) true).run Tryz.prog v2 = .ok (.tuple #[.nilFunc, .bool false]) v2 := run_lookup17r Z.heap.size 7 M2.out ak HKY.out .nilFunc false HAT.out.1 HAT.out.2
      clear o2 b2))
  go_upto_if 20 with fail
  go_wp2_with fail
  have S5 := S2
  have T5 := T2
  obtain ⟨NF, hNF⟩ : ∃ X, X = ([] : List Nte) := ⟨_, rfl⟩
  rw [← hNF] at T5
  have HNF := hid (show NF = (([] : List (Int × ByteArray)).map (nteP (⟨af, al, ax, ak, av⟩ : As))) from hNF)
  clear hNF
  have SK5 := hid (fun (Y : World) (t : St (w.heap.size + 3) sb Y q P (⟨af, al, ax, ak, av⟩ : As) (.slice none 0 0) NF) => (show (fun w' => w'.cell? ⟨sb, 0, none⟩ = some (.slice q.aq q.an q.ac) ∧ w'.cell? ⟨sb, 1, none⟩ = some (.int .u8 (P.fl.1 : Nat)) ∧ w'.cell? ⟨sb, 2, none⟩ = some (.slice q.fq q.fn q.fc) ∧ w'.cell? ⟨sb, 3, none⟩ = some (.int .u32 (P.dn : Nat)) ∧ w'.cell? ⟨sb, 4, none⟩ = some (.int .u8 (P.lg.1 : Nat)) ∧ w'.cell? ⟨sb, 5, none⟩ = some (.slice q.lq q.ln q.lc) ∧ w'.cell? ⟨sb, 6, none⟩ = some (.slice q.mq q.mn q.mc) ∧ w'.cell? ⟨sb, 7, none⟩ = some (.int .u8 (P.fm : Nat)) ∧ w'.cell? ⟨sb, 8, none⟩ = some (.int .u64 (P.sp : Nat)) ∧ w'.cell? ⟨sb, 9, none⟩ = some (.bool P.b1) ∧ w'.cell? ⟨sb, 10, none⟩ = some (.bool P.b2) ∧ w'.cell? ⟨sb, 11, none⟩ = some (.bool P.b3) ∧ w'.cell? ⟨sb, 12, none⟩ = some (.bool P.b4) ∧ w'.cell? ⟨sb, 18, none⟩ = some (.slice none 0 0)) Y from ⟨t.cell 0 (.slice q.aq q.an q.ac) rfl, t.cell 1 (.int .u8 (P.fl.1 : Nat)) rfl, t.cell 2 (.slice q.fq q.fn q.fc) rfl, t.cell 3 (.int .u32 (P.dn : Nat)) rfl, t.cell 4 (.int .u8 (P.lg.1 : Nat)) rfl, t.cell 5 (.slice q.lq q.ln q.lc) rfl, t.cell 6 (.slice q.mq q.mn q.mc) rfl, t.cell 7 (.int .u8 (P.fm : Nat)) rfl, t.cell 8 (.int .u64 (P.sp : Nat)) rfl, t.cell 9 (.bool P.b1) rfl, t.cell 10 (.bool P.b2) rfl, t.cell 11 (.bool P.b3) rfl, t.cell 12 (.bool P.b4) rfl, t.cell 18 (.slice none 0 0) rfl⟩))
  refine wp_region_held_drew (S := (fun w' => w'.cell? ⟨sb, 0, none⟩ = some (.slice q.aq q.an q.ac) ∧ w'.cell? ⟨sb, 1, none⟩ = some (.int .u8 (P.fl.1 : Nat)) ∧ w'.cell? ⟨sb, 2, none⟩ = some (.slice q.fq q.fn q.fc) ∧ w'.cell? ⟨sb, 3, none⟩ = some (.int .u32 (P.dn : Nat)) ∧ w'.cell? ⟨sb, 4, none⟩ = some (.int .u8 (P.lg.1 : Nat)) ∧ w'.cell? ⟨sb, 5, none⟩ = some (.slice q.lq q.ln q.lc) ∧ w'.cell? ⟨sb, 6, none⟩ = some (.slice q.mq q.mn q.mc) ∧ w'.cell? ⟨sb, 7, none⟩ = some (.int .u8 (P.fm : Nat)) ∧ w'.cell? ⟨sb, 8, none⟩ = some (.int .u64 (P.sp : Nat)) ∧ w'.cell? ⟨sb, 9, none⟩ = some (.bool P.b1) ∧ w'.cell? ⟨sb, 10, none⟩ = some (.bool P.b2) ∧ w'.cell? ⟨sb, 11, none⟩ = some (.bool P.b3) ∧ w'.cell? ⟨sb, 12, none⟩ = some (.bool P.b4) ∧ w'.cell? ⟨sb, 18, none⟩ = some (.slice none 0 0))) (by kernel_rfl) ?_ (fun hHeld => ?_)
  ·exact SK5.out _ (T5.out.on (Below.refl _ _).drew)
  obtain ⟨Y0, hY0⟩ : ∃ Y, Y = v2.drew := ⟨_, rfl⟩
  have S6 := hid (show S17 w p P (⟨af, al, ax, ak, av⟩ : As) Y0 from hY0 ▸ S5.out.on (Below.refl _ _).drew)
  have T6 := hid (show St (w.heap.size + 3) sb Y0 q P (⟨af, al, ax, ak, av⟩ : As) (.slice none 0 0) NF from hY0 ▸ T5.out.on (Below.refl _ _).drew)
  rw [← hY0] at hHeld ⊢
  clear hY0
  refine take_op2 (i := 0) (v := ?_) rfl (by kernel_rfl) (by kernel_rfl) (by kernel_rfl) (fun _ _ _ h => h) (Or.inl ⟨wanted_plain rfl, ?_⟩) (by assumption) ?_
  rotate_left
  ·(intro w hSw; (try dsimp only at hSw); go_simp; try with_reducible rfl)
  intro act_ hact_; simp only [Act.put, List.setIfInBounds_toArray, List.set_cons_zero, List.set_cons_succ] at hact_; subst hact_
  refine take_op2 (i := 1) (v := ?_) rfl (by kernel_rfl) (by kernel_rfl) (by kernel_rfl) (fun _ _ _ h => h) (Or.inl ⟨wanted_plain rfl, ?_⟩) (by assumption) ?_
  rotate_left
  ·(intro w hSw; (try dsimp only at hSw); go_simp; try with_reducible rfl)
  intro act_ hact_; simp only [Act.put, List.setIfInBounds_toArray, List.set_cons_zero, List.set_cons_succ] at hact_; subst hact_
  refine take_op2 (i := 2) (v := ?_) rfl (by kernel_rfl) (by kernel_rfl) (by kernel_rfl) (fun _ _ _ h => h) (Or.inl ⟨wanted_plain rfl, ?_⟩) (by assumption) ?_
  rotate_left
  ·(intro w hSw; (try dsimp only at hSw); go_simp; try with_reducible rfl)
  intro act_ hact_; simp only [Act.put, List.setIfInBounds_toArray, List.set_cons_zero, List.set_cons_succ] at hact_; subst hact_
  refine take_op2 (i := 3) (v := ?_) rfl (by kernel_rfl) (by kernel_rfl) (by kernel_rfl) (fun _ _ _ h => h) (Or.inl ⟨wanted_plain rfl, ?_⟩) (by assumption) ?_
  rotate_left
  ·(intro w hSw; (try dsimp only at hSw); go_simp; try with_reducible rfl)
  intro act_ hact_; simp only [Act.put, List.setIfInBounds_toArray, List.set_cons_zero, List.set_cons_succ] at hact_; subst hact_
  refine wpAnyH_ready (rs := [4]) (by kernel_rfl) (List.cons_ne_nil _ _) ?_
  refine AllReadyH.cons rfl (fun K hK => ?_) AllReadyH.nil
  refine step_storeL17 rfl 32 (.tmp 4) (.tmp 24) (by rfl) (w.heap.size + 2) 0 (plC q P) (by rfl) (by rfl) (there_row17 S6.out.res (show 0 + 13 ≤ 13 by decide)) pl_info (plC_one _ _) ?_
  change K (Act.put _ none _) _
  simp only [Act.put]
  refine hK.out _ _ ?_ (fun hHeld2 => ?_)
  ·exact SK5.out _ (T6.out.apart S6.out.res 0 (plC q P))
  clear hK K
  have hHeld := hHeld2
  clear hHeld2
  refine take_op2 (i := 5) (v := ?_) rfl (by kernel_rfl) (by kernel_rfl) (by kernel_rfl) (fun _ _ _ h => h) (Or.inl ⟨wanted_plain rfl, ?_⟩) (by assumption) ?_
  rotate_left
  ·(intro w hSw; (try dsimp only at hSw); go_simp; try with_reducible rfl)
  intro act_ hact_; simp only [Act.put, List.setIfInBounds_toArray, List.set_cons_zero, List.set_cons_succ] at hact_; subst hact_
  refine wpAnyH_done (by kernel_rfl) ?_ _
  have hl := run_loadVar_mid (P := Tryz.prog) (Y0.setCells (w.heap.size + 2) 0 (plC q P)) (w.heap.size + 2) 0 32 (plC q P) _ (World.rangeAt_setCells_same Y0 _ 0 _ (there_row17 S6.out.res (show 0 + 13 ≤ 13 by decide))) Tryz.underlying32 rfl pl_info
  have HBF := hid (below_setCells16 (show w.heap.size ≤ w.heap.size + 2 by omega) (plC q P) 0 _ S6.out.bel)
  have TF := hid (T6.out.apart S6.out.res 0 (plC q P))
  generalize Y0.setCells (w.heap.size + 2) 0 (plC q P) = ZZ at hl HBF TF ⊢
  (try go_wp2_with fail)
  (try simp only [Exit.inBlock, Exit.then])
  refine bodyPost_ret (v := .tuple #[.agg (plC q P).toArray, .slice none 0 0]) (results_two15 Tryz.results71 ?_ ?_ hl) rfl ⟨q, _, by rw [HFF.out]; rfl, by rw [HFF.out]; exact TF.out.own.low (Nat.le_add_right _ 3), by have hq := owns_low16 TF.out.nts (Nat.le_add_right w.heap.size 3); rw [HFF.out]; simp only [HNF.out, List.length_map] at hq ⊢; exact hq, HBF.out⟩
  all_goals rfl
end Go.Proofs.YtlenjfodjkhpmaaGreatDoor
