/- The landed policy: New, Resolve: what assignments come to. Conditions: the tables of architectures, families, namespaces, words lie in their variables; at most 200 assignments, of values of at most 1,000 bytes. -/
import Derived.Test.YtlenjfodjkhpmaaGreatDoorW2
import Derived.Test.YtlenjfodjkhpmaaGreatDoorV5
import Derived.Deep.RegionHeld3
namespace Go.Proofs.YtlenjfodjkhpmaaGreatDoor
set_option maxRecDepth 100000
open Go.Lib (hid)
open Go.RowKit
set_option linter.unusedVariables false
set_option linter.unusedSimpArgs false
attribute [local go_sem ↓] Go.wp_at_zero Go.wp_at_succ

set_option maxHeartbeats 4000000 in
theorem new_c19 (w : World) : Calls Tryz.prog 23 #[] w fun e w' => e = .returned (.agg (plC pz17 newP).toArray) ∧ Below w.heap.size w w' := by
 have XR := hid (heap_alloc_new w (.cells #[.slice none 0 0, .int .u8 0, .slice none 0 0, .int .u32 0, .int .u8 0, .slice none 0 0, .slice none 0 0, .int .u8 0, .int .u64 0, .bool false, .bool false, .bool false, .bool false] 32) : (w.alloc (.cells #[.slice none 0 0, .int .u8 0, .slice none 0 0, .int .u32 0, .int .u8 0, .slice none 0 0, .slice none 0 0, .int .u8 0, .int .u64 0, .bool false, .bool false, .bool false, .bool false] 32)).heap[w.heap.size]? = some (.cells ([.slice none 0 0, .int .u8 0, .slice none 0 0, .int .u32 0, .int .u8 0, .slice none 0 0, .slice none 0 0, .int .u8 0, .int .u64 0, .bool false, .bool false, .bool false, .bool false] : List Value).toArray 32 (0, 0)))
 go_enter Tryz.func23, Tryz.ntmps23
 go_wp2_with (first
  | ((with_reducible show wpList _ _ _ (⟨none, .store 32 (.tmp 0) (.tmp 1), _, _, _, _⟩ :: _) _ _)
     refine wpList_store_mid rfl 32 (.tmp 0) (.tmp 1) rfl w.heap.size 0 (plC pz17 newP).toArray (by rfl) (by rfl) (there_row17 XR.out (show 0 + 13 ≤ 13 by decide)) pl_info (plC_one _ _) ?_
     show wpList _ _ _ _ _ ((w.alloc (.cells #[.slice none 0 0, .int .u8 0, .slice none 0 0, .int .u32 0, .int .u8 0, .slice none 0 0, .slice none 0 0, .int .u8 0, .int .u64 0, .bool false, .bool false, .bool false, .bool false] 32)).setCells w.heap.size 0 (plC pz17 newP))
     have hl := run_loadVar_mid (P := Tryz.prog) ((w.alloc (.cells #[.slice none 0 0, .int .u8 0, .slice none 0 0, .int .u32 0, .int .u8 0, .slice none 0 0, .slice none 0 0, .int .u8 0, .int .u64 0, .bool false, .bool false, .bool false, .bool false] 32)).setCells w.heap.size 0 (plC pz17 newP)) w.heap.size 0 32 (plC pz17 newP) _ (World.rangeAt_setCells_same (w.alloc (.cells #[.slice none 0 0, .int .u8 0, .slice none 0 0, .int .u32 0, .int .u8 0, .slice none 0 0, .slice none 0 0, .int .u8 0, .int .u64 0, .bool false, .bool false, .bool false, .bool false] 32)) _ 0 _ (there_row17 XR.out (show 0 + 13 ≤ 13 by decide))) Tryz.underlying32 rfl pl_info
     have HB := hid (below_setCells16 (Nat.le_refl w.heap.size) (plC pz17 newP) 0 _ (below16 w (.cells #[.slice none 0 0, .int .u8 0, .slice none 0 0, .int .u32 0, .int .u8 0, .slice none 0 0, .slice none 0 0, .int .u8 0, .int .u64 0, .bool false, .bool false, .bool false, .bool false] 32)))
     generalize (w.alloc (.cells #[.slice none 0 0, .int .u8 0, .slice none 0 0, .int .u32 0, .int .u8 0, .slice none 0 0, .slice none 0 0, .int .u8 0, .int .u64 0, .bool false, .bool false, .bool false, .bool false] 32)).setCells w.heap.size 0 (plC pz17 newP) = Z at hl HB ⊢))
 (try simp only [Exit.inBlock, Exit.then])
 refine bodyPost_ret (v := .agg (plC pz17 newP).toArray) (results_one16 Tryz.results23 ?_ hl) rfl ⟨rfl, HB.out⟩
 all_goals rfl
def AsAt (w : World) (q : Option Addr) (l : List As) : Prop := ∀ (k : Nat) (a : As), l[k]? = some a → ∃ g o, q = some ⟨g, o, none⟩ ∧ w.cell? ⟨g, o + k * 5, none⟩ = some (.string a.file) ∧ w.cell? ⟨g, o + k * 5 + 1, none⟩ = some (.int .i64 a.line) ∧ w.cell? ⟨g, o + k * 5 + 2, none⟩ = some (.string a.sec) ∧ w.cell? ⟨g, o + k * 5 + 3, none⟩ = some (.string a.key) ∧ w.cell? ⟨g, o + k * 5 + 4, none⟩ = some (.string a.val)
theorem AsAt.on {w w' : World} {q : Option Addr} {l : List As} (h : AsAt w q l) (b : Below w.heap.size w w') : AsAt w' q l := fun k a hk => by
 obtain ⟨g, o, e, c0, c1, c2, c3, c4⟩ := h k a hk
 exact ⟨g, o, e, (b.cell (World.block_lt_of_cell? w _ c0)).trans c0, (b.cell (World.block_lt_of_cell? w _ c1)).trans c1, (b.cell (World.block_lt_of_cell? w _ c2)).trans c2, (b.cell (World.block_lt_of_cell? w _ c3)).trans c3, (b.cell (World.block_lt_of_cell? w _ c4)).trans c4⟩
structure RsAt (w : World) (b2 b4 : Nat) (V : World) (p : Pls) (P : Pol) (v : Value) (N : List Nte) : Prop where
 bel : Below w.heap.size w V
 res : V.heap[b2]? = some (.cells ([.slice none 0 0, .int .u8 0, .slice none 0 0, .int .u32 0, .int .u8 0, .slice none 0 0, .slice none 0 0, .int .u8 0, .int .u64 0, .bool false, .bool false, .bool false, .bool false] : List Value).toArray 32 (0, 0))
 box : V.heap[b4]? = some (.cells (plC p P).toArray 32 (0, 0))
 own : OwnP w.heap.size V p P
 nts : V.ownsRow w.heap.size 57 4 v N.length (rowC encN N)
theorem RsAt.on {w V V' : World} {b2 b4 : Nat} {p : Pls} {P : Pol} {v : Value} {N : List Nte} (h : RsAt w b2 b4 V p P v N) (b : Below V.heap.size V V') : RsAt w b2 b4 V' p P v N := ⟨thn16 h.bel b, blk_on h.res b, blk_on h.box b, h.own.on b, owns_on16 h.nts b⟩
theorem RsAt.box2 {w V : World} {b2 b4 b : Nat} {p : Pls} {P : Pol} {v : Value} {N : List Nte} {cs : List Value} (h : RsAt w b2 b4 V p P v N) (hb : V.heap[b]? = some (.cells cs.toArray 32 (0, 0))) (h2 : b2 ≠ b) (h4 : b4 ≠ b) (hw : w.heap.size ≤ b) (l : List Value) : RsAt w b2 b4 (V.setCells b 0 l) p P v N :=
 ⟨below_setCells16 hw _ 0 _ h.bel, (heap_setCells16 _ _ _ h2 _ _).trans h.res, (heap_setCells16 _ _ _ h4 _ _).trans h.box, h.own.box hb 0 l, rows_box17 (i := 0) hb (by decide) h.nts l⟩
theorem keep_app19 {B n : Nat} {W W' : World} {v : Value} {xs : List Value} (ho : W.ownsRow B 57 4 v n xs) (h : W.grownBy W' v.ownBlock) : KeepT 57 W W' := by
 rcases ho.2 with ⟨rfl, _⟩ | ⟨g, cap, cur, rfl, _, hg, _⟩
 ·exact KeepT.grown0 h
 ·exact KeepT.grown hg h
theorem below_app19 {n : Nat} {w W W' : World} {v : Value} {xs : List Value} (hB : Below w.heap.size w W) (h : W.drew.grownBy W' v.ownBlock) (ho : W.ownsRow w.heap.size 57 4 v n xs) : Below w.heap.size w W' := hB.drew.grown h (show w.heap.size ≤ W.drew.heap.size from hB.size) (fun g hg => (ho.lt g hg).1)
theorem own_keep19 {B : Nat} {W W' : World} {p : Pls} {P : Pol} (h : OwnP B W p P) (k : KeepT 57 W W') : OwnP B W' p P := ⟨h.al, h.fl, h.ll, h.ml, k.own (by decide) h.ar, k.own (by decide) h.fi, k.own (by decide) h.lo, k.own (by decide) h.fa⟩
theorem rowC_one19 (M : List Nte) : ∀ u ∈ rowC encN M, u.oneCell' = true := fun u hu => by
 obtain ⟨x, _, hx⟩ := List.mem_flatMap.1 hu
 exact encN_one x u hx
theorem row_news19 {W : World} {B n : Nat} {q : Option Addr} {c : Nat} {xs : List Value} (h : W.ownsRow B 57 4 (.slice q n c) n xs) (h0 : 0 < n) : ∃ ad, q = some ad ∧ ∀ j u, xs[j]? = some u → W.cell? (ad.add j) = some u := by
 rcases h.2 with ⟨hv, hz⟩ | ⟨g, cap, cur, hv, hb, hg, hnc, hm, hs, ht⟩
 ·cases hv; omega
 ·injection hv with e1 e2 e3
  subst e1 e3
  exact ⟨_, rfl, fun j u hu => h.cells rfl j u hu⟩
def resF (l : List As) : Pol := if (resR l).2.any wrnB = true then PZ else (resR l).1
theorem res_step19 {l : List As} {k : Nat} {a : As} (h : l[k]? = some a) {P : Pol} {N : List Nte} (hs : resR (l.take k) = (P, N)) : resR (l.take (k + 1)) = ((stpR P a).1, N ++ (stpR P a).2) := by
 unfold resR at *
 rw [List.take_add_one, h]
 show (l.take k ++ [a]).foldl resS (newP, []) = _
 rw [List.foldl_append, hs]
 rfl
theorem stp_len19 {P : Pol} {a : As} (hv : a.val.size ≤ 1000) (hf : P.fl.2.length ≤ 100) (hl : P.lg.2.length ≤ 100) : (stpR P a).2.length ≤ 1001 := by
 have h1 := (setF_len P a.key a.val hv hf hl).2.2.2.2
 have h2 := (setR_len (pb := putB18 P.fm a.val) (P := P) (k := a.key) (v := a.val)).2.2
 unfold stpR
 repeat' split
 all_goals first
  | (simp only [List.length_map]; omega)
  | (simp only [List.length_cons, List.length_nil]; omega)
theorem rise_len19 : ∀ (l : List Int) (lo hi : Int), l.Pairwise (fun a b => ltI a b = true) → (∀ x ∈ l, lo ≤ x ∧ x < hi) → lo ≤ hi → (l.length : Int) ≤ hi - lo
 | [], lo, hi, _, _, h => by simp; omega
 | a :: r, lo, hi, hp, hx, h => by
   obtain ⟨h1, h2⟩ := List.pairwise_cons.1 hp
   have ha := hx a List.mem_cons_self
   have := rise_len19 r (a + 1) hi h2 (fun x hr => by
    have h3 := h1 x hr
    unfold ltI at h3
    simp at h3
    have := hx x (List.mem_cons_of_mem _ hr)
    omega) (by omega)
   simp only [List.length_cons]
   omega
structure KnP (P : Pol) : Prop where
 ar : ∀ x ∈ P.ar, 0 ≤ x ∧ x < 6
 fa : ∀ x ∈ P.fa, ∃ e ∈ famT, e.2 = x
theorem arcS_kn19 : ∀ (ws : List (List UInt8)) (r : List Int × List (Int × ByteArray)), (∀ x ∈ r.1, 0 ≤ x ∧ x < 6) → ∀ x ∈ (ws.foldl arcS r).1, 0 ≤ x ∧ x < 6
 | [], r, h => h
 | w :: ws, r, h => arcS_kn19 ws _ (by
   unfold arcS
   split
   ·rename_i he
    intro x hx
    rcases mem_insU.1 hx with rfl | hx
    ·exact parR_lt _ he
    ·exact h x hx
   ·exact h)
theorem famS_kn19 (b : Bool) : ∀ (ws : List (List UInt8)) (r : List Nat × List (Int × ByteArray)), (∀ x ∈ r.1, ∃ e ∈ famT, e.2 = x) → ∀ x ∈ (ws.foldl (famS b) r).1, ∃ e ∈ famT, e.2 = x
 | [], r, h => h
 | w :: ws, r, h => famS_kn19 b ws _ (by
   unfold famS
   split
   ·rename_i n he
    intro x hx
    simp only at hx
    split at hx
    ·rcases mem_insU.1 hx with rfl | hx
     ·exact findR_mem he
     ·exact h x hx
    ·exact h x (List.mem_filter.1 hx).1
   ·exact h)
theorem kn_setR19 {P : Pol} {pb : Bool} {k v : ByteArray} (h : KnP P) : KnP (setR pb P k v).1 := by
 have ha : ∀ x ∈ (arcF P.ar v).1, 0 ≤ x ∧ x < 6 := by
  unfold arcF
  split
  ·intro x hx; cases hx
  ·exact arcS_kn19 _ _ h.ar
 have hf : ∀ x ∈ (famF pb P.fm P.fa v).1.2, ∃ e ∈ famT, e.2 = x := by
  unfold famF
  split
  ·intro x hx; cases hx
  ·split
   ·intro x hx; cases hx
   ·exact famS_kn19 _ _ _ h.fa
 unfold setR
 repeat' split
 all_goals first
  | exact ⟨ha, h.fa⟩
  | exact ⟨h.ar, hf⟩
  | exact ⟨h.ar, h.fa⟩
theorem kn_stp19 {P : Pol} {a : As} (h : KnP P) : KnP (stpR P a).1 := by
 have hF : KnP (setF P a.key a.val).1 := by
  unfold setF
  repeat' split
  all_goals exact ⟨h.ar, h.fa⟩
 unfold stpR
 repeat' split
 all_goals first
  | exact hF
  | exact kn_setR19 h
  | exact h
theorem kn_fold19 : ∀ (l : List As) (r : Pol × List Nte), KnP r.1 → KnP (l.foldl resS r).1
 | [], r, h => h
 | a :: l, r, h => kn_fold19 l (resS r a) (kn_stp19 h)
theorem res_kn19 (l : List As) : KnP (resR l).1 := kn_fold19 l (newP, []) ⟨fun x hx => (by cases hx), fun x hx => (by cases hx)⟩
theorem nat_len19 : ∀ (l T : List Nat), l.Pairwise (fun a b => ltN18 a b = true) → (∀ x ∈ l, x ∈ T) → l.length ≤ T.length
 | [], _, _, _ => Nat.zero_le _
 | a :: r, T, hp, hx => by
   obtain ⟨h1, h2⟩ := List.pairwise_cons.1 hp
   have ha := hx a List.mem_cons_self
   have := nat_len19 r (T.erase a) h2 (fun x hr => (List.mem_erase_of_ne (fun e => by
    have h3 := h1 x hr
    unfold ltN18 at h3
    simp at h3
    omega)).2 (hx x (List.mem_cons_of_mem _ hr)))
   rw [List.length_erase_of_mem ha] at this
   have h4 := List.length_pos_of_mem ha
   simp only [List.length_cons]
   omega
theorem res_short19 (l : List As) : (resR l).1.ar.length ≤ 20 ∧ (resR l).1.fa.length ≤ 20 ∧ (resR l).1.fl.2.length ≤ 100 ∧ (resR l).1.lg.2.length ≤ 100 := by
 have hi := res_inv19 l
 have hk := res_kn19 l
 refine ⟨?_, ?_, Nat.le_trans (okl_le hi.fl) (by decide), Nat.le_trans (okl_le hi.lg) (by decide)⟩
 ·have := rise_len19 _ 0 6 hi.rs.ar hk.ar (by decide)
  omega
 ·have := nat_len19 _ (famT.map (·.2)) hi.rs.fa (fun x hx => by
   obtain ⟨e, he, h⟩ := hk.fa x hx
   exact List.mem_map.2 ⟨e, he, h⟩)
  have h8 : (famT.map (·.2)).length = 8 := by decide
  omega
theorem new_own19 (B : Nat) (w : World) : OwnP B w pz17 newP := ⟨rfl, rfl, rfl, rfl, World.ownsRow_nil _ _ _ _, World.ownsRow_nil _ _ _ _, World.ownsRow_nil _ _ _ _, World.ownsRow_nil _ _ _ _⟩
theorem zero_own19 (B : Nat) (w : World) : OwnP B w pz17 PZ := ⟨rfl, rfl, rfl, rfl, World.ownsRow_nil _ _ _ _, World.ownsRow_nil _ _ _ _, World.ownsRow_nil _ _ _ _, World.ownsRow_nil _ _ _ _⟩
theorem notes_len19 {l : List As} (hb : ∀ a ∈ l, a.val.size ≤ 1000 ∧ a.key.size ≤ 200) : ∀ {k : Nat} {P : Pol} {N : List Nte}, resR (l.take k) = (P, N) → N.length ≤ k * 1001 := by
 intro k
 induction k with
 | zero => intro P N h; rw [List.take_zero] at h; injection h with _ h; rw [← h]; exact Nat.zero_le _
 | succ k ih =>
  intro P N h
  cases hx : l[k]? with
  | none =>
   rw [List.take_add_one, hx, show l.take k ++ (none : Option As).toList = l.take k from List.append_nil _] at h
   exact Nat.le_trans (ih h) (Nat.mul_le_mul_right _ (Nat.le_succ k))
  | some a =>
   obtain ⟨Q, hQ⟩ : ∃ Q, resR (l.take k) = Q := ⟨_, rfl⟩
   obtain ⟨P0, N0⟩ := Q
   have h2 := res_step19 hx hQ
   rw [h] at h2
   injection h2 with _ h3
   have h4 := ih hQ
   have h5 := res_short19 (l.take k)
   rw [hQ] at h5
   have h6 := stp_len19 (P := P0) (a := a) (hb a (List.mem_of_getElem? hx)).1 h5.2.2.1 h5.2.2.2
   rw [h3, List.length_append, Nat.succ_mul]
   exact Nat.add_le_add h4 h6
set_option maxHeartbeats 64000000 in
theorem resolve_c19 (q : Option Addr) (n c : Nat) (l : List As) (w : World) (hG : G18 w) (hn : n = l.length) (hn2 : n ≤ 200) (hA : AsAt w q l) (hb : ∀ a ∈ l, a.val.size ≤ 1000 ∧ a.key.size ≤ 200) : Calls Tryz.prog 9 #[.slice q n c] w fun e w' => ∃ p v, e = .returned (.tuple #[.agg (plC p (resF l)).toArray, v]) ∧ OwnP w.heap.size w' p (resF l) ∧ w'.ownsRow w.heap.size 57 4 v (resR l).2.length (rowC encN (resR l).2) ∧ Below w.heap.size w w' := by
 obtain ⟨j0, hj0, hy0, hy1, hy2⟩ := info_parts nte_info
 have JI := hid hj0
 have JZ0 := hid hy0
 have JZ1 := hid hy1
 have JZ2 := hid hy2
 obtain ⟨W0, hW0⟩ : ∃ W, W = w.alloc (.cells #[.slice none 0 0, .int .u8 0, .slice none 0 0, .int .u32 0, .int .u8 0, .slice none 0 0, .slice none 0 0, .int .u8 0, .int .u64 0, .bool false, .bool false, .bool false, .bool false] 32) := ⟨_, rfl⟩
 have HW0 := hid hW0
 have BW0 := hid (show Below w.heap.size w W0 from hW0 ▸ below16 w _)
 have R0 := hid (show W0.heap[w.heap.size]? = some (.cells ([.slice none 0 0, .int .u8 0, .slice none 0 0, .int .u32 0, .int .u8 0, .slice none 0 0, .slice none 0 0, .int .u8 0, .int .u64 0, .bool false, .bool false, .bool false, .bool false] : List Value).toArray 32 (0, 0)) from hW0 ▸ heap_alloc_new w _)
 have HS0 := hid (show W0.heap.size = w.heap.size + 1 by rw [hW0, World.size_alloc])
 have HNW := hid (fun X => new_c19 X)
 have HAA := hid (fun (X : World) (b : Below w.heap.size w X) => hA.on b)
 have HNL0 := hid hn
 have HGG := hid (fun (X : World) (b : Below w.heap.size w X) => hG.on b)
 have HBB := hid hb
 clear hA hn hG hb hj0 hy0 hy1 hy2 hW0
 go_enter Tryz.func9, Tryz.ntmps9
 go_wp2_with (first
  | (go_at_call 23; rw [← HW0.out]; ((with_reducible refine (HNW.out W0).mono ?_); rintro e W1 ⟨rfl, b1⟩)
     have XA := hid (heap_alloc_new W1 (.cells #[.slice none 0 0, .int .u8 0, .slice none 0 0, .int .u32 0, .int .u8 0, .slice none 0 0, .slice none 0 0, .int .u8 0, .int .u64 0, .bool false, .bool false, .bool false, .bool false] 32) : (W1.alloc (.cells #[.slice none 0 0, .int .u8 0, .slice none 0 0, .int .u32 0, .int .u8 0, .slice none 0 0, .slice none 0 0, .int .u8 0, .int .u64 0, .bool false, .bool false, .bool false, .bool false] 32)).heap[W1.heap.size]? = some (.cells ([.slice none 0 0, .int .u8 0, .slice none 0 0, .int .u32 0, .int .u8 0, .slice none 0 0, .slice none 0 0, .int .u8 0, .int .u64 0, .bool false, .bool false, .bool false, .bool false] : List Value).toArray 32 (0, 0)))
     have B1 := hid (thn16 BW0.out b1)
     have R1 := hid (blk_on R0.out b1)
     have HL1 := hid (show w.heap.size < W1.heap.size from Nat.lt_of_lt_of_le (by have := HS0.out; omega) b1.size)
     clear b1)
  | ((with_reducible show wpList _ _ _ (⟨none, .store 32 (.tmp 4) (.tmp 10), _, _, _, _⟩ :: _) _ _)
     refine wpList_store_mid rfl 32 (.tmp 4) (.tmp 10) rfl W1.heap.size 0 (plC pz17 newP).toArray (by rfl) (by rfl) (there_row17 XA.out (show 0 + 13 ≤ 13 by decide)) pl_info (plC_one _ _) ?_
     show wpList _ _ _ _ _ ((W1.alloc (.cells #[.slice none 0 0, .int .u8 0, .slice none 0 0, .int .u32 0, .int .u8 0, .slice none 0 0, .slice none 0 0, .int .u8 0, .int .u64 0, .bool false, .bool false, .bool false, .bool false] 32)).setCells W1.heap.size 0 (plC pz17 newP))
     have X0 := hid (show RsAt w w.heap.size W1.heap.size ((W1.alloc (.cells #[.slice none 0 0, .int .u8 0, .slice none 0 0, .int .u32 0, .int .u8 0, .slice none 0 0, .slice none 0 0, .int .u8 0, .int .u64 0, .bool false, .bool false, .bool false, .bool false] 32)).setCells W1.heap.size 0 (plC pz17 newP)) pz17 newP (.slice none 0 0) [] from ⟨below_setCells16 B1.out.size _ 0 _ (B1.out.alloc B1.out.size _), (heap_setCells16 _ _ _ (Nat.ne_of_lt HL1.out) _ _).trans (blk_on R1.out (below16 W1 _)), set_fresh17 XA.out rfl, new_own19 _ _, World.ownsRow_nil _ _ _ _⟩)
     generalize (W1.alloc (.cells #[.slice none 0 0, .int .u8 0, .slice none 0 0, .int .u32 0, .int .u8 0, .slice none 0 0, .slice none 0 0, .int .u8 0, .int .u64 0, .bool false, .bool false, .bool false, .bool false] 32)).setCells W1.heap.size 0 (plC pz17 newP) = Y0 at X0 ⊢))
 obtain ⟨bx, hbx⟩ : ∃ b, b = W1.heap.size := ⟨_, rfl⟩
 have HBX := hid (show w.heap.size ≤ bx by rw [hbx]; exact Nat.le_of_lt HL1.out)
 have HBL := hid (show w.heap.size < bx by rw [hbx]; exact HL1.out)
 rw [← hbx] at X0 ⊢
 clear hbx XA R1 HL1
 go_loopw [5, 13] (fun v5 v13 wr => ∃ (k : Nat) (p : Pls) (P : Pol) (N : List Nte), k ≤ n ∧ v13 = .int .i64 k ∧ Hid (resR (l.take k) = (P, N)) ∧ Hid (RsAt w w.heap.size bx wr p P v5 N)) (fun _ v13 _ => n - (intOf v13).toNat)
 case atStart => exact ⟨0, pz17, newP, [], Nat.zero_le _, rfl, hid rfl, X0⟩
 case round =>
  clear X0
  obtain ⟨k, ⟨aq1, an1, ac1, fq1, fn1, fc1, lq1, ln1, lc1, mq1, mn1, mc1⟩, P, N, hk, rfl, HR, X⟩ := hrel
  obtain ⟨V, rfl⟩ : ∃ wo : World, wo = wr := ⟨_, rfl⟩
  have HNN := hid (notes_len19 (l := l) HBB.out HR.out)
  obtain ⟨nN, hnN⟩ : ∃ m, m = N.length := ⟨_, rfl⟩
  have HNL := hid hnN
  rw [← hnN] at HNN
  by_cases hlt : k < n
  ·obtain ⟨a, ha⟩ : ∃ a, l[k]? = some a := ⟨l[k]'(by rw [← HNL0.out]; exact hlt), List.getElem?_eq_getElem _⟩
   obtain ⟨g, o, rfl, c0, c1, c2, c3, c4⟩ := HAA.out V X.out.bel k a ha
   have HAB := hid (HBB.out a (List.mem_of_getElem? ha))
   have HSH := hid (show P.ar.length ≤ 20 ∧ P.fa.length ≤ 20 ∧ P.fl.2.length ≤ 100 ∧ P.lg.2.length ≤ 100 by have := res_short19 (l.take k); rw [HR.out] at this; exact this)
   have HIV := hid (show InvP P (sizeV (l.take k)) by have := res_inv19 (l.take k); rw [HR.out] at this; exact this)
   have HST0 := hid (res_step19 ha HR.out)
   have HML0 := hid (stp_len19 (P := P) (a := a) HAB.out.1 HSH.out.2.2.1 HSH.out.2.2.2)
   obtain ⟨V0, hV0⟩ : ∃ X, X = V.alloc (.cells #[.string a.file, .int .i64 a.line, .string a.sec, .string a.key, .string a.val] 37) := ⟨_, rfl⟩
   have HV0 := hid hV0
   have X0 := hid (show RsAt w w.heap.size bx V0 ⟨aq1, an1, ac1, fq1, fn1, fc1, lq1, ln1, lc1, mq1, mn1, mc1⟩ P u5 N from hV0 ▸ X.out.on (below16 V _))
   have A0 := hid (show V0.heap[V.heap.size]? = some (.cells (asC a).toArray 37 (0, 0)) from hV0 ▸ heap_alloc_new V _)
   have HPR := hid (process_c19 ⟨aq1, an1, ac1, fq1, fn1, fc1, lq1, ln1, lc1, mq1, mn1, mc1⟩ P a V0 w.heap.size (HGG.out V0 X0.out.bel) HIV.out.ok X0.out.own X0.out.bel.size HIV.out.rs HIV.out.fm HSH.out.1 HSH.out.2.1 HSH.out.2.2.1 HSH.out.2.2.2 HAB.out.1 HAB.out.2)
   rw [show plV ⟨aq1, an1, ac1, fq1, fn1, fc1, lq1, ln1, lc1, mq1, mn1, mc1⟩ P = .agg #[.slice aq1 an1 ac1, .int .u8 (P.fl.1 : Nat), .slice fq1 fn1 fc1, .int .u32 (P.dn : Nat), .int .u8 (P.lg.1 : Nat), .slice lq1 ln1 lc1, .slice mq1 mn1 mc1, .int .u8 (P.fm : Nat), .int .u64 (P.sp : Nat), .bool P.b1, .bool P.b2, .bool P.b3, .bool P.b4] from rfl] at HPR
   unfold asV at HPR
   obtain ⟨P2, hP2⟩ : ∃ Q, Q = (stpR P a).1 := ⟨_, rfl⟩
   obtain ⟨M, hM⟩ : ∃ M, M = (stpR P a).2 := ⟨_, rfl⟩
   rw [← hP2, ← hM] at HPR HST0
   rw [← hM] at HML0
   have HST := HST0
   obtain ⟨nM, hnM⟩ : ∃ m, m = M.length := ⟨_, rfl⟩
   have HML := hid hnM
   rw [← hnM] at HPR HML0
   have hbox := X0.out.box
   rw [HV0.out] at hbox
   obtain ⟨d0, d1, d2, d3, d4, d5, d6, d7, d8, d9, d10, d11, d12⟩ := pcells17 hbox
   have e0 := (cell_of_row V0 V.heap.size 0 _ _ (0, 0) A0.out).trans (show _ = some (Value.string a.file) from rfl)
   have e1 := (cell_of_row V0 V.heap.size 1 _ _ (0, 0) A0.out).trans (show _ = some (Value.int .i64 a.line) from rfl)
   have e2 := (cell_of_row V0 V.heap.size 2 _ _ (0, 0) A0.out).trans (show _ = some (Value.string a.sec) from rfl)
   have e3 := (cell_of_row V0 V.heap.size 3 _ _ (0, 0) A0.out).trans (show _ = some (Value.string a.key) from rfl)
   have e4 := (cell_of_row V0 V.heap.size 4 _ _ (0, 0) A0.out).trans (show _ = some (Value.string a.val) from rfl)
   have hm1 : nM ≤ 1001 := HML0.out
   have hm2 : nN ≤ 200200 := Nat.le_trans HNN.out (by omega)
   have k1 : (k : Int) < n := by omega
   have k0 : (0 : Int) ≤ k := by omega
   clear hbox ha hV0 hP2 hM hnM hnN HST0 HIV HSH HAB HML0 HR
   go_wp2_with (first
    | (go_at_call 25; rw [← HV0.out]; ((with_reducible refine (HPR.out).mono ?_); rintro e V1 ⟨⟨aq2, an2, ac2, fq2, fn2, fc2, lq2, ln2, lc2, mq2, mn2, mc2⟩, u, rfl, o1, r1, b1⟩)
       obtain ⟨qu, cu, rfl⟩ := own16 r1
       have X1 := hid (X0.out.on b1)
       have O1 := hid o1
       have R1 := hid (owns_low16 r1 X0.out.bel.size)
       have XA := hid (heap_alloc_new V1 (.cells #[.slice none 0 0, .int .u8 0, .slice none 0 0, .int .u32 0, .int .u8 0, .slice none 0 0, .slice none 0 0, .int .u8 0, .int .u64 0, .bool false, .bool false, .bool false, .bool false] 32) : (V1.alloc (.cells #[.slice none 0 0, .int .u8 0, .slice none 0 0, .int .u32 0, .int .u8 0, .slice none 0 0, .slice none 0 0, .int .u8 0, .int .u64 0, .bool false, .bool false, .bool false, .bool false] 32)).heap[V1.heap.size]? = some (.cells ([.slice none 0 0, .int .u8 0, .slice none 0 0, .int .u32 0, .int .u8 0, .slice none 0 0, .slice none 0 0, .int .u8 0, .int .u64 0, .bool false, .bool false, .bool false, .bool false] : List Value).toArray 32 (0, 0)))
       clear o1 r1 b1 d0 d1 d2 d3 d4 d5 d6 d7 d8 d9 d10 d11 d12 e0 e1 e2 e3 e4)
    | ((with_reducible show wpList _ _ _ (⟨none, .store 32 (.tmp 8) (.tmp 21), _, _, _, _⟩ :: _) _ _)
       refine wpList_store_mid rfl 32 (.tmp 8) (.tmp 21) rfl V1.heap.size 0 (plC ⟨aq2, an2, ac2, fq2, fn2, fc2, lq2, ln2, lc2, mq2, mn2, mc2⟩ P2).toArray (by rfl) (by rfl) (there_row17 XA.out (show 0 + 13 ≤ 13 by decide)) pl_info (plC_one _ _) ?_
       show wpList _ _ _ _ _ ((V1.alloc (.cells #[.slice none 0 0, .int .u8 0, .slice none 0 0, .int .u32 0, .int .u8 0, .slice none 0 0, .slice none 0 0, .int .u8 0, .int .u64 0, .bool false, .bool false, .bool false, .bool false] 32)).setCells V1.heap.size 0 (plC ⟨aq2, an2, ac2, fq2, fn2, fc2, lq2, ln2, lc2, mq2, mn2, mc2⟩ P2))
       have HL8 := hid (show w.heap.size < V1.heap.size from Nat.lt_of_lt_of_le HBL.out (Nat.le_of_lt (blk_lt X1.out.box)))
       have HB8 := hid (show V1.heap.size ≠ bx from fun e => Nat.lt_irrefl _ (e ▸ blk_lt X1.out.box))
       have X3 := hid ((X1.out.on (below16 V1 (.cells #[.slice none 0 0, .int .u8 0, .slice none 0 0, .int .u32 0, .int .u8 0, .slice none 0 0, .slice none 0 0, .int .u8 0, .int .u64 0, .bool false, .bool false, .bool false, .bool false] 32))).box2 XA.out (Nat.ne_of_lt HL8.out) HB8.out.symm (Nat.le_of_lt HL8.out) (plC ⟨aq2, an2, ac2, fq2, fn2, fc2, lq2, ln2, lc2, mq2, mn2, mc2⟩ P2))
       have E3 := hid (set_fresh17 (p := ⟨aq2, an2, ac2, fq2, fn2, fc2, lq2, ln2, lc2, mq2, mn2, mc2⟩) (P := P2) XA.out rfl)
       have O3 := hid ((O1.out.on (below16 V1 (.cells #[.slice none 0 0, .int .u8 0, .slice none 0 0, .int .u32 0, .int .u8 0, .slice none 0 0, .slice none 0 0, .int .u8 0, .int .u64 0, .bool false, .bool false, .bool false, .bool false] 32))).box XA.out 0 (plC ⟨aq2, an2, ac2, fq2, fn2, fc2, lq2, ln2, lc2, mq2, mn2, mc2⟩ P2))
       have R3 := hid (rows_box17 (i := 0) XA.out (by decide) (owns_on16 R1.out (below16 V1 (.cells #[.slice none 0 0, .int .u8 0, .slice none 0 0, .int .u32 0, .int .u8 0, .slice none 0 0, .slice none 0 0, .int .u8 0, .int .u64 0, .bool false, .bool false, .bool false, .bool false] 32))) (plC ⟨aq2, an2, ac2, fq2, fn2, fc2, lq2, ln2, lc2, mq2, mn2, mc2⟩ P2))
       generalize (V1.alloc (.cells #[.slice none 0 0, .int .u8 0, .slice none 0 0, .int .u32 0, .int .u8 0, .slice none 0 0, .slice none 0 0, .int .u8 0, .int .u64 0, .bool false, .bool false, .bool false, .bool false] 32)).setCells V1.heap.size 0 (plC ⟨aq2, an2, ac2, fq2, fn2, fc2, lq2, ln2, lc2, mq2, mn2, mc2⟩ P2) = V3 at X3 E3 O3 R3 ⊢))
   have SK := hid (fun (Y : World) (h1 : Y.heap[V1.heap.size]? = some (.cells (plC ⟨aq2, an2, ac2, fq2, fn2, fc2, lq2, ln2, lc2, mq2, mn2, mc2⟩ P2).toArray 32 (0, 0))) => (show (fun w' => w'.cell? ⟨V1.heap.size, 0, none⟩ = some (.slice aq2 an2 ac2) ∧ w'.cell? ⟨V1.heap.size, 1, none⟩ = some (.int .u8 (P2.fl.1 : Nat)) ∧ w'.cell? ⟨V1.heap.size, 2, none⟩ = some (.slice fq2 fn2 fc2) ∧ w'.cell? ⟨V1.heap.size, 3, none⟩ = some (.int .u32 (P2.dn : Nat)) ∧ w'.cell? ⟨V1.heap.size, 4, none⟩ = some (.int .u8 (P2.lg.1 : Nat)) ∧ w'.cell? ⟨V1.heap.size, 5, none⟩ = some (.slice lq2 ln2 lc2) ∧ w'.cell? ⟨V1.heap.size, 6, none⟩ = some (.slice mq2 mn2 mc2) ∧ w'.cell? ⟨V1.heap.size, 7, none⟩ = some (.int .u8 (P2.fm : Nat)) ∧ w'.cell? ⟨V1.heap.size, 8, none⟩ = some (.int .u64 (P2.sp : Nat)) ∧ w'.cell? ⟨V1.heap.size, 9, none⟩ = some (.bool P2.b1) ∧ w'.cell? ⟨V1.heap.size, 10, none⟩ = some (.bool P2.b2) ∧ w'.cell? ⟨V1.heap.size, 11, none⟩ = some (.bool P2.b3) ∧ w'.cell? ⟨V1.heap.size, 12, none⟩ = some (.bool P2.b4)) Y from pcells17 h1))
   have hw3 : (nN : Int) + nM = ((nN + nM : Nat) : Int) := by omega
   rw [HNL.out] at hm2
   rw [← HNL.out] at hm2
   have X3 := hid (show RsAt w w.heap.size bx V3 ⟨aq1, an1, ac1, fq1, fn1, fc1, lq1, ln1, lc1, mq1, mn1, mc1⟩ P u5 N from X3.out)
   refine wp_region_held_drew (S := (fun w' => w'.cell? ⟨V1.heap.size, 0, none⟩ = some (.slice aq2 an2 ac2) ∧ w'.cell? ⟨V1.heap.size, 1, none⟩ = some (.int .u8 (P2.fl.1 : Nat)) ∧ w'.cell? ⟨V1.heap.size, 2, none⟩ = some (.slice fq2 fn2 fc2) ∧ w'.cell? ⟨V1.heap.size, 3, none⟩ = some (.int .u32 (P2.dn : Nat)) ∧ w'.cell? ⟨V1.heap.size, 4, none⟩ = some (.int .u8 (P2.lg.1 : Nat)) ∧ w'.cell? ⟨V1.heap.size, 5, none⟩ = some (.slice lq2 ln2 lc2) ∧ w'.cell? ⟨V1.heap.size, 6, none⟩ = some (.slice mq2 mn2 mc2) ∧ w'.cell? ⟨V1.heap.size, 7, none⟩ = some (.int .u8 (P2.fm : Nat)) ∧ w'.cell? ⟨V1.heap.size, 8, none⟩ = some (.int .u64 (P2.sp : Nat)) ∧ w'.cell? ⟨V1.heap.size, 9, none⟩ = some (.bool P2.b1) ∧ w'.cell? ⟨V1.heap.size, 10, none⟩ = some (.bool P2.b2) ∧ w'.cell? ⟨V1.heap.size, 11, none⟩ = some (.bool P2.b3) ∧ w'.cell? ⟨V1.heap.size, 12, none⟩ = some (.bool P2.b4))) (by kernel_rfl) ?_ (fun hHeld => ?_)
   ·exact SK.out _ E3.out
   refine take_op2 (i := 0) (v := ?_) rfl (by kernel_rfl) (by kernel_rfl) (by kernel_rfl) (fun _ _ _ h => h) (Or.inl ⟨wanted_plain rfl, ?_⟩) (by assumption) ?_
   rotate_left
   ·(intro w hSw; (try dsimp only at hSw); go_simp; try with_reducible rfl)
   intro act_ hact_; simp only [Act.put, List.setIfInBounds_toArray, List.set_cons_zero, List.set_cons_succ] at hact_; subst hact_
   refine take_op2 (i := 1) (v := ?_) rfl (by kernel_rfl) (by kernel_rfl) (by kernel_rfl) (fun _ _ _ h => h) (Or.inl ⟨wanted_plain rfl, ?_⟩) (by assumption) ?_
   rotate_left
   ·(intro w hSw; (try dsimp only at hSw); go_simp; try with_reducible rfl)
   intro act_ hact_; simp only [Act.put, List.setIfInBounds_toArray, List.set_cons_zero, List.set_cons_succ] at hact_; subst hact_
   refine take_op2 (i := 2) (v := ?_) rfl (by kernel_rfl) (by kernel_rfl) (by kernel_rfl) (fun _ _ _ h => h) (Or.inl ⟨wanted_plain rfl, ?_⟩) (by assumption) ?_
   rotate_left
   ·(intro w hSw; (try dsimp only at hSw); go_simp; try with_reducible rfl)
   intro act_ hact_; simp only [Act.put, List.setIfInBounds_toArray, List.set_cons_zero, List.set_cons_succ] at hact_; subst hact_
   refine wpAnyH_ready (rs := [3]) (by kernel_rfl) (List.cons_ne_nil _ _) ?_
   refine AllReadyH.cons rfl (fun K hK => ?_) AllReadyH.nil
   refine step_app_r (by rfl) (.tmp 24) (.tmp 25) 33 (by rfl) w.heap.size 57 j0 _ 4 48 Tryz.underlying33 JI.out JZ0.out JZ1.out JZ2.out rfl (by decide) u5 nN (rowC encN N) (by rfl) ((by have := X3.out.nts; rw [← HNL.out] at this; exact this.drew)) qu nM cu (rowC encN M) (by rfl) (by rw [rowC_length encN_len, ← HML.out]) (fun h0 => row_news19 (R3.out.drew) h0) (rowC_one19 M) (by unfold maxLen; omega) (by omega) X3.out.bel.size ?_
   intro u6 V4 o4 h4
   rw [← rowC_app] at o4
   have KN := hid (keep_app19 (W := V3.drew) X3.out.nts.drew h4)
   have X4 := hid (show RsAt w w.heap.size bx V4 ⟨aq1, an1, ac1, fq1, fn1, fc1, lq1, ln1, lc1, mq1, mn1, mc1⟩ P u6 (N ++ M) from ⟨below_app19 X3.out.bel h4 X3.out.nts, KN.out _ _ _ _ (by decide) X3.out.res, KN.out _ _ _ _ (by decide) X3.out.box, own_keep19 X3.out.own KN.out, by rw [List.length_append, ← HNL.out, ← HML.out]; exact o4⟩)
   have E4 := hid (KN.out _ _ _ _ (by decide) E3.out)
   have O4 := hid (own_keep19 O3.out KN.out)
   clear o4 h4
   refine hK.out _ _ ?_ (fun hHeld => ?_)
   ·exact SK.out _ E4.out
   clear hK K
   refine wpAnyH_ready (rs := [4]) (by kernel_rfl) (List.cons_ne_nil _ _) ?_
   refine AllReadyH.cons rfl (fun K hK => ?_) AllReadyH.nil
   refine step_storeL17 rfl 32 (.tmp 4) (.tmp 23) (by rfl) bx 0 (plC ⟨aq2, an2, ac2, fq2, fn2, fc2, lq2, ln2, lc2, mq2, mn2, mc2⟩ P2) (by rfl) (by rfl) (there_row17 X4.out.box (show 0 + 13 ≤ 13 by decide)) pl_info (plC_one _ _) ?_
   change K (Act.put _ none _) _
   simp only [Act.put]
   refine hK.out _ _ ?_ (fun hHeld => ?_)
   ·exact SK.out _ ((heap_setCells16 _ _ _ HB8.out _ _).trans E4.out)
   clear hK K
   refine take_op2 (i := 5) (v := ?_) rfl (by kernel_rfl) (by kernel_rfl) (by kernel_rfl) (fun _ _ _ h => h) (Or.inl ⟨wanted_plain rfl, ?_⟩) (by assumption) ?_
   rotate_left
   ·(intro w hSw; (try dsimp only at hSw); go_simp; try with_reducible rfl)
   intro act_ hact_; simp only [Act.put, List.setIfInBounds_toArray, List.set_cons_zero, List.set_cons_succ] at hact_; subst hact_
   refine wpAnyH_done (by kernel_rfl) ?_ _
   have X5 := hid (show RsAt w w.heap.size bx (V4.setCells bx 0 (plC ⟨aq2, an2, ac2, fq2, fn2, fc2, lq2, ln2, lc2, mq2, mn2, mc2⟩ P2)) ⟨aq2, an2, ac2, fq2, fn2, fc2, lq2, ln2, lc2, mq2, mn2, mc2⟩ P2 u6 (N ++ M) from ⟨below_setCells16 HBX.out _ 0 _ X4.out.bel, (heap_setCells16 _ _ _ (Nat.ne_of_lt HBL.out) _ _).trans X4.out.res, set_fresh17 X4.out.box rfl, O4.out.box X4.out.box 0 _, rows_box17 (i := 0) X4.out.box (by decide) X4.out.nts _⟩)
   generalize V4.setCells bx 0 (plC ⟨aq2, an2, ac2, fq2, fn2, fc2, lq2, ln2, lc2, mq2, mn2, mc2⟩ P2) = V5 at X5 ⊢
   go_wp2_with fail
   go_roundw
   case rel => exact ⟨k + 1, ⟨aq2, an2, ac2, fq2, fn2, fc2, lq2, ln2, lc2, mq2, mn2, mc2⟩, P2, N ++ M, by omega, by go_num, HST.out, X5⟩
   case measure => first | (simp [intOf]; done) | (simp [intOf]; omega)
  ·obtain rfl : k = n := by omega
   have k1 : ¬ (k : Int) < k := by omega
   have HFU := hid (show resR l = (P, N) by have := HR.out; rw [List.take_of_length_le (by rw [← HNL0.out]; exact Nat.le_refl _)] at this; exact this)
   have HRF := hid (show resF l = if N.any wrnB = true then PZ else P by unfold resF; rw [HFU.out])
   have HRN := hid (show (resR l).2 = N by rw [HFU.out])
   obtain ⟨qn, cn, hqn⟩ := own16 X.out.nts
   subst hqn
   have HNL2 := hid (show nN = N.length from HNL.out)
   have HFA := hid (failed_c19 qn N.length cn N V rfl (Nat.le_trans (Nat.le_trans (Nat.le_of_eq HNL.out.symm) HNN.out) (by omega)) (rows_own encN_len X.out.nts))
   have XV := hid (show RsAt w w.heap.size bx V ⟨aq1, an1, ac1, fq1, fn1, fc1, lq1, ln1, lc1, mq1, mn1, mc1⟩ P (.slice qn N.length cn) N from X.out)
   obtain ⟨z, hz⟩ : ∃ z, z = N.any wrnB := ⟨_, rfl⟩
   have HZ := hid hz
   rw [← hz] at HFA
   obtain ⟨nl, hnl⟩ : ∃ m, m = N.length := ⟨_, rfl⟩
   have HNM := hid hnl
   rw [← hnl] at HFA XV ⊢
   clear hnN HNN HR hz X HFU hnl HNL
   cases z with
   | true =>
    have HR1 := hid (show resF l = PZ by rw [HRF.out, if_pos HZ.out.symm])
    go_wp2_with (first
     | (go_at_call 13; ((with_reducible refine (HFA.out).mono ?_); rintro e W9 ⟨rfl, b9⟩); have XF := hid (XV.out.on b9); clear b9)
     | ((with_reducible show wpList _ _ _ (⟨none, .store 32 (.tmp 2) (.tmp 30), _, _, _, _⟩ :: _) _ _)
        refine wpList_store_mid rfl 32 (.tmp 2) (.tmp 30) rfl w.heap.size 0 (plC pz17 PZ).toArray (by rfl) (by rfl) (there_row17 XF.out.res (show 0 + 13 ≤ 13 by decide)) pl_info (plC_one _ _) ?_
        show wpList _ _ _ _ _ (W9.setCells w.heap.size 0 (plC pz17 PZ))
        have hl := run_loadVar_mid (P := Tryz.prog) (W9.setCells w.heap.size 0 (plC pz17 PZ)) w.heap.size 0 32 (plC pz17 PZ) _ (World.rangeAt_setCells_same W9 _ 0 _ (there_row17 XF.out.res (show 0 + 13 ≤ 13 by decide))) Tryz.underlying32 rfl pl_info
        have HB := hid (below_setCells16 (Nat.le_refl w.heap.size) (plC pz17 PZ) 0 _ XF.out.bel)
        have OZ := hid (zero_own19 w.heap.size (W9.setCells w.heap.size 0 (plC pz17 PZ)))
        have NZ := hid (rows_box17 (i := 0) XF.out.res (by decide) XF.out.nts (plC pz17 PZ))
        generalize W9.setCells w.heap.size 0 (plC pz17 PZ) = Z at hl HB OZ NZ ⊢))
    (try simp only [Exit.inBlock, Exit.then])
    refine bodyPost_ret (v := .tuple #[.agg (plC pz17 PZ).toArray, .slice qn nl cn]) (results_two15 Tryz.results9 ?_ ?_ hl) rfl ⟨pz17, _, by rw [HR1.out], by rw [HR1.out]; exact OZ.out, by rw [HRN.out]; exact NZ.out, HB.out⟩
    all_goals rfl
   | false =>
    have HR1 := hid (show resF l = P by rw [HRF.out, if_neg (by rw [← HZ.out]; exact Bool.noConfusion)])
    go_wp2_with (first
     | (go_at_call 13; ((with_reducible refine (HFA.out).mono ?_); rintro e W9 ⟨rfl, b9⟩); have XF := hid (XV.out.on b9); obtain ⟨d0, d1, d2, d3, d4, d5, d6, d7, d8, d9, d10, d11, d12⟩ := pcells17 XF.out.box; clear b9)
     | ((with_reducible show wpList _ _ _ (⟨none, .store 32 (.tmp 2) (.tmp 32), _, _, _, _⟩ :: _) _ _)
        refine wpList_store_mid rfl 32 (.tmp 2) (.tmp 32) rfl w.heap.size 0 (plC ⟨aq1, an1, ac1, fq1, fn1, fc1, lq1, ln1, lc1, mq1, mn1, mc1⟩ P).toArray (by rfl) (by rfl) (there_row17 XF.out.res (show 0 + 13 ≤ 13 by decide)) pl_info (plC_one _ _) ?_
        show wpList _ _ _ _ _ (W9.setCells w.heap.size 0 (plC ⟨aq1, an1, ac1, fq1, fn1, fc1, lq1, ln1, lc1, mq1, mn1, mc1⟩ P))
        have hl := run_loadVar_mid (P := Tryz.prog) (W9.setCells w.heap.size 0 (plC ⟨aq1, an1, ac1, fq1, fn1, fc1, lq1, ln1, lc1, mq1, mn1, mc1⟩ P)) w.heap.size 0 32 (plC ⟨aq1, an1, ac1, fq1, fn1, fc1, lq1, ln1, lc1, mq1, mn1, mc1⟩ P) _ (World.rangeAt_setCells_same W9 _ 0 _ (there_row17 XF.out.res (show 0 + 13 ≤ 13 by decide))) Tryz.underlying32 rfl pl_info
        have HB := hid (below_setCells16 (Nat.le_refl w.heap.size) (plC ⟨aq1, an1, ac1, fq1, fn1, fc1, lq1, ln1, lc1, mq1, mn1, mc1⟩ P) 0 _ XF.out.bel)
        have OZ := hid (XF.out.own.box XF.out.res 0 (plC ⟨aq1, an1, ac1, fq1, fn1, fc1, lq1, ln1, lc1, mq1, mn1, mc1⟩ P))
        have NZ := hid (rows_box17 (i := 0) XF.out.res (by decide) XF.out.nts (plC ⟨aq1, an1, ac1, fq1, fn1, fc1, lq1, ln1, lc1, mq1, mn1, mc1⟩ P))
        generalize W9.setCells w.heap.size 0 (plC ⟨aq1, an1, ac1, fq1, fn1, fc1, lq1, ln1, lc1, mq1, mn1, mc1⟩ P) = Z at hl HB OZ NZ ⊢))
    (try simp only [Exit.inBlock, Exit.then])
    refine bodyPost_ret (v := .tuple #[.agg (plC ⟨aq1, an1, ac1, fq1, fn1, fc1, lq1, ln1, lc1, mq1, mn1, mc1⟩ P).toArray, .slice qn nl cn]) (results_two15 Tryz.results9 ?_ ?_ hl) rfl ⟨⟨aq1, an1, ac1, fq1, fn1, fc1, lq1, ln1, lc1, mq1, mn1, mc1⟩, _, by rw [HR1.out], by rw [HR1.out]; exact OZ.out, by rw [HRN.out]; exact NZ.out, HB.out⟩
    all_goals rfl
end Go.Proofs.YtlenjfodjkhpmaaGreatDoor
