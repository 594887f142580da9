/- after: what a row of assignments of one key comes to. Conditions: at most four values of at most 400 bytes. -/
import Derived.Test.YtbjhleajhkofeaaDoorD2
import Derived.Test.YtbjhleajhkofeaaDoorQ9
import Derived.Deep.RegionHeld3
namespace Go.Proofs.YtbjhleajhkofeaaDoor
open Go.RowKit
set_option linter.unusedVariables false
set_option linter.unusedSimpArgs false
attribute [local go_sem ↓] Go.wp_at_zero Go.wp_at_succ

/-- What k values of one key make of the zero policy, and how much is noted. -/
def PZ18 : Pol := ⟨[], (0, []), 0, (0, []), [], 0, 0, false, false, false, false⟩
def stA18 (key : ByteArray) (r : Pol × Nat) (v : ByteArray) : Pol × Nat := ((setR (putB18 r.1.fm v) r.1 key v).1, r.2 + (setR (putB18 r.1.fm v) r.1 key v).2.length)
def runA18 (key : ByteArray) (V : List ByteArray) (k : Nat) : Pol × Nat := (V.take k).foldl (stA18 key) (PZ18, 0)
theorem runA_step {key : ByteArray} {V : List ByteArray} {k : Nat} {x : ByteArray} (h : V[k]? = some x) : runA18 key V (k + 1) = stA18 key (runA18 key V k) x := by
  unfold runA18
  rw [List.take_add_one, h, List.foldl_append]; rfl
structure RunOk18 (r : Pol × Nat) (B : Nat) : Prop where
  ok : r.1.Ok
  rs : Rises18 r.1
  fm : r.1.fm ≤ 2
  fl : r.1.fl = (0, [])
  lg : r.1.lg = (0, [])
  ar : r.1.ar.length ≤ B
  fa : r.1.fa.length ≤ B
  nt : r.2 ≤ B
theorem runOk_zero : RunOk18 (PZ18, 0) 0 := ⟨⟨by decide, by decide, by decide, by decide, by decide, by decide, by decide, fun x hx => (by cases hx), fun x hx => (by cases hx)⟩, ⟨List.Pairwise.nil, List.Pairwise.nil⟩, by decide, rfl, rfl, Nat.le_refl _, Nat.le_refl _, Nat.le_refl _⟩
theorem runOk_step {key x : ByteArray} {r : Pol × Nat} {B : Nat} (h : RunOk18 r B) (hx : x.size ≤ 400) : RunOk18 (stA18 key r x) (B + 401) := by
  obtain ⟨l1, l2, l3⟩ := setR_len (pb := putB18 r.1.fm x) (P := r.1) (k := key) (v := x)
  obtain ⟨k1, k2, _⟩ := setR_keeps (pb := putB18 r.1.fm x) (P := r.1) (k := key) (v := x)
  have := h.ar; have := h.fa; have := h.nt
  exact ⟨setR_ok h.ok, setR_rises h.rs, setR_fm h.fm, k1.trans h.fl, k2.trans h.lg, by show (setR _ _ _ _).1.ar.length ≤ _; omega, by show (setR _ _ _ _).1.fa.length ≤ _; omega, by show r.2 + (setR _ _ _ _).2.length ≤ _; omega⟩
theorem runA_ok {key : ByteArray} {V : List ByteArray} (hs : ∀ x ∈ V, x.size ≤ 400) : ∀ k, RunOk18 (runA18 key V k) (401 * k)
  | 0 => runOk_zero
  | k + 1 => by
    cases hx : V[k]? with
    | none =>
      have ht : V.take (k + 1) = V.take k := by rw [List.take_add_one, hx]; simp
      have ih := runA_ok (key := key) hs k
      unfold runA18 at *
      rw [ht]
      exact ⟨ih.ok, ih.rs, ih.fm, ih.fl, ih.lg, Nat.le_trans ih.ar (by omega), Nat.le_trans ih.fa (by omega), Nat.le_trans ih.nt (by omega)⟩
    | some x =>
      rw [runA_step hx]
      exact runOk_step (runA_ok hs k) (hs x (List.mem_of_getElem? hx))
set_option maxRecDepth 100000 in
set_option maxHeartbeats 32000000 in
theorem after_c {G : World → Prop} (HC : RestrictC G) (key : ByteArray) (u : Value) (V : List ByteArray) (w : World) (hG : G w) (hk : key.size ≤ 200) (hV : StrsAt w u V) (hn : V.length ≤ 4) (hs : ∀ x ∈ V, x.size ≤ 400) : Calls Tryd.prog 17 #[.string key, u] w fun e w' => ∃ p, e = .returned (.tuple #[plV p (runA18 key V V.length).1, .int .i64 ((runA18 key V V.length).2 : Nat)]) ∧ OwnP w.heap.size w' p (runA18 key V V.length).1 ∧ Below w.heap.size w w' := by
  obtain ⟨qu, cu, rfl, hr⟩ := hV
  have HON := Lib.hid (fun (w w' : World) => HC.on (w := w) (w' := w'))
  have HG := Lib.hid hG
  have HR := Lib.hid hr
  have HS := Lib.hid hs
  have HRO := Lib.hid (fun (k : Nat) => runA_ok (key := key) hs k)
  obtain ⟨nV, hnV⟩ : ∃ k, k = V.length := ⟨_, rfl⟩
  have HNV := Lib.hid hnV
  rw [← hnV] at hn ⊢
  obtain ⟨W, hW⟩ : ∃ W, W = (w.alloc (.cells #[.slice none 0 0, .int .u8 0, .slice none 0 0, .int .u32 0, .int .u8 0, .slice none 0 0, .slice none 0 0, .int .u8 0, .int .u64 0, .bool false, .bool false, .bool false, .bool false] 32)).alloc (.cells #[.slice none 0 0, .int .u8 0, .slice none 0 0, .int .u32 0, .int .u8 0, .slice none 0 0, .slice none 0 0, .int .u8 0, .int .u64 0, .bool false, .bool false, .bool false, .bool false] 32) := ⟨_, rfl⟩
  have sz1 : (w.alloc (.cells #[.slice none 0 0, .int .u8 0, .slice none 0 0, .int .u32 0, .int .u8 0, .slice none 0 0, .slice none 0 0, .int .u8 0, .int .u64 0, .bool false, .bool false, .bool false, .bool false] 32)).heap.size = w.heap.size + 1 := World.size_alloc _ _
  have B0 := Lib.hid (show Below w.heap.size w W from hW ▸ ((Below.refl _ _).alloc (Nat.le_refl _) _).alloc (by rw [sz1]; omega) _)
  have R0 := Lib.hid (show W.heap[w.heap.size]? = some (.cells ([.slice none 0 0, .int .u8 0, .slice none 0 0, .int .u32 0, .int .u8 0, .slice none 0 0, .slice none 0 0, .int .u8 0, .int .u64 0, .bool false, .bool false, .bool false, .bool false] : List Value).toArray 32 (0, 0)) by rw [hW]; exact ((below16 _ _).block _ (by rw [sz1]; omega)).trans (heap_alloc_new w _))
  have X0 := Lib.hid (show W.heap[(w.heap.size + 1)]? = some (.cells (plC pz17 PZ18).toArray 32 (0, 0)) by rw [hW, ← sz1]; exact heap_alloc_new _ _)
  have O0 := Lib.hid (show OwnP w.heap.size W pz17 PZ18 from ⟨rfl, rfl, rfl, rfl, World.ownsRow_nil _ _ _ _, World.ownsRow_nil _ _ _ _, World.ownsRow_nil _ _ _ _, World.ownsRow_nil _ _ _ _⟩)
  clear hr hnV hs hG sz1
  go_enter Tryd.func17, Tryd.ntmps17
  go_wp2_with fail
  rw [← hW]
  clear hW
  go_loopw [7, 8] (fun v7 v8 wr => ∃ (k : Nat) (q : Pls), k ≤ nV ∧ v7 = .int .i64 ((runA18 key V k).2 : Nat) ∧ v8 = .int .i64 k ∧ Hid (Below w.heap.size w wr) ∧ Hid (wr.heap[w.heap.size]? = some (.cells ([.slice none 0 0, .int .u8 0, .slice none 0 0, .int .u32 0, .int .u8 0, .slice none 0 0, .slice none 0 0, .int .u8 0, .int .u64 0, .bool false, .bool false, .bool false, .bool false] : List Value).toArray 32 (0, 0))) ∧ Hid (wr.heap[(w.heap.size + 1)]? = some (.cells (plC q (runA18 key V k).1).toArray 32 (0, 0))) ∧ Hid (OwnP w.heap.size wr q (runA18 key V k).1)) (fun _ v8 _ => nV - (intOf v8).toNat)
  case atStart => exact ⟨0, pz17, Nat.zero_le _, rfl, rfl, B0, R0, X0, O0⟩
  case round =>
    clear B0 R0 X0 O0
    obtain ⟨k, q, hk2, rfl, rfl, BR, RR, PR, OR_⟩ := hrel
    obtain ⟨V0, rfl⟩ : ∃ wo : World, wo = wr := ⟨_, rfl⟩
    by_cases hlt : k < nV
    · have hx : V[k]? = some (V[k]'(by rw [← HNV.out]; exact hlt)) := List.getElem?_eq_getElem _
      obtain ⟨x, hxe⟩ : ∃ e, e = V[k]'(by rw [← HNV.out]; exact hlt) := ⟨_, rfl⟩
      rw [← hxe] at hx
      have hxs := HS.out x (List.mem_of_getElem? hx)
      obtain ⟨ga, oa, rfl, hcx⟩ := HR.out k x hx
      have hga := World.block_lt_of_cell? w _ hcx
      have cxa := (BR.out.cell hga).trans hcx
      have k1 : (k : Int) < nV := by omega
      have k0 : (0 : Int) ≤ k := by omega
      have hw1 : IntKind.i64.wrap ((k : Int) + 1) = k + 1 := by rw [IntKind.wrap_i64]; omega
      have hok := HRO.out k
      obtain ⟨P, hP⟩ : ∃ P, P = (runA18 key V k).1 := ⟨_, rfl⟩
      obtain ⟨cn, hcn⟩ : ∃ n, n = (runA18 key V k).2 := ⟨_, rfl⟩
      obtain ⟨P', hP'⟩ : ∃ Q, Q = (setR (putB18 P.fm x) P key x).1 := ⟨_, rfl⟩
      obtain ⟨NN, hNN⟩ : ∃ N, N = (setR (putB18 P.fm x) P key x).2.map (nteP ⟨⟨#[102]⟩, (k : Int) + 1, ⟨#[83, 101, 114, 118, 105, 99, 101]⟩, key, x⟩) := ⟨_, rfl⟩
      obtain ⟨nM, hnM⟩ : ∃ n, n = NN.length := ⟨_, rfl⟩
      have HNM := Lib.hid hnM.symm
      have HR1 := Lib.hid (show (runA18 key V (k + 1)).1 = P' by rw [runA_step hx, hP', hP]; rfl)
      have HR2 := Lib.hid (show (runA18 key V (k + 1)).2 = cn + nM by rw [runA_step hx, hcn, hnM, hNN, List.length_map, hP]; rfl)
      have o1 := hok.ok
      have o2 := hok.rs
      have o3 := hok.fm
      have o4 := hok.ar
      have o5 := hok.fa
      have o6 := hok.fl
      have o7 := hok.lg
      have o8 := hok.nt
      rw [← hP] at o1 o2 o3 o4 o5 o6 o7 PR OR_
      rw [← hcn] at o8 ⊢
      have hnm : nM ≤ 401 := by rw [hnM, hNN, List.length_map]; exact Nat.le_trans setR_len.2.2 (by omega)
      have HST9 := Lib.hid (fun (X : World) (g : G X) (q : Pls) (h : PolAt X q P) => (show Calls Tryd.prog 12 #[.agg #[.slice q.aq q.an q.ac, .int .u8 (P.fl.1 : Nat), .slice q.fq q.fn q.fc, .int .u32 (P.dn : Nat), .int .u8 (P.lg.1 : Nat), .slice q.lq q.ln q.lc, .slice q.mq q.mn q.mc, .int .u8 (P.fm : Nat), .int .u64 (P.sp : Nat), .bool P.b1, .bool P.b2, .bool P.b3, .bool P.b4], .agg #[.string ⟨#[102]⟩, .int .i64 ((k : Int) + 1), .string ⟨#[83, 101, 114, 118, 105, 99, 101]⟩, .string key, .string x]] X fun e w' => ∃ p' u, e = .returned (.tuple #[plV p' P', u]) ∧ OwnP X.heap.size w' p' P' ∧ w'.ownsRow X.heap.size 43 4 u NN.length (rowC encN NN) ∧ Below X.heap.size X w' from
        (HC.set q P ⟨⟨#[102]⟩, (k : Int) + 1, ⟨#[83, 101, 114, 118, 105, 99, 101]⟩, key, x⟩ X g o1 h o2 (by rw [h.al]; omega) (by rw [h.ml]; omega) (by rw [h.fl, o6]; exact Nat.zero_le _) (by rw [h.ll, o7]; exact Nat.zero_le _) (by show x.size ≤ 1000; omega) hk).mono fun e w' ⟨pb, p', v, hpb, h1, h2, h3, h4⟩ => by
          have e1 := hpb o3
          subst e1
          rw [hP', hNN]
          exact ⟨p', v, h1, h2, h3, h4⟩))
      have HBX9 := PR
      have HPA9 := Lib.hid OR_.out.pol
      have BV9 := BR
      have CXA := Lib.hid cxa
      clear hx hxe hxs hcx hok hP hcn hP' hNN hnM o1 o2 o3 o4 o5 o6 o7 hga
      go_wp2_with fail
      have SK := Lib.hid (fun (Y : World) (b : Below V0.heap.size V0 Y) => (show (fun w' => w'.cell? ⟨(w.heap.size + 1), 0, none⟩ = some (.slice q.aq q.an q.ac) ∧ w'.cell? ⟨(w.heap.size + 1), 1, none⟩ = some (.int .u8 (P.fl.1 : Nat)) ∧ w'.cell? ⟨(w.heap.size + 1), 2, none⟩ = some (.slice q.fq q.fn q.fc) ∧ w'.cell? ⟨(w.heap.size + 1), 3, none⟩ = some (.int .u32 (P.dn : Nat)) ∧ w'.cell? ⟨(w.heap.size + 1), 4, none⟩ = some (.int .u8 (P.lg.1 : Nat)) ∧ w'.cell? ⟨(w.heap.size + 1), 5, none⟩ = some (.slice q.lq q.ln q.lc) ∧ w'.cell? ⟨(w.heap.size + 1), 6, none⟩ = some (.slice q.mq q.mn q.mc) ∧ w'.cell? ⟨(w.heap.size + 1), 7, none⟩ = some (.int .u8 (P.fm : Nat)) ∧ w'.cell? ⟨(w.heap.size + 1), 8, none⟩ = some (.int .u64 (P.sp : Nat)) ∧ w'.cell? ⟨(w.heap.size + 1), 9, none⟩ = some (.bool P.b1) ∧ w'.cell? ⟨(w.heap.size + 1), 10, none⟩ = some (.bool P.b2) ∧ w'.cell? ⟨(w.heap.size + 1), 11, none⟩ = some (.bool P.b3) ∧ w'.cell? ⟨(w.heap.size + 1), 12, none⟩ = some (.bool P.b4) ∧ w'.cell? ⟨ga, oa + k, none⟩ = some (.string x)) Y from have hh := pcells17 (blk_on HBX9.out b); ⟨hh.1, hh.2.1, hh.2.2.1, hh.2.2.2.1, hh.2.2.2.2.1, hh.2.2.2.2.2.1, hh.2.2.2.2.2.2.1, hh.2.2.2.2.2.2.2.1, hh.2.2.2.2.2.2.2.2.1, hh.2.2.2.2.2.2.2.2.2.1, hh.2.2.2.2.2.2.2.2.2.2.1, hh.2.2.2.2.2.2.2.2.2.2.2.1, hh.2.2.2.2.2.2.2.2.2.2.2.2, (b.cell (World.block_lt_of_cell? _ _ CXA.out)).trans CXA.out⟩))
      refine key17 (F := F18 V0 P' NN) (R := ?R9) ?h19 ?h29
      case h19 =>
        intro KEY
        refine wp_region_held_drew (S := (fun w' => w'.cell? ⟨(w.heap.size + 1), 0, none⟩ = some (.slice q.aq q.an q.ac) ∧ w'.cell? ⟨(w.heap.size + 1), 1, none⟩ = some (.int .u8 (P.fl.1 : Nat)) ∧ w'.cell? ⟨(w.heap.size + 1), 2, none⟩ = some (.slice q.fq q.fn q.fc) ∧ w'.cell? ⟨(w.heap.size + 1), 3, none⟩ = some (.int .u32 (P.dn : Nat)) ∧ w'.cell? ⟨(w.heap.size + 1), 4, none⟩ = some (.int .u8 (P.lg.1 : Nat)) ∧ w'.cell? ⟨(w.heap.size + 1), 5, none⟩ = some (.slice q.lq q.ln q.lc) ∧ w'.cell? ⟨(w.heap.size + 1), 6, none⟩ = some (.slice q.mq q.mn q.mc) ∧ w'.cell? ⟨(w.heap.size + 1), 7, none⟩ = some (.int .u8 (P.fm : Nat)) ∧ w'.cell? ⟨(w.heap.size + 1), 8, none⟩ = some (.int .u64 (P.sp : Nat)) ∧ w'.cell? ⟨(w.heap.size + 1), 9, none⟩ = some (.bool P.b1) ∧ w'.cell? ⟨(w.heap.size + 1), 10, none⟩ = some (.bool P.b2) ∧ w'.cell? ⟨(w.heap.size + 1), 11, none⟩ = some (.bool P.b3) ∧ w'.cell? ⟨(w.heap.size + 1), 12, none⟩ = some (.bool P.b4) ∧ w'.cell? ⟨ga, oa + k, none⟩ = some (.string x))) (by kernel_rfl) ?_ (fun hHeld => ?_)
        · exact SK.out _ (Below.refl _ _).drew
        obtain ⟨Y0, hY0⟩ : ∃ Y, Y = V0.drew := ⟨_, rfl⟩
        have B := Lib.hid (show Below V0.heap.size V0 Y0 from hY0 ▸ (Below.refl _ _).drew)
        rw [← hY0] at hHeld ⊢
        clear hY0
        refine take_op2 (i := 0) (v := ?_) rfl (by kernel_rfl) (by kernel_rfl) (by kernel_rfl) (fun _ _ _ h => h) (Or.inl ⟨wanted_plain rfl, ?_⟩) (by assumption) ?_
        rotate_left
        · (intro w hSw; (try dsimp only at hSw); go_simp; try with_reducible rfl)
        intro act_ hact_; simp only [Act.put, List.setIfInBounds_toArray, List.set_cons_zero, List.set_cons_succ] at hact_; subst hact_
        refine take_op2 (i := 1) (v := ?_) rfl (by kernel_rfl) (by kernel_rfl) (by kernel_rfl) (fun _ _ _ h => h) (Or.inl ⟨wanted_plain rfl, ?_⟩) (by assumption) ?_
        rotate_left
        · (intro w hSw; (try dsimp only at hSw); go_simp; try with_reducible rfl)
        intro act_ hact_; simp only [Act.put, List.setIfInBounds_toArray, List.set_cons_zero, List.set_cons_succ] at hact_; subst hact_
        refine take_op2 (i := 2) (v := ?_) rfl (by kernel_rfl) (by kernel_rfl) (by kernel_rfl) (fun _ _ _ h => h) (Or.inl ⟨wanted_plain rfl, ?_⟩) (by assumption) ?_
        rotate_left
        · (intro w hSw; (try dsimp only at hSw); go_simp; try with_reducible rfl)
        intro act_ hact_; simp only [Act.put, List.setIfInBounds_toArray, List.set_cons_zero, List.set_cons_succ] at hact_; subst hact_
        refine take_op2 (i := 3) (v := ?_) rfl (by kernel_rfl) (by kernel_rfl) (by kernel_rfl) (fun _ _ _ h => h) (Or.inl ⟨wanted_plain rfl, ?_⟩) (by assumption) ?_
        rotate_left
        · (intro w hSw; (try dsimp only at hSw); go_simp; try with_reducible rfl)
        intro act_ hact_; simp only [Act.put, List.setIfInBounds_toArray, List.set_cons_zero, List.set_cons_succ] at hact_; subst hact_
        refine take_op2 (i := 4) (v := ?_) rfl (by kernel_rfl) (by kernel_rfl) (by kernel_rfl) (fun _ _ _ h => h) (Or.inl ⟨wanted_plain rfl, ?_⟩) (by assumption) ?_
        rotate_left
        · (intro w hSw; (try dsimp only at hSw); go_simp; try with_reducible rfl)
        intro act_ hact_; simp only [Act.put, List.setIfInBounds_toArray, List.set_cons_zero, List.set_cons_succ] at hact_; subst hact_
        refine take_op2 (i := 5) (v := ?_) rfl (by kernel_rfl) (by kernel_rfl) (by kernel_rfl) (fun _ _ _ h => h) (Or.inl ⟨wanted_plain rfl, ?_⟩) (by assumption) ?_
        rotate_left
        · (intro w hSw; (try dsimp only at hSw); go_simp; try with_reducible rfl)
        intro act_ hact_; simp only [Act.put, List.setIfInBounds_toArray, List.set_cons_zero, List.set_cons_succ] at hact_; subst hact_
        refine take_op2 (i := 6) (v := ?_) rfl (by kernel_rfl) (by kernel_rfl) (by kernel_rfl) (fun _ _ _ h => h) (Or.inl ⟨wanted_plain rfl, ?_⟩) (by assumption) ?_
        rotate_left
        · (intro w hSw; (try dsimp only at hSw); go_simp; try with_reducible rfl)
        intro act_ hact_; simp only [Act.put, List.setIfInBounds_toArray, List.set_cons_zero, List.set_cons_succ] at hact_; subst hact_
        refine take_op2 (i := 7) (v := ?_) rfl (by kernel_rfl) (by kernel_rfl) (by kernel_rfl) (fun _ _ _ h => h) (Or.inl ⟨wanted_plain rfl, ?_⟩) (by assumption) ?_
        rotate_left
        · (intro w hSw; (try dsimp only at hSw); go_simp; try with_reducible rfl)
        intro act_ hact_; simp only [Act.put, List.setIfInBounds_toArray, List.set_cons_zero, List.set_cons_succ] at hact_; subst hact_
        refine take_op2 (i := 8) (v := ?_) rfl (by kernel_rfl) (by kernel_rfl) (by kernel_rfl) (fun _ _ _ h => h) (Or.inl ⟨wanted_plain rfl, ?_⟩) (by assumption) ?_
        rotate_left
        · (intro w hSw; (try dsimp only at hSw); go_simp; try with_reducible rfl)
        intro act_ hact_; simp only [Act.put, List.setIfInBounds_toArray, List.set_cons_zero, List.set_cons_succ] at hact_; subst hact_
        refine wpAnyH_ready (rs := [9, 13]) (by kernel_rfl) (List.cons_ne_nil _ _) ?_
        refine AllReadyH.cons rfl (fun K hK => ?_) ?_
        · go_simp
          go_wp2_with (go_at_call 12; ((with_reducible refine (HST9.out Y0 (HON.out _ _ HG.out (thn16 BV9.out B.out)) q (HPA9.out.on B.out)).mono ?_); rintro e Y1 ⟨p3, u3, rfl, own3, r3, b⟩))
          have OW1 := Lib.hid (own_low17 own3 B.out.size)
          have RN1 := Lib.hid (owns_low16 r3 B.out.size)
          have B := Lib.hid (thn16 B.out b)
          have OW := OW1
          have RN := RN1
          clear own3 r3 b OW1 RN1
          refine hK.out _ _ ?_ (fun hHeld2 => ?_)
          · exact SK.out _ B.out
          clear hK K
          have hHeld := hHeld2
          clear hHeld2
          refine take_op2 (i := 10) (v := ?_) rfl (by kernel_rfl) (by kernel_rfl) (by kernel_rfl) (fun _ _ _ h => h) (Or.inl ⟨wanted_plain rfl, ?_⟩) (by assumption) ?_
          rotate_left
          · (intro w hSw; (try dsimp only at hSw); go_simp; try with_reducible rfl)
          intro act_ hact_; simp only [Act.put, List.setIfInBounds_toArray, List.set_cons_zero, List.set_cons_succ] at hact_; subst hact_
          refine take_op2 (i := 11) (v := ?_) rfl (by kernel_rfl) (by kernel_rfl) (by kernel_rfl) (fun _ _ _ h => h) (Or.inl ⟨wanted_plain rfl, ?_⟩) (by assumption) ?_
          rotate_left
          · (intro w hSw; (try dsimp only at hSw); go_simp; try with_reducible rfl)
          intro act_ hact_; simp only [Act.put, List.setIfInBounds_toArray, List.set_cons_zero, List.set_cons_succ] at hact_; subst hact_
          refine take_op2 (i := 12) (v := ?_) rfl (by kernel_rfl) (by kernel_rfl) (by kernel_rfl) (fun _ _ _ h => h) (Or.inl ⟨wanted_plain rfl, ?_⟩) (by assumption) ?_
          rotate_left
          · (intro w hSw; (try dsimp only at hSw); go_simp; try with_reducible rfl)
          intro act_ hact_; simp only [Act.put, List.setIfInBounds_toArray, List.set_cons_zero, List.set_cons_succ] at hact_; subst hact_
          refine wpAnyH_ready (rs := [13]) (by kernel_rfl) (List.cons_ne_nil _ _) ?_
          refine AllReadyH.cons rfl (fun K hK => ?_) AllReadyH.nil
          go_simp
          refine hK.out _ _ ?_ (fun hHeld2 => ?_)
          · exact SK.out _ (B.out.alloc B.out.size _)
          clear hK K
          obtain ⟨Y2, hN⟩ : ∃ X, X = World.alloc Y1 (.cells #[.slice none 0 0, .int .u8 0, .slice none 0 0, .int .u32 0, .int .u8 0, .slice none 0 0, .slice none 0 0, .int .u8 0, .int .u64 0, .bool false, .bool false, .bool false, .bool false] 32) := ⟨_, rfl⟩
          have b : Below Y1.heap.size Y1 Y2 := hN ▸ below16 Y1 (.cells #[.slice none 0 0, .int .u8 0, .slice none 0 0, .int .u32 0, .int .u8 0, .slice none 0 0, .slice none 0 0, .int .u8 0, .int .u64 0, .bool false, .bool false, .bool false, .bool false] 32)
          have ZA := Lib.hid (show Y2.heap[Y1.heap.size]? = some (.cells ([.slice none 0 0, .int .u8 0, .slice none 0 0, .int .u32 0, .int .u8 0, .slice none 0 0, .slice none 0 0, .int .u8 0, .int .u64 0, .bool false, .bool false, .bool false, .bool false] : List Value).toArray 32 (0, 0)) from hN ▸ heap_alloc_new Y1 _)
          have GA := Lib.hid (show V0.heap.size ≤ Y1.heap.size from B.out.size)
          rw [← hN] at hHeld2 ⊢
          have B := Lib.hid (thn16 B.out b)
          have OW := Lib.hid (OW.out.on b)
          have RN := Lib.hid (owns_on16 RN.out b)
          obtain ⟨gA, hg⟩ : ∃ g, g = Y1.heap.size := ⟨_, rfl⟩
          rw [← hg] at ZA GA ⊢
          clear b hN hg
          have hHeld := hHeld2
          clear hHeld2
          refine wpAnyH_ready (rs := [14]) (by kernel_rfl) (List.cons_ne_nil _ _) ?_
          refine AllReadyH.cons rfl (fun K hK => ?_) AllReadyH.nil
          refine step_storeL17 rfl 32 (.tmp 9) (.tmp 29) (by rfl) gA 0 (plC p3 P') (by rfl) (by rfl) (there_row17 ZA.out (show 0 + 13 ≤ 13 by decide)) pl_info (plC_one _ _) ?_
          change K (Act.put _ none _) _
          simp only [Act.put]
          refine hK.out _ _ ?_ (fun hHeld2 => ?_)
          · exact SK.out _ (below_setCells16 GA.out (plC p3 P') 0 _ B.out)
          clear hK K
          have hHeld := hHeld2
          clear hHeld2
          refine take_op2 (i := 15) (v := ?_) rfl (by kernel_rfl) (by kernel_rfl) (by kernel_rfl) (fun _ _ _ h => h) (Or.inl ⟨wanted_plain rfl, ?_⟩) (by assumption) ?_
          rotate_left
          · (intro w hSw; (try dsimp only at hSw); go_simp; try with_reducible rfl)
          intro act_ hact_; simp only [Act.put, List.setIfInBounds_toArray, List.set_cons_zero, List.set_cons_succ] at hact_; subst hact_
          refine wpAnyH_done (by kernel_rfl) ?_ _
          have FIN := Lib.hid (fin18 B.out GA.out ZA.out rfl OW.out RN.out)
          generalize Y2.setCells gA 0 (plC p3 P') = Z at FIN ⊢
          exact KEY Z gA p3 u3 FIN.out
        refine AllReadyH.cons rfl (fun K hK => ?_) ?_
        · go_simp
          refine hK.out _ _ ?_ (fun hHeld2 => ?_)
          · exact SK.out _ (B.out.alloc B.out.size _)
          clear hK K
          obtain ⟨Y1, hN⟩ : ∃ X, X = World.alloc Y0 (.cells #[.slice none 0 0, .int .u8 0, .slice none 0 0, .int .u32 0, .int .u8 0, .slice none 0 0, .slice none 0 0, .int .u8 0, .int .u64 0, .bool false, .bool false, .bool false, .bool false] 32) := ⟨_, rfl⟩
          have b : Below Y0.heap.size Y0 Y1 := hN ▸ below16 Y0 (.cells #[.slice none 0 0, .int .u8 0, .slice none 0 0, .int .u32 0, .int .u8 0, .slice none 0 0, .slice none 0 0, .int .u8 0, .int .u64 0, .bool false, .bool false, .bool false, .bool false] 32)
          have ZA := Lib.hid (show Y1.heap[Y0.heap.size]? = some (.cells ([.slice none 0 0, .int .u8 0, .slice none 0 0, .int .u32 0, .int .u8 0, .slice none 0 0, .slice none 0 0, .int .u8 0, .int .u64 0, .bool false, .bool false, .bool false, .bool false] : List Value).toArray 32 (0, 0)) from hN ▸ heap_alloc_new Y0 _)
          have GA := Lib.hid (show V0.heap.size ≤ Y0.heap.size from B.out.size)
          rw [← hN] at hHeld2 ⊢
          have B := Lib.hid (thn16 B.out b)
          obtain ⟨gA, hg⟩ : ∃ g, g = Y0.heap.size := ⟨_, rfl⟩
          rw [← hg] at ZA GA ⊢
          clear b hN hg
          have hHeld := hHeld2
          clear hHeld2
          refine wpAnyH_ready (rs := [9]) (by kernel_rfl) (List.cons_ne_nil _ _) ?_
          refine AllReadyH.cons rfl (fun K hK => ?_) AllReadyH.nil
          go_simp
          go_wp2_with (go_at_call 12; ((with_reducible refine (HST9.out Y1 (HON.out _ _ HG.out (thn16 BV9.out B.out)) q (HPA9.out.on B.out)).mono ?_); rintro e Y2 ⟨p3, u3, rfl, own3, r3, b⟩))
          have OW1 := Lib.hid (own_low17 own3 B.out.size)
          have RN1 := Lib.hid (owns_low16 r3 B.out.size)
          have B := Lib.hid (thn16 B.out b)
          have ZA := Lib.hid (blk_on ZA.out b)
          have OW := OW1
          have RN := RN1
          clear own3 r3 b OW1 RN1
          refine hK.out _ _ ?_ (fun hHeld2 => ?_)
          · exact SK.out _ B.out
          clear hK K
          have hHeld := hHeld2
          clear hHeld2
          refine take_op2 (i := 10) (v := ?_) rfl (by kernel_rfl) (by kernel_rfl) (by kernel_rfl) (fun _ _ _ h => h) (Or.inl ⟨wanted_plain rfl, ?_⟩) (by assumption) ?_
          rotate_left
          · (intro w hSw; (try dsimp only at hSw); go_simp; try with_reducible rfl)
          intro act_ hact_; simp only [Act.put, List.setIfInBounds_toArray, List.set_cons_zero, List.set_cons_succ] at hact_; subst hact_
          refine take_op2 (i := 11) (v := ?_) rfl (by kernel_rfl) (by kernel_rfl) (by kernel_rfl) (fun _ _ _ h => h) (Or.inl ⟨wanted_plain rfl, ?_⟩) (by assumption) ?_
          rotate_left
          · (intro w hSw; (try dsimp only at hSw); go_simp; try with_reducible rfl)
          intro act_ hact_; simp only [Act.put, List.setIfInBounds_toArray, List.set_cons_zero, List.set_cons_succ] at hact_; subst hact_
          refine take_op2 (i := 12) (v := ?_) rfl (by kernel_rfl) (by kernel_rfl) (by kernel_rfl) (fun _ _ _ h => h) (Or.inl ⟨wanted_plain rfl, ?_⟩) (by assumption) ?_
          rotate_left
          · (intro w hSw; (try dsimp only at hSw); go_simp; try with_reducible rfl)
          intro act_ hact_; simp only [Act.put, List.setIfInBounds_toArray, List.set_cons_zero, List.set_cons_succ] at hact_; subst hact_
          refine wpAnyH_ready (rs := [14]) (by kernel_rfl) (List.cons_ne_nil _ _) ?_
          refine AllReadyH.cons rfl (fun K hK => ?_) AllReadyH.nil
          refine step_storeL17 rfl 32 (.tmp 9) (.tmp 29) (by rfl) gA 0 (plC p3 P') (by rfl) (by rfl) (there_row17 ZA.out (show 0 + 13 ≤ 13 by decide)) pl_info (plC_one _ _) ?_
          change K (Act.put _ none _) _
          simp only [Act.put]
          refine hK.out _ _ ?_ (fun hHeld2 => ?_)
          · exact SK.out _ (below_setCells16 GA.out (plC p3 P') 0 _ B.out)
          clear hK K
          have hHeld := hHeld2
          clear hHeld2
          refine take_op2 (i := 15) (v := ?_) rfl (by kernel_rfl) (by kernel_rfl) (by kernel_rfl) (fun _ _ _ h => h) (Or.inl ⟨wanted_plain rfl, ?_⟩) (by assumption) ?_
          rotate_left
          · (intro w hSw; (try dsimp only at hSw); go_simp; try with_reducible rfl)
          intro act_ hact_; simp only [Act.put, List.setIfInBounds_toArray, List.set_cons_zero, List.set_cons_succ] at hact_; subst hact_
          refine wpAnyH_done (by kernel_rfl) ?_ _
          have FIN := Lib.hid (fin18 B.out GA.out ZA.out rfl OW.out RN.out)
          generalize Y2.setCells gA 0 (plC p3 P') = Z at FIN ⊢
          exact KEY Z gA p3 u3 FIN.out
        exact AllReadyH.nil
      case h29 =>
        intro X9 g9 p9 u9n hF
        obtain ⟨bF, gF, xF, oF, rF⟩ := hF
        obtain ⟨qu, cu, hu⟩ := own_form16 rF
        rw [HNM.out] at hu
        subst hu
        have BX9 := Lib.hid (thn16 BR.out bF)
        have PX9 := Lib.hid (blk_on PR.out bF)
        have RX9 := Lib.hid (blk_on RR.out bF)
        have OF9 := Lib.hid (own_low17 oF BR.out.size)
        obtain ⟨f0, f1, f2, f3, f4, f5, f6, f7, f8, f9, f10, f11, f12⟩ := (show X9.cell? ⟨g9, 0, none⟩ = some (.slice p9.aq p9.an p9.ac) ∧ X9.cell? ⟨g9, 1, none⟩ = some (.int .u8 (P'.fl.1 : Nat)) ∧ X9.cell? ⟨g9, 2, none⟩ = some (.slice p9.fq p9.fn p9.fc) ∧ X9.cell? ⟨g9, 3, none⟩ = some (.int .u32 (P'.dn : Nat)) ∧ X9.cell? ⟨g9, 4, none⟩ = some (.int .u8 (P'.lg.1 : Nat)) ∧ X9.cell? ⟨g9, 5, none⟩ = some (.slice p9.lq p9.ln p9.lc) ∧ X9.cell? ⟨g9, 6, none⟩ = some (.slice p9.mq p9.mn p9.mc) ∧ X9.cell? ⟨g9, 7, none⟩ = some (.int .u8 (P'.fm : Nat)) ∧ X9.cell? ⟨g9, 8, none⟩ = some (.int .u64 (P'.sp : Nat)) ∧ X9.cell? ⟨g9, 9, none⟩ = some (.bool P'.b1) ∧ X9.cell? ⟨g9, 10, none⟩ = some (.bool P'.b2) ∧ X9.cell? ⟨g9, 11, none⟩ = some (.bool P'.b3) ∧ X9.cell? ⟨g9, 12, none⟩ = some (.bool P'.b4) from pcells17 xF)
        clear bF gF xF oF rF cxa
        go_wp2_with (first
          | ((with_reducible show wpList _ _ _ (⟨none, .store 32 (.tmp 6) (.tmp 31), _, _, _, _⟩ :: _) _ _)
             refine wpList_store_mid rfl 32 (.tmp 6) (.tmp 31) rfl (w.heap.size + 1) 0 (plC p9 P').toArray (by rfl) (by rfl) (there_row17 PX9.out (show 0 + 13 ≤ 13 by decide)) pl_info (plC_one _ _) ?_
             show wpList _ _ _ _ _ (X9.setCells (w.heap.size + 1) 0 (plC p9 P'))
             have PY := Lib.hid (set_fresh17 (p := p9) (P := P') PX9.out rfl)
             have OY := Lib.hid (own_box17 OF9.out PX9.out 0 (plC p9 P'))
             have RY := Lib.hid ((heap_setCells16 X9 (w.heap.size + 1) w.heap.size (by show w.heap.size ≠ w.heap.size + 1; omega) (plC p9 P') 0).trans RX9.out)
             have BY := Lib.hid (below_setCells16 (show w.heap.size ≤ w.heap.size + 1 by omega) (plC p9 P') 0 _ BX9.out)
             generalize X9.setCells (w.heap.size + 1) 0 (plC p9 P') = Y1 at PY OY RY BY ⊢))
        go_roundw
        case rel => exact ⟨k + 1, p9, by omega, by rw [HR2.out]; go_num, by go_num, BY, RY, by rw [HR1.out]; exact PY, by rw [HR1.out]; exact OY⟩
        case measure => first | (simp [intOf]; done) | (simp [intOf]; omega)
    · obtain rfl : nV = k := by omega
      have kk : ¬ (nV : Int) < nV := by omega
      obtain ⟨f0, f1, f2, f3, f4, f5, f6, f7, f8, f9, f10, f11, f12⟩ := (show V0.cell? ⟨(w.heap.size + 1), 0, none⟩ = some (.slice q.aq q.an q.ac) ∧ V0.cell? ⟨(w.heap.size + 1), 1, none⟩ = some (.int .u8 ((runA18 key V nV).1.fl.1 : Nat)) ∧ V0.cell? ⟨(w.heap.size + 1), 2, none⟩ = some (.slice q.fq q.fn q.fc) ∧ V0.cell? ⟨(w.heap.size + 1), 3, none⟩ = some (.int .u32 ((runA18 key V nV).1.dn : Nat)) ∧ V0.cell? ⟨(w.heap.size + 1), 4, none⟩ = some (.int .u8 ((runA18 key V nV).1.lg.1 : Nat)) ∧ V0.cell? ⟨(w.heap.size + 1), 5, none⟩ = some (.slice q.lq q.ln q.lc) ∧ V0.cell? ⟨(w.heap.size + 1), 6, none⟩ = some (.slice q.mq q.mn q.mc) ∧ V0.cell? ⟨(w.heap.size + 1), 7, none⟩ = some (.int .u8 ((runA18 key V nV).1.fm : Nat)) ∧ V0.cell? ⟨(w.heap.size + 1), 8, none⟩ = some (.int .u64 ((runA18 key V nV).1.sp : Nat)) ∧ V0.cell? ⟨(w.heap.size + 1), 9, none⟩ = some (.bool (runA18 key V nV).1.b1) ∧ V0.cell? ⟨(w.heap.size + 1), 10, none⟩ = some (.bool (runA18 key V nV).1.b2) ∧ V0.cell? ⟨(w.heap.size + 1), 11, none⟩ = some (.bool (runA18 key V nV).1.b3) ∧ V0.cell? ⟨(w.heap.size + 1), 12, none⟩ = some (.bool (runA18 key V nV).1.b4) from pcells17 PR.out)
      go_wp2_with (first
        | ((with_reducible show wpList _ _ _ (⟨none, .store 32 (.tmp 4) (.tmp 36), _, _, _, _⟩ :: _) _ _)
           refine wpList_store_mid rfl 32 (.tmp 4) (.tmp 36) rfl w.heap.size 0 (plC q (runA18 key V nV).1).toArray (by rfl) (by rfl) (there_row17 RR.out (show 0 + 13 ≤ 13 by decide)) pl_info (plC_one _ _) ?_
           show wpList _ _ _ _ _ (V0.setCells w.heap.size 0 (plC q (runA18 key V nV).1))
           have hl := run_loadVar_mid (P := Tryd.prog) (V0.setCells w.heap.size 0 (plC q (runA18 key V nV).1)) w.heap.size 0 32 (plC q (runA18 key V nV).1) _ (World.rangeAt_setCells_same V0 _ 0 _ (there_row17 RR.out (show 0 + 13 ≤ 13 by decide))) Tryd.underlying32 rfl pl_info
           have HB := Lib.hid (below_setCells16 (Nat.le_refl w.heap.size) (plC q (runA18 key V nV).1) 0 _ BR.out)
           have OZ := Lib.hid (own_box17 OR_.out RR.out 0 (plC q (runA18 key V nV).1))
           generalize V0.setCells w.heap.size 0 (plC q (runA18 key V nV).1) = Z at hl HB OZ ⊢))
      (try simp only [Exit.inBlock, Exit.then])
      refine bodyPost_ret (v := .tuple #[.agg (plC q (runA18 key V nV).1).toArray, .int .i64 ((runA18 key V nV).2 : Nat)]) (results_two15 Tryd.results17 ?_ ?_ hl) rfl ⟨q, rfl, OZ.out, HB.out⟩
      all_goals rfl
end Go.Proofs.YtbjhleajhkofeaaDoor
