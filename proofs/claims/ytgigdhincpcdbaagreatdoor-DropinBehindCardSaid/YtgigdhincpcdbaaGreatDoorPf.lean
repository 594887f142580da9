/- What the document's own Merge returns. Condition: files that lie in memory, at most 1,000,000 bytes each. -/
import Derived.Test.YtgigdhincpcdbaaGreatDoorPc
import Derived.Test.YtgigdhincpcdbaaGreatDoorYe
namespace Go.Proofs.YtgigdhincpcdbaaGreatDoor
open Go.RowKit
set_option linter.unusedVariables false
set_option linter.unusedSimpArgs false
attribute [local go_sem ↓] Go.wp_at_zero Go.wp_at_succ

theorem getD_memF {l : List Fle} {k : Nat} (h : k < l.length) : l.getD k f0 ∈ l := by
  rw [List.getD_eq_getElem?_getD, List.getElem?_eq_getElem h]
  exact List.getElem_mem h
theorem swpF_mem {l : List Fle} {k : Nat} (h : k + 1 < l.length) {f : Fle} (hf : f ∈ swpF l k) : f ∈ l := by
  unfold swpF at hf
  rcases List.mem_or_eq_of_mem_set hf with h1 | h1
  · rcases List.mem_or_eq_of_mem_set h1 with h2 | h2
    · exact h2
    · rw [h2]; exact getD_memF (by omega)
  · rw [h1]; exact getD_memF h
theorem bubF_mem : ∀ (k : Nat) {l : List Fle} (h : k < l.length) {f : Fle} (hf : f ∈ bubF k l), f ∈ l
  | 0, _, _, _, hf => hf
  | 1, _, _, _, hf => hf
  | k + 2, l, h, f, hf => by
    unfold bubF at hf
    split at hf
    · exact swpF_mem h (bubF_mem (k + 1) (by rw [swpF_length]; omega) hf)
    · exact hf
theorem ordF_mem {m : Fle} {D : List Fle} : ∀ {i : Nat} (hi : i ≤ D.length) {f : Fle} (hf : f ∈ ordF m D i), f ∈ m :: D
  | 0, _, f, hf => by
    rw [show f = m from List.mem_singleton.1 hf]
    exact List.mem_cons_self
  | i + 1, hi, f, hf => by
    unfold ordF at hf
    split at hf
    · exact ordF_mem (by omega) hf
    · have := bubF_mem _ (by rw [List.length_append, List.length_singleton]; omega) hf
      rcases List.mem_append.1 this with h | h
      · exact ordF_mem (by omega) h
      · rw [List.mem_singleton.1 h]
        exact List.mem_cons_of_mem _ (getD_memF (by omega))
theorem ordL_mem {m : Fle} {D : List Fle} {f : Fle} (hf : f ∈ ordL m D) : f ∈ m :: D := by
  unfold ordL at hf
  split at hf
  · exact ordF_mem (Nat.le_refl _) hf
  · cases hf
theorem ordL_length (m : Fle) (D : List Fle) : (ordL m D).length ≤ 17 := by
  unfold ordL
  split
  · rename_i h
    have := (ordF_length m D D.length).2
    have h16 : ¬ 16 < D.length := fun h2 => by rw [ordE_full h2] at h; cases h
    omega
  · exact Nat.zero_le _
theorem badT_at : ∀ {D : List Fle} {k : Nat} (hk : k < D.length), (∀ j, j < k → mayL (D.getD j f0).name.data.toList = true) → mayL (D.getD k f0).name.data.toList = false → badT D = bs ((D.getD k f0).name.data.toList.take 60)
  | d :: r, 0, _, _, hb => by
    have hb' : mayL d.name.data.toList = false := hb
    unfold badT
    rw [if_neg (by rw [hb']; exact Bool.false_ne_true)]; rfl
  | d :: r, k + 1, hk, hg, hb => by
    have h0 : mayL d.name.data.toList = true := hg 0 (by omega)
    unfold badT
    rw [if_pos h0]
    exact badT_at (D := r) (k := k) (by simpa using hk) (fun j hj => hg (j + 1) (by omega)) hb
theorem badN_ex : ∀ {D : List Fle} {n : Nat}, badN D n = true → ∃ j, j < n ∧ mayL (D.getD j f0).name.data.toList = false
  | D, 0, h => by cases h
  | D, n + 1, h => by
    have h' : (badN D n || !mayL (D.getD n f0).name.data.toList) = true := h
    rw [Bool.or_eq_true] at h'
    rcases h' with h' | h'
    · obtain ⟨j, hj, hb⟩ := badN_ex h'
      exact ⟨j, by omega, hb⟩
    · exact ⟨n, by omega, by simpa using h'⟩
theorem ordE_three (D : List Fle) : ordE D = 0 ∨ ordE D = 4 ∨ (ordE D = 140 ∧ D.length ≤ 16 ∧ badN D D.length = true) := by
  unfold ordE
  split
  · exact .inr (.inl rfl)
  · split
    · rename_i h1 h2
      exact .inr (.inr ⟨rfl, by omega, h2⟩)
    · exact .inl rfl
/-- A row that was returned stays, whatever is appended to a row of another element's type. -/
theorem rows_kept {α : Type} {sz : Nat} {enc : α → List Value} {W W' : World} {v v2 : Value} {O : List α} {B : Nat} (h : RowsAt sz enc W v O) (hn : NewV B v) (h2 : ∀ g, v2.ownBlock = some g → g < B) (hg : W.grownBy W' v2.ownBlock) : RowsAt sz enc W' v O := by
  obtain ⟨q, c, rfl, hr⟩ := h
  refine ⟨q, c, rfl, fun k p hk => ?_⟩
  obtain ⟨g, o, rfl, hc⟩ := hr k p hk
  refine ⟨g, o, rfl, fun j u hu => ?_⟩
  have h1 := hc j u hu
  have hB : B ≤ g := hn g rfl
  refine (World.cell?_of_block (a := ⟨g, o + k * sz + j, none⟩) (hg.block g (World.block_lt_of_cell? W _ h1) (fun e => ?_))).trans h1
  have := h2 g e.symm
  omega
theorem flat_len {α : Type} (F : Fle → List α) (hF : ∀ f, (F f).length ≤ 1000) : ∀ (L : List Fle), (L.flatMap F).length ≤ L.length * 1000
  | [] => Nat.le_refl _
  | x :: r => by
    have := flat_len F hF r
    have h2 := hF x
    rw [List.flatMap_cons, List.length_append, List.length_cons, Nat.succ_mul]
    omega
theorem note_row (W1 : World) (H : Nat) (hH : W1.heap.size = H) (x : Nte) : RowsAt 4 encN (W1.alloc (.cells #[.string x.file, .int .i64 x.line, .int .i64 x.err, .string x.text] 47)).drew (.slice (some ⟨H, 0, none⟩) 1 1) [x] := by
  subst hH
  exact (rows_lit encN_len W1 [x] 47).on ((Below.refl _ _).drew)
def pickA (T : List Nte) (O : List Asn) : List Asn := if T = [] then O else []
theorem pickA_yes {T : List Nte} {O : List Asn} (h : T = []) : pickA T O = O := by unfold pickA; rw [if_pos h]
theorem pickA_no {T : List Nte} {O : List Asn} (h : ¬ T = []) : pickA T O = [] := by unfold pickA; rw [if_neg h]
theorem size_len14 (s : ByteArray) : s.data.toList.length = s.size := by simp
theorem flat_take {α : Type} (F : Fle → List α) {L : List Fle} {k : Nat} {f : Fle} (h : L[k]? = some f) : (L.take (k + 1)).flatMap F = (L.take k).flatMap F ++ F f := by
  rw [List.take_add_one, h, List.flatMap_append]
  show _ ++ List.flatMap F [f] = _
  rw [List.flatMap_singleton]
set_option maxRecDepth 100000 in
set_option maxHeartbeats 32000000 in
theorem merge_full (m : Fle) (D : List Fle) (a : Option Addr) (n cap : Nat) (w : World) (hm : FleAt w.heap.size w m) (h : FsAt w a n cap D) (hb : ∀ f ∈ m :: D, f.len ≤ 1000000) (hE : ordE D = 4) : Calls Tryz.prog 17 #[.agg #[.string m.name, .int .i64 m.dir, .slice m.ptr m.len m.cap], .slice a n cap] w fun e w' =>
    ∃ va vn, e = .returned (.tuple #[va, vn]) ∧ RowsAt 5 encA w' va (mrgA m D) ∧ RowsAt 4 encN w' vn (mrgN m D) ∧ Below w.heap.size w w' := by
  have HO := Lib.hid (fun (W : World) (b : Below w.heap.size w W) => refOrder m D a n cap W (h.on b))
  rw [hE] at HO
  have e1 : mrgA m D = [] := by unfold mrgA; rw [hE, if_neg (fun h => by cases h.1)]
  have e2 : mrgN m D = [⟨m.name, 0, 4, ⟨#[]⟩⟩] := by unfold mrgN; rw [hE]; rfl
  rw [e1, e2]
  have B0 := Lib.hid ((Below.refl w.heap.size w).alloc (Nat.le_refl _) (.cells #[.string m.name, .int .i64 m.dir, .slice m.ptr m.len m.cap] 24))
  have HBX := Lib.hid (heap_alloc_new w (.cells #[.string m.name, .int .i64 m.dir, .slice m.ptr m.len m.cap] 24))
  clear h hm hb hE e1 e2
  go_enter Tryz.func17, Tryz.ntmps17
  go_wp2_with (first
    | (go_at_call 11
       with_reducible refine (HO.out _ B0.out).mono ?_
       rintro e W ⟨v, rfl, _, b1⟩
       have c0 := (cell_of_row W w.heap.size 0 _ _ (0, 0) ((b1.block w.heap.size (by rw [World.size_alloc]; exact Nat.lt_succ_self _)).trans HBX.out)).trans (show _ = some (Value.string m.name) from rfl)
       have B1 := Lib.hid (B0.out.trans (b1.mono B0.out.size))
       clear b1))
  go_loop [9] (fun v9 => v9 = .int .i64 0) (fun _ => 0)
  case atStart => exact rfl
  case round =>
    subst hrel
    by_cases hn0 : (0 : Int) < n
    · go_wp2_with fail
      go_region
      all_goals
        go_wp2
        go_ret2
        exact ⟨_, _, rfl, RowsAt.nil _, (by have h := rows_lit encN_len (W.alloc (.cells #[.string m.name, .int .i64 0, .int .i64 4, .string ⟨#[]⟩] 47)) [⟨m.name, 0, 4, ⟨#[]⟩⟩] 47; rw [World.size_alloc] at h; exact h.on ((Below.refl _ _).drew)), ((B1.out.alloc B1.out.size _).alloc (by rw [World.size_alloc]; exact Nat.le_succ_of_le B1.out.size) _).drew⟩
    · go_wp2_with fail
      go_region
      all_goals
        go_wp2
        go_ret2
        exact ⟨_, _, rfl, RowsAt.nil _, (by have h := rows_lit encN_len (W.alloc (.cells #[.string m.name, .int .i64 0, .int .i64 4, .string ⟨#[]⟩] 47)) [⟨m.name, 0, 4, ⟨#[]⟩⟩] 47; rw [World.size_alloc] at h; exact h.on ((Below.refl _ _).drew)), ((B1.out.alloc B1.out.size _).alloc (by rw [World.size_alloc]; exact Nat.le_succ_of_le B1.out.size) _).drew⟩
set_option maxRecDepth 100000 in
set_option maxHeartbeats 64000000 in
theorem merge_go (m : Fle) (D : List Fle) (a : Option Addr) (n cap : Nat) (w : World) (hm : FleAt w.heap.size w m) (h : FsAt w a n cap D) (hb : ∀ f ∈ m :: D, f.len ≤ 1000000) (hE : ordE D = 0) : Calls Tryz.prog 17 #[.agg #[.string m.name, .int .i64 m.dir, .slice m.ptr m.len m.cap], .slice a n cap] w fun e w' =>
    ∃ va vn, e = .returned (.tuple #[va, vn]) ∧ RowsAt 5 encA w' va (mrgA m D) ∧ RowsAt 4 encN w' vn (mrgN m D) ∧ Below w.heap.size w w' := by
  have HO := Lib.hid (fun (W : World) (b : Below w.heap.size w W) => refOrder m D a n cap W (h.on b))
  rw [hE] at HO
  have HF := Lib.hid (fun (W : World) (b : Below w.heap.size w W) (f : Fle) (hf : f ∈ ordL m D) => (show Calls _ _ _ W _ from by
    have hf2 := ordL_mem hf
    have hat : FleAt w.heap.size w f := by
      rcases List.mem_cons.1 hf2 with e | e
      · rw [e]; exact hm
      · exact h.each f e
    exact refParse13_n f.name f.dir f.ptr f.len f.cap f.bytes W hat.len (hb f hf2) hat.fit hat.most (hat.rd.on b)))
  have hln := ordL_length m D
  have e1 : mrgN m D = (ordL m D).flatMap (fun f => filN f.name f.bytes) := by unfold mrgN; rw [if_pos hE]
  have e2 : mrgA m D = pickA ((ordL m D).flatMap (fun f => filN f.name f.bytes)) ((ordL m D).flatMap (fun f => filA f.name f.bytes)) := by
    unfold mrgA pickA
    rw [e1, hE]
    by_cases h0 : (ordL m D).flatMap (fun f => filN f.name f.bytes) = []
    · rw [if_pos ⟨rfl, h0⟩, if_pos h0]
    · rw [if_neg (fun h => h0 h.2), if_neg h0]
  rw [e1, e2]
  have B0 := Lib.hid ((Below.refl w.heap.size w).alloc (Nat.le_refl _) (.cells #[.string m.name, .int .i64 m.dir, .slice m.ptr m.len m.cap] 24))
  obtain ⟨L, hL⟩ : ∃ L, L = ordL m D := ⟨_, rfl⟩
  rw [← hL] at HO HF hln ⊢
  obtain ⟨N, hN⟩ : ∃ N, N = L.length := ⟨_, rfl⟩
  have HN := Lib.hid hN
  rw [← hN] at hln
  have HLN := Lib.hid hln
  obtain ⟨FA, hFA⟩ : ∃ F : Fle → List Asn, F = fun f => filA f.name f.bytes := ⟨_, rfl⟩
  obtain ⟨FN, hFN⟩ : ∃ F : Fle → List Nte, F = fun f => filN f.name f.bytes := ⟨_, rfl⟩
  have HFA := Lib.hid (show ∀ f, filA f.name f.bytes = FA f from fun f => by rw [hFA])
  have HFN := Lib.hid (show ∀ f, filN f.name f.bytes = FN f from fun f => by rw [hFN])
  have LA := Lib.hid (fun k => (show ((L.take k).flatMap FA).length ≤ 17000 from Nat.le_trans (flat_len FA (fun f => by rw [hFA]; exact filA_len _ _) _) (by rw [List.length_take]; omega)))
  have LN := Lib.hid (fun k => (show ((L.take k).flatMap FN).length ≤ 17000 from Nat.le_trans (flat_len FN (fun f => by rw [hFN]; exact filN_len _ _) _) (by rw [List.length_take]; omega)))
  rw [← hFA, ← hFN]
  obtain ⟨i0, hi0, hz0, hz1, hz2⟩ := info_parts asn_info
  have HI := Lib.hid hi0
  have HZ0 := Lib.hid hz0
  have HZ1 := Lib.hid hz1
  have HZ2 := Lib.hid hz2
  obtain ⟨j0, hj0, hy0, hy1, hy2⟩ := info_parts nte_info
  have JI := Lib.hid hj0
  have JZ0 := Lib.hid hy0
  have JZ1 := Lib.hid hy1
  have JZ2 := Lib.hid hy2
  clear h hm hb hE e1 e2 hln hL hN hFA hFN hi0 hz0 hz1 hz2 hj0 hy0 hy1 hy2
  go_enter Tryz.func17, Tryz.ntmps17
  go_wp2_with (first
    | (go_at_call 11
       with_reducible refine (HO.out _ B0.out).mono ?_
       rintro e W ⟨v, rfl, s1, b1⟩
       have B1 := Lib.hid (B0.out.trans (b1.mono B0.out.size))
       obtain ⟨q, c, rfl, hr⟩ := s1
       have HR := Lib.hid hr
       rw [← HN.out]
       clear b1 hr))
  go_loopw [10, 11, 12] (fun v10 v11 v12 wr => ∃ k : Nat, k ≤ N ∧ v12 = .int .i64 k ∧ Hid (OutA W.heap.size wr v10 ((L.take k).flatMap FA)) ∧ Hid (OutN W.heap.size wr v11 ((L.take k).flatMap FN)) ∧ Hid (Below W.heap.size W wr)) (fun _ _ v12 _ => N - (intOf v12).toNat)
  case atStart => exact ⟨0, Nat.zero_le _, rfl, Lib.hid (World.ownsRow_nil _ _ _ _), Lib.hid (World.ownsRow_nil _ _ _ _), Lib.hid (Below.refl _ _)⟩
  case round =>
    obtain ⟨k, hk, rfl, PA, PN, PB⟩ := hrel
    obtain ⟨V, rfl⟩ : ∃ wo : World, wo = wr := ⟨_, rfl⟩
    by_cases hlt : k < N
    · have hx : L[k]? = some (L[k]'(by rw [← HN.out]; exact hlt)) := List.getElem?_eq_getElem _
      obtain ⟨f, hf⟩ : ∃ f, f = L[k]'(by rw [← HN.out]; exact hlt) := ⟨_, rfl⟩
      rw [← hf] at hx
      obtain ⟨g, o, rfl, d1⟩ := HR.out k f hx
      have x0 := (PB.out.cell (World.block_lt_of_cell? W _ (d1 0 _ rfl))).trans (d1 0 _ rfl)
      have x1 := (PB.out.cell (World.block_lt_of_cell? W _ (d1 1 _ rfl))).trans (d1 1 _ rfl)
      have x2 := (PB.out.cell (World.block_lt_of_cell? W _ (d1 2 _ rfl))).trans (d1 2 _ rfl)
      rw [Nat.add_zero] at x0
      have k1 : (k : Int) < N := by omega
      have k0 : (0 : Int) ≤ k := by omega
      have hw1 : IntKind.i64.wrap ((k : Int) + 1) = k + 1 := by have := HLN.out; rw [IntKind.wrap_i64]; omega
      have HP := Lib.hid (HF.out V (B1.out.trans (PB.out.mono B1.out.size)) f (List.mem_of_getElem? hx))
      rw [HFA.out f, HFN.out f] at HP
      have HTA := Lib.hid (flat_take FA hx)
      have HTN := Lib.hid (flat_take FN hx)
      have la := LA.out (k + 1)
      have ln := LN.out (k + 1)
      rw [HTA.out, List.length_append] at la
      rw [HTN.out, List.length_append] at ln
      have HLA := Lib.hid la
      have HLN2 := Lib.hid ln
      obtain ⟨TA, hTA⟩ : ∃ T, T = (L.take k).flatMap FA := ⟨_, rfl⟩
      obtain ⟨TN, hTN⟩ : ∃ T, T = (L.take k).flatMap FN := ⟨_, rfl⟩
      rw [← hTA] at PA HTA HLA
      rw [← hTN] at PN HTN HLN2
      obtain ⟨GA, hGA⟩ : ∃ T, T = FA f := ⟨_, rfl⟩
      obtain ⟨GN, hGN⟩ : ∃ T, T = FN f := ⟨_, rfl⟩
      rw [← hGA] at HP HTA HLA
      rw [← hGN] at HP HTN HLN2
      obtain ⟨fn, fd, fp, fl, fc, fb⟩ := f
      simp only at x0 x1 x2
      have HSZ := Lib.hid PB.out.size
      clear hx hf d1 la ln hTA hTN hGA hGN
      go_wp2_with (first
        | (go_at_call 31
           with_reducible refine (HP.out).mono ?_
           rintro e X ⟨va, vn, rfl, ra, rn, b2, _, nn⟩
           have NN := Lib.hid nn
           obtain ⟨qa, ca, rfl, _⟩ := id ra
           obtain ⟨qn, cn, rfl, _⟩ := id rn
           have RA := Lib.hid ra
           have RN := Lib.hid rn
           have A2 := Lib.hid (own_on13 PA.out b2)
           have N2 := Lib.hid (own_on13 PN.out b2)
           have B2 := Lib.hid (PB.out.trans (b2.mono PB.out.size))
           clear ra rn b2 nn)
        | (at_builtin
           refine wpList_app_r rfl (.tmp 74) (.tmp 75) 37 rfl W.heap.size 60 i0 _ 5 72 Tryz.underlying37 HI.out HZ0.out HZ1.out HZ2.out rfl (by omega) u10 TA.length (rowC encA TA) rfl A2.out qa GA.length ca (rowC encA GA) rfl (rows_news encA_len (by omega) RA.out).1 (rows_news encA_len (by omega) RA.out).2 (rowC_oneCell encA_one _) (by have := HLA.out; unfold maxLen; omega) (by have := HLA.out; omega) (B2.out.size) ?_
           intro v3 w3 o3 h3
           have O3 := Lib.hid (show OutA W.heap.size w3 v3 (TA ++ GA) from (by unfold OutA; rw [List.length_append, rowC_app]; exact o3))
           have N3 := Lib.hid (own_other N2.out A2.out (by decide) h3)
           have RN3 := Lib.hid (rows_kept RN.out NN.out (fun g hg => (PA.out.lt g hg).2) h3)
           have B3 := Lib.hid (B2.out.grown h3 B2.out.size (fun x e => (A2.out.lt x e).1))
           clear o3 h3)
        | (at_builtin
           refine wpList_app_r rfl (.tmp 77) (.tmp 78) 38 rfl W.heap.size 47 j0 _ 4 48 Tryz.underlying38 JI.out JZ0.out JZ1.out JZ2.out rfl (by omega) u11 TN.length (rowC encN TN) rfl N3.out qn GN.length cn (rowC encN GN) rfl (rows_news encN_len (by omega) RN3.out).1 (rows_news encN_len (by omega) RN3.out).2 (rowC_oneCell encN_one _) (by have := HLN2.out; unfold maxLen; omega) (by have := HLN2.out; omega) (B3.out.size) ?_
           intro v4 w4 o4 h4
           have O4 := Lib.hid (show OutN W.heap.size w4 v4 (TN ++ GN) from (by unfold OutN; rw [List.length_append, rowC_app]; exact o4))
           have A4 := Lib.hid (show OutA W.heap.size w4 v3 (TA ++ GA) from own_other O3.out N3.out (by decide) h4)
           have B4 := Lib.hid (B3.out.grown h4 B3.out.size (fun x e => (N3.out.lt x e).1))
           clear o4 h4))
      go_roundw
      case rel => exact ⟨k + 1, by omega, by go_num, Lib.hid (by rw [HTA.out]; exact A4.out), Lib.hid (by rw [HTN.out]; exact O4.out), B4⟩
      case measure => simp [intOf]; omega
    · obtain rfl : k = N := by omega
      have k1 : ¬ (k : Int) < k := by omega
      have htk : L.take k = L := List.take_of_length_le (by rw [HN.out]; exact Nat.le_refl _)
      rw [htk] at PA PN
      have LN2 := Lib.hid (show (L.flatMap FN).length ≤ 17000 from by have := LN.out k; rwa [htk] at this)
      obtain ⟨qa, ca, rfl⟩ := out_form PA.out
      obtain ⟨qn, cn, rfl⟩ := out_form PN.out
      have HA := Lib.hid (rows_own encA_len PA.out)
      have HNT := Lib.hid (rows_own encN_len PN.out)
      have B9 := Lib.hid (B1.out.trans (PB.out.mono B1.out.size))
      obtain ⟨TN, hTN⟩ : ∃ T, T = L.flatMap FN := ⟨_, rfl⟩
      rw [← hTN] at HNT ⊢
      obtain ⟨x, hx⟩ : ∃ x, x = TN.length := ⟨_, rfl⟩
      have HX := Lib.hid hx
      rw [← hx]
      rw [← hx] at HNT
      have HTN := Lib.hid hTN
      obtain ⟨TA, hTA⟩ : ∃ T, T = L.flatMap FA := ⟨_, rfl⟩
      obtain ⟨ya, hya⟩ : ∃ y, y = TA.length := ⟨_, rfl⟩
      have HTA := Lib.hid hTA
      rw [← hTA, ← hya] at HA
      rw [← hTA, ← hya]
      clear htk hTN hx hTA hya
      rename_i Q9 K9 h9
      have H9 := Lib.hid h9
      clear h9 hlt hk
      go_wp2_with fail
      refine H9.out _ _ ?_
      clear H9
      by_cases h0 : x = 0
      · have e0 := Lib.hid (show TN = [] from List.eq_nil_of_length_eq_zero (HX.out.symm.trans h0))
        have x1 : ¬ (0 : Int) < (x : Int) := by omega
        have x2 : ¬ (x : Int) > 0 := x1
        clear h0
        go_wp2_with fail
        go_ret2
        exact ⟨_, _, rfl, by rw [← HTN.out, pickA_yes e0.out, ← HTA.out]; exact HA.out, by rw [← HTN.out, e0.out]; exact RowsAt.nil _, B9.out⟩
      · have x1 : (0 : Int) < (x : Int) := by omega
        have x2 : (x : Int) > 0 := x1
        have e0 := Lib.hid (show ¬ TN = [] from fun e => h0 (by rw [HX.out, e]; rfl))
        clear h0
        go_wp2_with fail
        go_ret2
        exact ⟨_, _, rfl, by rw [← HTN.out, pickA_no e0.out]; exact RowsAt.nil _, by rw [← HTN.out]; exact HNT.out, B9.out⟩
end Go.Proofs.YtgigdhincpcdbaaGreatDoor
