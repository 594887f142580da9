/- awake holds, over what the calls have to return. -/
import Derived.Test.YtanifiobfbfehaaGreatDoorQ6
namespace Go.Proofs.YtanifiobfbfehaaGreatDoor
open Go.RowKit
set_option linter.unusedVariables false
set_option linter.unusedSimpArgs false
attribute [local go_sem ↓] Go.wp_at_zero Go.wp_at_succ

set_option maxRecDepth 100000 in
set_option maxHeartbeats 32000000 in
theorem awake17_any {G : World → Prop} (HC : FilterC G) (w : World) (hG : G w) : Calls Tryz.prog 14 #[] w fun e w' => e = .returned (.bool true) ∧ Below w.heap.size w w' := by
  have HON := Lib.hid (fun (w w' : World) => HC.on (w := w) (w' := w'))
  have HG := Lib.hid hG
  have HKO := Lib.hid (fun (X : World) (g : G X) => HC.key ⟨#[79, 116, 104, 101, 114]⟩ X g (by decide))
  rw [row17_6] at HKO
  have HOF1 := Lib.hid (fun (X : World) => of17 ⟨#[83, 121, 115, 116, 101, 109, 67, 97, 108, 108, 70, 105, 108, 116, 101, 114]⟩ ⟨#[126, 107, 105, 108, 108, 58, 69, 80, 69, 82, 77]⟩ X)
  have HOF2 := Lib.hid (fun (X : World) => of17 ⟨#[83, 121, 115, 116, 101, 109, 67, 97, 108, 108, 69, 114, 114, 111, 114, 78, 117, 109, 98, 101, 114]⟩ ⟨#[69, 78, 79, 83, 89, 83]⟩ X)
  unfold asV at HOF1 HOF2
  simp only at HOF1 HOF2
  have HST1 := (fun (X : World) (g : G X) (q : Pls) (h : PolAt X q PZ) => set_is17 HC PZ PA1 ⟨#[83, 121, 115, 116, 101, 109, 67, 97, 108, 108, 70, 105, 108, 116, 101, 114]⟩ ⟨#[126, 107, 105, 108, 108, 58, 69, 80, 69, 82, 77]⟩ [] _ okZ (show setF PZ ⟨#[83, 121, 115, 116, 101, 109, 67, 97, 108, 108, 70, 105, 108, 116, 101, 114]⟩ ⟨#[126, 107, 105, 108, 108, 58, 69, 80, 69, 82, 77]⟩ = _ from row17_1) rfl (by decide) (by decide) (by decide) (by decide) (by decide) (by decide) q X g h)
  have HST2 := (fun (X : World) (g : G X) (q : Pls) (h : PolAt X q PA1) => set_is17 HC PA1 PA2 ⟨#[83, 121, 115, 116, 101, 109, 67, 97, 108, 108, 69, 114, 114, 111, 114, 78, 117, 109, 98, 101, 114]⟩ ⟨#[69, 78, 79, 83, 89, 83]⟩ [] _ okA1 (show setF PA1 ⟨#[83, 121, 115, 116, 101, 109, 67, 97, 108, 108, 69, 114, 114, 111, 114, 78, 117, 109, 98, 101, 114]⟩ ⟨#[69, 78, 79, 83, 89, 83]⟩ = _ from row17_2) rfl (by decide) (by decide) (by decide) (by decide) (by decide) (by decide) q X g h)
  have HST3 := (fun (X : World) (g : G X) (q : Pls) (h : PolAt X q PA2) => set_is17 HC PA2 PA3 ⟨#[83, 121, 115, 116, 101, 109, 67, 97, 108, 108, 76, 111, 103]⟩ ⟨#[114, 101, 97, 100, 58, 53]⟩ [⟨⟨#[102]⟩, 3, 161, ⟨#[114, 101, 97, 100, 58, 53]⟩⟩] _ okA2 (show setF PA2 ⟨#[83, 121, 115, 116, 101, 109, 67, 97, 108, 108, 76, 111, 103]⟩ ⟨#[114, 101, 97, 100, 58, 53]⟩ = _ from row17_3) rfl (by decide) (by decide) (by decide) (by decide) (by decide) (by decide) q X g h)
  have HST4 := (fun (X : World) (g : G X) (q : Pls) (h : PolAt X q PA3) => set_is17 HC PA3 PA4 ⟨#[83, 121, 115, 116, 101, 109, 67, 97, 108, 108, 69, 114, 114, 111, 114, 78, 117, 109, 98, 101, 114]⟩ ⟨#[]⟩ [] _ okA3 (show setF PA3 ⟨#[83, 121, 115, 116, 101, 109, 67, 97, 108, 108, 69, 114, 114, 111, 114, 78, 117, 109, 98, 101, 114]⟩ ⟨#[]⟩ = _ from row17_4) rfl (by decide) (by decide) (by decide) (by decide) (by decide) (by decide) q X g h)
  have HST5 := (fun (X : World) (g : G X) (q : Pls) (h : PolAt X q PA4) => set_is17 HC PA4 PA4 ⟨#[83, 121, 115, 116, 101, 109, 67, 97, 108, 108, 69, 114, 114, 111, 114, 78, 117, 109, 98, 101, 114]⟩ ⟨#[53, 48, 48, 48]⟩ [⟨⟨#[102]⟩, 3, 160, ⟨#[53, 48, 48, 48]⟩⟩] _ okA4 (show setF PA4 ⟨#[83, 121, 115, 116, 101, 109, 67, 97, 108, 108, 69, 114, 114, 111, 114, 78, 117, 109, 98, 101, 114]⟩ ⟨#[53, 48, 48, 48]⟩ = _ from row17_5) rfl (by decide) (by decide) (by decide) (by decide) (by decide) (by decide) q X g h)
  have HST1 := Lib.hid (fun (X : World) (g : G X) => (show Calls Tryz.prog 9 #[.agg #[.slice none 0 0, .int .u8 0, .slice none 0 0, .int .u32 0, .int .u8 0, .slice none 0 0, .slice none 0 0, .int .u8 0, .int .u64 0, .bool false, .bool false, .bool false, .bool false], .agg #[.string ⟨#[102]⟩, .int .i64 3, .string ⟨#[83, 101, 114, 118, 105, 99, 101]⟩, .string ⟨#[83, 121, 115, 116, 101, 109, 67, 97, 108, 108, 70, 105, 108, 116, 101, 114]⟩, .string ⟨#[126, 107, 105, 108, 108, 58, 69, 80, 69, 82, 77]⟩]] X fun e w' => ∃ p' u, e = .returned (.tuple #[plV p' PA1, u]) ∧ OwnP X.heap.size w' p' PA1 ∧ w'.ownsRow X.heap.size 51 4 u ([] : List Nte).length (rowC encN []) ∧ Below X.heap.size X w' from HST1 X g pz17 (polZ X PZ rfl rfl rfl rfl)))
  have HST2 := Lib.hid (fun (X : World) (g : G X) (q : Pls) (h : PolAt X q PA1) => (show Calls Tryz.prog 9 #[.agg (plC q PA1).toArray, .agg #[.string ⟨#[102]⟩, .int .i64 3, .string ⟨#[83, 101, 114, 118, 105, 99, 101]⟩, .string ⟨#[83, 121, 115, 116, 101, 109, 67, 97, 108, 108, 69, 114, 114, 111, 114, 78, 117, 109, 98, 101, 114]⟩, .string ⟨#[69, 78, 79, 83, 89, 83]⟩]] X fun e w' => ∃ p' u, e = .returned (.tuple #[plV p' PA2, u]) ∧ OwnP X.heap.size w' p' PA2 ∧ w'.ownsRow X.heap.size 51 4 u ([] : List Nte).length (rowC encN []) ∧ Below X.heap.size X w' from HST2 X g q h))
  have HST3 := Lib.hid (fun (X : World) (g : G X) (q : Pls) (h : PolAt X q PA2) => (show Calls Tryz.prog 9 #[.agg #[.slice q.aq q.an q.ac, .int .u8 (PA2.fl.1 : Nat), .slice q.fq q.fn q.fc, .int .u32 (PA2.dn : Nat), .int .u8 (PA2.lg.1 : Nat), .slice q.lq q.ln q.lc, .slice q.mq q.mn q.mc, .int .u8 (PA2.fm : Nat), .int .u64 (PA2.sp : Nat), .bool PA2.b1, .bool PA2.b2, .bool PA2.b3, .bool PA2.b4], .agg #[.string ⟨#[102]⟩, .int .i64 3, .string ⟨#[83, 101, 114, 118, 105, 99, 101]⟩, .string ⟨#[83, 121, 115, 116, 101, 109, 67, 97, 108, 108, 76, 111, 103]⟩, .string ⟨#[114, 101, 97, 100, 58, 53]⟩]] X fun e w' => ∃ p' u, e = .returned (.tuple #[plV p' PA3, u]) ∧ OwnP X.heap.size w' p' PA3 ∧ w'.ownsRow X.heap.size 51 4 u ([⟨⟨#[102]⟩, 3, 161, ⟨#[114, 101, 97, 100, 58, 53]⟩⟩] : List Nte).length (rowC encN [⟨⟨#[102]⟩, 3, 161, ⟨#[114, 101, 97, 100, 58, 53]⟩⟩]) ∧ Below X.heap.size X w' from HST3 X g q h))
  have HOF3 := Lib.hid (fun (X : World) => of17 ⟨#[83, 121, 115, 116, 101, 109, 67, 97, 108, 108, 76, 111, 103]⟩ ⟨#[114, 101, 97, 100, 58, 53]⟩ X)
  unfold asV at HOF3
  simp only at HOF3
  have HST4 := Lib.hid (fun (X : World) (g : G X) (q : Pls) (h : PolAt X q PA3) => (show Calls Tryz.prog 9 #[.agg #[.slice q.aq q.an q.ac, .int .u8 (PA3.fl.1 : Nat), .slice q.fq q.fn q.fc, .int .u32 (PA3.dn : Nat), .int .u8 (PA3.lg.1 : Nat), .slice q.lq q.ln q.lc, .slice q.mq q.mn q.mc, .int .u8 (PA3.fm : Nat), .int .u64 (PA3.sp : Nat), .bool PA3.b1, .bool PA3.b2, .bool PA3.b3, .bool PA3.b4], .agg #[.string ⟨#[102]⟩, .int .i64 3, .string ⟨#[83, 101, 114, 118, 105, 99, 101]⟩, .string ⟨#[83, 121, 115, 116, 101, 109, 67, 97, 108, 108, 69, 114, 114, 111, 114, 78, 117, 109, 98, 101, 114]⟩, .string ⟨#[]⟩]] X fun e w' => ∃ p' u, e = .returned (.tuple #[plV p' PA4, u]) ∧ OwnP X.heap.size w' p' PA4 ∧ w'.ownsRow X.heap.size 51 4 u ([] : List Nte).length (rowC encN []) ∧ Below X.heap.size X w' from HST4 X g q h))
  have HOF4 := Lib.hid (fun (X : World) => of17 ⟨#[83, 121, 115, 116, 101, 109, 67, 97, 108, 108, 69, 114, 114, 111, 114, 78, 117, 109, 98, 101, 114]⟩ ⟨#[]⟩ X)
  unfold asV at HOF4
  simp only at HOF4
  have HST5 := Lib.hid (fun (X : World) (g : G X) (q : Pls) (h : PolAt X q PA4) => (show Calls Tryz.prog 9 #[.agg #[.slice q.aq q.an q.ac, .int .u8 (PA4.fl.1 : Nat), .slice q.fq q.fn q.fc, .int .u32 (PA4.dn : Nat), .int .u8 (PA4.lg.1 : Nat), .slice q.lq q.ln q.lc, .slice q.mq q.mn q.mc, .int .u8 (PA4.fm : Nat), .int .u64 (PA4.sp : Nat), .bool PA4.b1, .bool PA4.b2, .bool PA4.b3, .bool PA4.b4], .agg #[.string ⟨#[102]⟩, .int .i64 3, .string ⟨#[83, 101, 114, 118, 105, 99, 101]⟩, .string ⟨#[83, 121, 115, 116, 101, 109, 67, 97, 108, 108, 69, 114, 114, 111, 114, 78, 117, 109, 98, 101, 114]⟩, .string ⟨#[53, 48, 48, 48]⟩]] X fun e w' => ∃ p' u, e = .returned (.tuple #[plV p' PA4, u]) ∧ OwnP X.heap.size w' p' PA4 ∧ w'.ownsRow X.heap.size 51 4 u ([⟨⟨#[102]⟩, 3, 160, ⟨#[53, 48, 48, 48]⟩⟩] : List Nte).length (rowC encN [⟨⟨#[102]⟩, 3, 160, ⟨#[53, 48, 48, 48]⟩⟩]) ∧ Below X.heap.size X w' from HST5 X g q h))
  have HOF5 := Lib.hid (fun (X : World) => of17 ⟨#[83, 121, 115, 116, 101, 109, 67, 97, 108, 108, 69, 114, 114, 111, 114, 78, 117, 109, 98, 101, 114]⟩ ⟨#[53, 48, 48, 48]⟩ X)
  unfold asV at HOF5
  simp only at HOF5
  obtain ⟨Q1, hQ1⟩ : ∃ P, P = PA1 := ⟨_, rfl⟩
  obtain ⟨Q2, hQ2⟩ : ∃ P, P = PA2 := ⟨_, rfl⟩
  obtain ⟨Q3, hQ3⟩ : ∃ P, P = PA3 := ⟨_, rfl⟩
  obtain ⟨Q4, hQ4⟩ : ∃ P, P = PA4 := ⟨_, rfl⟩
  obtain ⟨Q5, hQ5⟩ : ∃ P, P = PA4 := ⟨_, rfl⟩
  rw [← hQ1] at HST1 HST2
  rw [← hQ2] at HST2 HST3
  rw [← hQ3] at HST3 HST4
  rw [← hQ4] at HST4 HST5
  have HQ2 := Lib.hid hQ2
  have HQ3 := Lib.hid hQ3
  have HQ4 := Lib.hid hQ4
  have HQ5 := Lib.hid (show Q4 = PA4 from hQ4)
  clear hQ1 hQ2 hQ3 hQ4 hQ5 hG HC
  go_enter Tryz.func14, Tryz.ntmps14
  go_wp2_with (first
    | (go_at_call 20
       ((with_reducible refine (HOF1.out _).mono ?_); rintro e v2 ⟨rfl, b2⟩)
       have B2 := Lib.hid b2)
    | (go_at_call 9
       ((with_reducible refine (HST1.out v2 (HON.out _ _ HG.out B2.out)).mono ?_); rintro e v3 ⟨p1, u1, rfl, own3, r3, b3⟩)
       have B3 := Lib.hid (thn16 B2.out b3)
       have Z3 := Lib.hid (heap_alloc_new v3 (.cells #[.slice none 0 0, .int .u8 0, .slice none 0 0, .int .u32 0, .int .u8 0, .slice none 0 0, .slice none 0 0, .int .u8 0, .int .u64 0, .bool false, .bool false, .bool false, .bool false] 30))
       have FIN := Lib.hid (fin17 (B3.out.alloc B3.out.size (.cells #[.slice none 0 0, .int .u8 0, .slice none 0 0, .int .u32 0, .int .u8 0, .slice none 0 0, .slice none 0 0, .int .u8 0, .int .u64 0, .bool false, .bool false, .bool false, .bool false] 30)) B3.out.size Z3.out rfl (own3.on (below16 v3 _)) (r3.alloc (.cells #[.slice none 0 0, .int .u8 0, .slice none 0 0, .int .u32 0, .int .u8 0, .slice none 0 0, .slice none 0 0, .int .u8 0, .int .u64 0, .bool false, .bool false, .bool false, .bool false] 30)))
       clear own3 r3 b3)
    | ((with_reducible show wpList _ _ _ (⟨none, .store 30 (.tmp 1) (.tmp 14), _, _, _, _⟩ :: _) _ _)
       refine wpList_store_mid rfl 30 (.tmp 1) (.tmp 14) rfl v3.heap.size 0 (plC p1 Q1).toArray (by rfl) (by rfl) (there_row17 Z3.out (show 0 + 13 ≤ 13 by decide)) pl_info (plC_one _ _) ?_
       show wpList _ _ _ _ _ ((World.alloc v3 (.cells #[.slice none 0 0, .int .u8 0, .slice none 0 0, .int .u32 0, .int .u8 0, .slice none 0 0, .slice none 0 0, .int .u8 0, .int .u64 0, .bool false, .bool false, .bool false, .bool false] 30)).setCells v3.heap.size 0 (plC p1 Q1))
       obtain ⟨g1, hg1⟩ : ∃ g, g = v3.heap.size := ⟨_, rfl⟩
       rw [← hg1] at FIN ⊢
       generalize (World.alloc v3 (.cells #[.slice none 0 0, .int .u8 0, .slice none 0 0, .int .u32 0, .int .u8 0, .slice none 0 0, .slice none 0 0, .int .u8 0, .int .u64 0, .bool false, .bool false, .bool false, .bool false] 30)).setCells g1 0 (plC p1 Q1) = X1 at FIN ⊢
       clear Z3 hg1))
  obtain ⟨bF, gF, xF, pF, rF⟩ := FIN.out
  have BV2 := Lib.hid bF
  have GW1 := Lib.hid gF
  have HBX2 := Lib.hid xF
  have HPA2 := Lib.hid pF
  obtain ⟨qu1, cu1, hu, _⟩ := rF
  simp only [List.length_nil] at hu
  subst hu
  clear bF gF xF pF FIN
  go_wp2_with fail

  refine key17 (F := F17 w Q2 []) (R := ?R) ?h1 ?h2
  case h1 =>
    intro KEY
    refine wp_region_held_drew (S := fun _ => True) (by kernel_rfl) ?_ (fun hHeld => ?_)
    · exact trivial
    obtain ⟨Y0, hY0⟩ : ∃ Y, Y = X1.drew := ⟨_, rfl⟩
    have B0 := Lib.hid (show Below w.heap.size w Y0 from hY0 ▸ BV2.out.drew)
    have XC0 := Lib.hid (show Y0.heap[g1]? = some (.cells (plC p1 Q1).toArray 30 (0, 0)) from hY0 ▸ HBX2.out)
    have PC0 := Lib.hid (show PolAt Y0 p1 Q1 from hY0 ▸ HPA2.out.on ((Below.refl _ _).drew))
    rw [← hY0]
    clear hY0
    refine wpAnyH_ready (rs := [0, 1]) (by kernel_rfl) (List.cons_ne_nil _ _) ?_
    refine AllReadyH.cons rfl (fun K hK => ?_) ?_
    · refine step_load17 rfl 30 (.tmp 1) (by rfl) g1 0 (by rfl) (plC p1 Q1) _ (range_row17 XC0.out) Tryz.underlying30 rfl pl_info ?_
      change K (Act.put _ (some 17) _) _
      simp only [Act.put, List.setIfInBounds_toArray, List.set_cons_zero, List.set_cons_succ]
      refine hK.out _ _ ?_ (fun hHeld2 => ?_)
      · exact trivial
      clear hK K
      have hHeld := hHeld2
      clear hHeld2
      refine wpAnyH_ready (rs := [1]) (by kernel_rfl) (List.cons_ne_nil _ _) ?_
      refine AllReadyH.cons rfl (fun K hK => ?_) AllReadyH.nil
      go_simp
      go_wp2_with (go_at_call 20; ((with_reducible refine (HOF2.out _).mono ?_); rintro e Y1 ⟨rfl, b2⟩))
      have B1 := Lib.hid (thn16 B0.out b2)
      have XC1 := Lib.hid (blk_on XC0.out b2)
      have PC1 := Lib.hid (PC0.out.on b2)
      clear b2
      refine hK.out _ _ ?_ (fun hHeld2 => ?_)
      · exact trivial
      clear hK K
      have hHeld := hHeld2
      clear hHeld2
      refine wpAnyH_ready (rs := [2]) (by kernel_rfl) (List.cons_ne_nil _ _) ?_
      refine AllReadyH.cons rfl (fun K hK => ?_) AllReadyH.nil
      go_simp
      go_wp2_with (go_at_call 9; ((with_reducible refine (HST2.out Y1 (HON.out _ _ HG.out B1.out) p1 PC1.out).mono ?_); rintro e Y2 ⟨p3, u3, rfl, own3, r3, b3⟩))
      have XC2 := Lib.hid (blk_on XC1.out b3)
      have FIN := Lib.hid (fin17 (thn16 B1.out b3) GW1.out XC2.out rfl own3 r3)
      clear own3 r3 b3
      refine hK.out _ _ ?_ (fun hHeld2 => ?_)
      · exact trivial
      clear hK K
      have hHeld := hHeld2
      clear hHeld2
      refine take_op2 (i := 3) (v := ?_) rfl (by kernel_rfl) (by kernel_rfl) (by kernel_rfl) (fun _ _ _ h => h) (Or.inl ⟨wanted_plain rfl, ?_⟩) (by assumption) ?_
      rotate_left
      · (intro w hSw; (try dsimp only at hSw); go_simp; try with_reducible rfl)
      intro act_ hact_; simp only [Act.put, List.setIfInBounds_toArray, List.set_cons_zero, List.set_cons_succ] at hact_; subst hact_
      refine take_op2 (i := 4) (v := ?_) rfl (by kernel_rfl) (by kernel_rfl) (by kernel_rfl) (fun _ _ _ h => h) (Or.inl ⟨wanted_plain rfl, ?_⟩) (by assumption) ?_
      rotate_left
      · (intro w hSw; (try dsimp only at hSw); go_simp; try with_reducible rfl)
      intro act_ hact_; simp only [Act.put, List.setIfInBounds_toArray, List.set_cons_zero, List.set_cons_succ] at hact_; subst hact_
      refine take_op2 (i := 5) (v := ?_) rfl (by kernel_rfl) (by kernel_rfl) (by kernel_rfl) (fun _ _ _ h => h) (Or.inl ⟨wanted_plain rfl, ?_⟩) (by assumption) ?_
      rotate_left
      · (intro w hSw; (try dsimp only at hSw); go_simp; try with_reducible rfl)
      intro act_ hact_; simp only [Act.put, List.setIfInBounds_toArray, List.set_cons_zero, List.set_cons_succ] at hact_; subst hact_
      refine wpAnyH_ready (rs := [6]) (by kernel_rfl) (List.cons_ne_nil _ _) ?_
      refine AllReadyH.cons rfl (fun K hK => ?_) AllReadyH.nil
      refine step_storeL17 rfl 30 (.tmp 1) (.tmp 20) (by rfl) g1 0 (plC p3 Q2) (by rfl) (by rfl) (there_row17 XC2.out (show 0 + 13 ≤ 13 by decide)) pl_info (plC_one _ _) ?_
      change K (Act.put _ none _) _
      simp only [Act.put]
      refine hK.out _ _ ?_ (fun hHeld2 => ?_)
      · exact trivial
      clear hK K
      have hHeld := hHeld2
      clear hHeld2
      refine take_op2 (i := 7) (v := ?_) rfl (by kernel_rfl) (by kernel_rfl) (by kernel_rfl) (fun _ _ _ h => h) (Or.inl ⟨wanted_plain rfl, ?_⟩) (by assumption) ?_
      rotate_left
      · (intro w hSw; (try dsimp only at hSw); go_simp; try with_reducible rfl)
      intro act_ hact_; simp only [Act.put, List.setIfInBounds_toArray, List.set_cons_zero, List.set_cons_succ] at hact_; subst hact_
      refine wpAnyH_done (by kernel_rfl) ?_ _
      generalize Y2.setCells g1 0 (plC p3 Q2) = Z at FIN ⊢
      obtain ⟨g9, hg9⟩ : ∃ g, g = g1 := ⟨_, rfl⟩
      rw [← hg9] at FIN ⊢
      exact KEY Z g9 p3 u3 FIN.out
    refine AllReadyH.cons rfl (fun K hK => ?_) ?_
    · go_simp
      go_wp2_with (go_at_call 20; ((with_reducible refine (HOF2.out _).mono ?_); rintro e Y1 ⟨rfl, b2⟩))
      have B1 := Lib.hid (thn16 B0.out b2)
      have XC1 := Lib.hid (blk_on XC0.out b2)
      have PC1 := Lib.hid (PC0.out.on b2)
      clear b2
      refine hK.out _ _ ?_ (fun hHeld2 => ?_)
      · exact trivial
      clear hK K
      have hHeld := hHeld2
      clear hHeld2
      refine wpAnyH_ready (rs := [0]) (by kernel_rfl) (List.cons_ne_nil _ _) ?_
      refine AllReadyH.cons rfl (fun K hK => ?_) AllReadyH.nil
      refine step_load17 rfl 30 (.tmp 1) (by rfl) g1 0 (by rfl) (plC p1 Q1) _ (range_row17 XC1.out) Tryz.underlying30 rfl pl_info ?_
      change K (Act.put _ (some 17) _) _
      simp only [Act.put, List.setIfInBounds_toArray, List.set_cons_zero, List.set_cons_succ]
      refine hK.out _ _ ?_ (fun hHeld2 => ?_)
      · exact trivial
      clear hK K
      have hHeld := hHeld2
      clear hHeld2
      refine wpAnyH_ready (rs := [2]) (by kernel_rfl) (List.cons_ne_nil _ _) ?_
      refine AllReadyH.cons rfl (fun K hK => ?_) AllReadyH.nil
      go_simp
      go_wp2_with (go_at_call 9; ((with_reducible refine (HST2.out Y1 (HON.out _ _ HG.out B1.out) p1 PC1.out).mono ?_); rintro e Y2 ⟨p3, u3, rfl, own3, r3, b3⟩))
      have XC2 := Lib.hid (blk_on XC1.out b3)
      have FIN := Lib.hid (fin17 (thn16 B1.out b3) GW1.out XC2.out rfl own3 r3)
      clear own3 r3 b3
      refine hK.out _ _ ?_ (fun hHeld2 => ?_)
      · exact trivial
      clear hK K
      have hHeld := hHeld2
      clear hHeld2
      refine take_op2 (i := 3) (v := ?_) rfl (by kernel_rfl) (by kernel_rfl) (by kernel_rfl) (fun _ _ _ h => h) (Or.inl ⟨wanted_plain rfl, ?_⟩) (by assumption) ?_
      rotate_left
      · (intro w hSw; (try dsimp only at hSw); go_simp; try with_reducible rfl)
      intro act_ hact_; simp only [Act.put, List.setIfInBounds_toArray, List.set_cons_zero, List.set_cons_succ] at hact_; subst hact_
      refine take_op2 (i := 4) (v := ?_) rfl (by kernel_rfl) (by kernel_rfl) (by kernel_rfl) (fun _ _ _ h => h) (Or.inl ⟨wanted_plain rfl, ?_⟩) (by assumption) ?_
      rotate_left
      · (intro w hSw; (try dsimp only at hSw); go_simp; try with_reducible rfl)
      intro act_ hact_; simp only [Act.put, List.setIfInBounds_toArray, List.set_cons_zero, List.set_cons_succ] at hact_; subst hact_
      refine take_op2 (i := 5) (v := ?_) rfl (by kernel_rfl) (by kernel_rfl) (by kernel_rfl) (fun _ _ _ h => h) (Or.inl ⟨wanted_plain rfl, ?_⟩) (by assumption) ?_
      rotate_left
      · (intro w hSw; (try dsimp only at hSw); go_simp; try with_reducible rfl)
      intro act_ hact_; simp only [Act.put, List.setIfInBounds_toArray, List.set_cons_zero, List.set_cons_succ] at hact_; subst hact_
      refine wpAnyH_ready (rs := [6]) (by kernel_rfl) (List.cons_ne_nil _ _) ?_
      refine AllReadyH.cons rfl (fun K hK => ?_) AllReadyH.nil
      refine step_storeL17 rfl 30 (.tmp 1) (.tmp 20) (by rfl) g1 0 (plC p3 Q2) (by rfl) (by rfl) (there_row17 XC2.out (show 0 + 13 ≤ 13 by decide)) pl_info (plC_one _ _) ?_
      change K (Act.put _ none _) _
      simp only [Act.put]
      refine hK.out _ _ ?_ (fun hHeld2 => ?_)
      · exact trivial
      clear hK K
      have hHeld := hHeld2
      clear hHeld2
      refine take_op2 (i := 7) (v := ?_) rfl (by kernel_rfl) (by kernel_rfl) (by kernel_rfl) (fun _ _ _ h => h) (Or.inl ⟨wanted_plain rfl, ?_⟩) (by assumption) ?_
      rotate_left
      · (intro w hSw; (try dsimp only at hSw); go_simp; try with_reducible rfl)
      intro act_ hact_; simp only [Act.put, List.setIfInBounds_toArray, List.set_cons_zero, List.set_cons_succ] at hact_; subst hact_
      refine wpAnyH_done (by kernel_rfl) ?_ _
      generalize Y2.setCells g1 0 (plC p3 Q2) = Z at FIN ⊢
      obtain ⟨g9, hg9⟩ : ∃ g, g = g1 := ⟨_, rfl⟩
      rw [← hg9] at FIN ⊢
      exact KEY Z g9 p3 u3 FIN.out
    exact AllReadyH.nil
  case h2 =>
    intro X2 g2 p2 u2 hF
    obtain ⟨bF, gF, xF, pF, rF⟩ := hF
    have BV3 := Lib.hid bF
    have HBX3 := Lib.hid xF
    have HPA3 := Lib.hid pF
    have HR2 := Lib.hid rF
    obtain ⟨qu2, cu2, hu, hru2⟩ := rF
    simp only [List.length_cons, List.length_nil] at hu
    subst hu
    clear bF gF xF pF
    go_wp2_with fail
    have SK := Lib.hid (fun (Y : World) (b : Below X2.heap.size X2 Y) => (show (fun w' => w'.cell? ⟨g2, 0, none⟩ = some (.slice p2.aq p2.an p2.ac) ∧ w'.cell? ⟨g2, 1, none⟩ = some (.int .u8 (Q2.fl.1 : Nat)) ∧ w'.cell? ⟨g2, 2, none⟩ = some (.slice p2.fq p2.fn p2.fc) ∧ w'.cell? ⟨g2, 3, none⟩ = some (.int .u32 (Q2.dn : Nat)) ∧ w'.cell? ⟨g2, 4, none⟩ = some (.int .u8 (Q2.lg.1 : Nat)) ∧ w'.cell? ⟨g2, 5, none⟩ = some (.slice p2.lq p2.ln p2.lc) ∧ w'.cell? ⟨g2, 6, none⟩ = some (.slice p2.mq p2.mn p2.mc) ∧ w'.cell? ⟨g2, 7, none⟩ = some (.int .u8 (Q2.fm : Nat)) ∧ w'.cell? ⟨g2, 8, none⟩ = some (.int .u64 (Q2.sp : Nat)) ∧ w'.cell? ⟨g2, 9, none⟩ = some (.bool Q2.b1) ∧ w'.cell? ⟨g2, 10, none⟩ = some (.bool Q2.b2) ∧ w'.cell? ⟨g2, 11, none⟩ = some (.bool Q2.b3) ∧ w'.cell? ⟨g2, 12, none⟩ = some (.bool Q2.b4)) Y from pcells17 (blk_on HBX3.out b)))
    refine key17 (F := F17 X2 Q3 [⟨⟨#[102]⟩, 3, 161, ⟨#[114, 101, 97, 100, 58, 53]⟩⟩]) (R := ?R3) ?h13 ?h23
    case h13 =>
      intro KEY
      refine wp_region_held_drew (S := (fun w' => w'.cell? ⟨g2, 0, none⟩ = some (.slice p2.aq p2.an p2.ac) ∧ w'.cell? ⟨g2, 1, none⟩ = some (.int .u8 (Q2.fl.1 : Nat)) ∧ w'.cell? ⟨g2, 2, none⟩ = some (.slice p2.fq p2.fn p2.fc) ∧ w'.cell? ⟨g2, 3, none⟩ = some (.int .u32 (Q2.dn : Nat)) ∧ w'.cell? ⟨g2, 4, none⟩ = some (.int .u8 (Q2.lg.1 : Nat)) ∧ w'.cell? ⟨g2, 5, none⟩ = some (.slice p2.lq p2.ln p2.lc) ∧ w'.cell? ⟨g2, 6, none⟩ = some (.slice p2.mq p2.mn p2.mc) ∧ w'.cell? ⟨g2, 7, none⟩ = some (.int .u8 (Q2.fm : Nat)) ∧ w'.cell? ⟨g2, 8, none⟩ = some (.int .u64 (Q2.sp : Nat)) ∧ w'.cell? ⟨g2, 9, none⟩ = some (.bool Q2.b1) ∧ w'.cell? ⟨g2, 10, none⟩ = some (.bool Q2.b2) ∧ w'.cell? ⟨g2, 11, none⟩ = some (.bool Q2.b3) ∧ w'.cell? ⟨g2, 12, none⟩ = some (.bool Q2.b4))) (by kernel_rfl) ?_ (fun hHeld => ?_)
      · exact SK.out _ (Below.refl _ _).drew
      obtain ⟨Y0, hY0⟩ : ∃ Y, Y = X2.drew := ⟨_, rfl⟩
      have B := Lib.hid (show Below X2.heap.size X2 Y0 from hY0 ▸ (Below.refl _ _).drew)
      rw [← hY0] at hHeld ⊢
      clear hY0
      refine take_op2 (i := 0) (v := ?_) rfl (by kernel_rfl) (by kernel_rfl) (by kernel_rfl) (fun _ _ _ h => h) (Or.inl ⟨wanted_plain rfl, ?_⟩) (by assumption) ?_
      rotate_left
      · (intro w hSw; (try dsimp only at hSw); go_simp; try with_reducible rfl)
      intro act_ hact_; simp only [Act.put, List.setIfInBounds_toArray, List.set_cons_zero, List.set_cons_succ] at hact_; subst hact_
      refine wpAnyH_ready (rs := [1, 6]) (by kernel_rfl) (List.cons_ne_nil _ _) ?_
      refine AllReadyH.cons rfl (fun K hK => ?_) ?_
      · go_simp
        go_wp2_with (go_at_call 20; ((with_reducible refine (HOF3.out _).mono ?_); rintro e Y1 ⟨rfl, b⟩))
        have B := Lib.hid (thn16 B.out b)
        clear b
        refine hK.out _ _ ?_ (fun hHeld2 => ?_)
        · exact SK.out _ B.out
        clear hK K
        have hHeld := hHeld2
        clear hHeld2
        refine wpAnyH_ready (rs := [2, 6]) (by kernel_rfl) (List.cons_ne_nil _ _) ?_
        refine AllReadyH.cons rfl (fun K hK => ?_) ?_
        · go_simp
          go_wp2_with (go_at_call 9; ((with_reducible refine (HST3.out Y1 (HON.out _ _ HG.out (thn16 BV3.out B.out)) p2 (HPA3.out.on B.out)).mono ?_); rintro e Y2 ⟨p3, u3, rfl, own3, r3, b⟩))
          have OW := Lib.hid (own3)
          have B := Lib.hid (thn16 B.out b)
          have RN := Lib.hid r3
          clear own3 r3 b
          refine hK.out _ _ ?_ (fun hHeld2 => ?_)
          · exact SK.out _ B.out
          clear hK K
          have hHeld := hHeld2
          clear hHeld2
          refine take_op2 (i := 3) (v := ?_) rfl (by kernel_rfl) (by kernel_rfl) (by kernel_rfl) (fun _ _ _ h => h) (Or.inl ⟨wanted_plain rfl, ?_⟩) (by assumption) ?_
          rotate_left
          · (intro w hSw; (try dsimp only at hSw); go_simp; try with_reducible rfl)
          intro act_ hact_; simp only [Act.put, List.setIfInBounds_toArray, List.set_cons_zero, List.set_cons_succ] at hact_; subst hact_
          refine take_op2 (i := 4) (v := ?_) rfl (by kernel_rfl) (by kernel_rfl) (by kernel_rfl) (fun _ _ _ h => h) (Or.inl ⟨wanted_plain rfl, ?_⟩) (by assumption) ?_
          rotate_left
          · (intro w hSw; (try dsimp only at hSw); go_simp; try with_reducible rfl)
          intro act_ hact_; simp only [Act.put, List.setIfInBounds_toArray, List.set_cons_zero, List.set_cons_succ] at hact_; subst hact_
          refine take_op2 (i := 5) (v := ?_) rfl (by kernel_rfl) (by kernel_rfl) (by kernel_rfl) (fun _ _ _ h => h) (Or.inl ⟨wanted_plain rfl, ?_⟩) (by assumption) ?_
          rotate_left
          · (intro w hSw; (try dsimp only at hSw); go_simp; try with_reducible rfl)
          intro act_ hact_; simp only [Act.put, List.setIfInBounds_toArray, List.set_cons_zero, List.set_cons_succ] at hact_; subst hact_
          refine wpAnyH_ready (rs := [6]) (by kernel_rfl) (List.cons_ne_nil _ _) ?_
          refine AllReadyH.cons rfl (fun K hK => ?_) AllReadyH.nil
          go_simp
          refine hK.out _ _ ?_ (fun hHeld2 => ?_)
          · exact SK.out _ (B.out.alloc B.out.size _)
          clear hK K
          obtain ⟨Y3, hN⟩ : ∃ X, X = World.alloc Y2 (.cells #[.slice none 0 0, .int .u8 0, .slice none 0 0, .int .u32 0, .int .u8 0, .slice none 0 0, .slice none 0 0, .int .u8 0, .int .u64 0, .bool false, .bool false, .bool false, .bool false] 30) := ⟨_, rfl⟩
          have b : Below Y2.heap.size Y2 Y3 := hN ▸ below16 Y2 (.cells #[.slice none 0 0, .int .u8 0, .slice none 0 0, .int .u32 0, .int .u8 0, .slice none 0 0, .slice none 0 0, .int .u8 0, .int .u64 0, .bool false, .bool false, .bool false, .bool false] 30)
          have ZA := Lib.hid (show Y3.heap[Y2.heap.size]? = some (.cells ([.slice none 0 0, .int .u8 0, .slice none 0 0, .int .u32 0, .int .u8 0, .slice none 0 0, .slice none 0 0, .int .u8 0, .int .u64 0, .bool false, .bool false, .bool false, .bool false] : List Value).toArray 30 (0, 0)) from hN ▸ heap_alloc_new Y2 _)
          have GA := Lib.hid (show X2.heap.size ≤ Y2.heap.size from B.out.size)
          rw [← hN] at hHeld2 ⊢
          have B := Lib.hid (thn16 B.out b)
          have OW := Lib.hid (OW.out.on b)
          have RN := Lib.hid (owns_on16 RN.out b)
          obtain ⟨gA, hg⟩ : ∃ g, g = Y2.heap.size := ⟨_, rfl⟩
          rw [← hg] at ZA GA ⊢
          clear b hN hg
          have hHeld := hHeld2
          clear hHeld2
          refine wpAnyH_ready (rs := [7]) (by kernel_rfl) (List.cons_ne_nil _ _) ?_
          refine AllReadyH.cons rfl (fun K hK => ?_) AllReadyH.nil
          refine step_storeL17 rfl 30 (.tmp 4) (.tmp 26) (by rfl) gA 0 (plC p3 Q3) (by rfl) (by rfl) (there_row17 ZA.out (show 0 + 13 ≤ 13 by decide)) pl_info (plC_one _ _) ?_
          change K (Act.put _ none _) _
          simp only [Act.put]
          refine hK.out _ _ ?_ (fun hHeld2 => ?_)
          · exact SK.out _ (below_setCells16 GA.out (plC p3 Q3) 0 _ B.out)
          clear hK K
          have hHeld := hHeld2
          clear hHeld2
          refine take_op2 (i := 8) (v := ?_) rfl (by kernel_rfl) (by kernel_rfl) (by kernel_rfl) (fun _ _ _ h => h) (Or.inl ⟨wanted_plain rfl, ?_⟩) (by assumption) ?_
          rotate_left
          · (intro w hSw; (try dsimp only at hSw); go_simp; try with_reducible rfl)
          intro act_ hact_; simp only [Act.put, List.setIfInBounds_toArray, List.set_cons_zero, List.set_cons_succ] at hact_; subst hact_
          refine wpAnyH_done (by kernel_rfl) ?_ _
          have FIN := Lib.hid (fin17 B.out GA.out ZA.out rfl OW.out RN.out)
          generalize Y3.setCells gA 0 (plC p3 Q3) = Z at FIN ⊢
          exact KEY Z gA p3 u3 FIN.out
        refine AllReadyH.cons rfl (fun K hK => ?_) ?_
        · go_simp
          refine hK.out _ _ ?_ (fun hHeld2 => ?_)
          · exact SK.out _ (B.out.alloc B.out.size _)
          clear hK K
          obtain ⟨Y2, hN⟩ : ∃ X, X = World.alloc Y1 (.cells #[.slice none 0 0, .int .u8 0, .slice none 0 0, .int .u32 0, .int .u8 0, .slice none 0 0, .slice none 0 0, .int .u8 0, .int .u64 0, .bool false, .bool false, .bool false, .bool false] 30) := ⟨_, rfl⟩
          have b : Below Y1.heap.size Y1 Y2 := hN ▸ below16 Y1 (.cells #[.slice none 0 0, .int .u8 0, .slice none 0 0, .int .u32 0, .int .u8 0, .slice none 0 0, .slice none 0 0, .int .u8 0, .int .u64 0, .bool false, .bool false, .bool false, .bool false] 30)
          have ZA := Lib.hid (show Y2.heap[Y1.heap.size]? = some (.cells ([.slice none 0 0, .int .u8 0, .slice none 0 0, .int .u32 0, .int .u8 0, .slice none 0 0, .slice none 0 0, .int .u8 0, .int .u64 0, .bool false, .bool false, .bool false, .bool false] : List Value).toArray 30 (0, 0)) from hN ▸ heap_alloc_new Y1 _)
          have GA := Lib.hid (show X2.heap.size ≤ Y1.heap.size from B.out.size)
          rw [← hN] at hHeld2 ⊢
          have B := Lib.hid (thn16 B.out b)
          obtain ⟨gA, hg⟩ : ∃ g, g = Y1.heap.size := ⟨_, rfl⟩
          rw [← hg] at ZA GA ⊢
          clear b hN hg
          have hHeld := hHeld2
          clear hHeld2
          refine wpAnyH_ready (rs := [2]) (by kernel_rfl) (List.cons_ne_nil _ _) ?_
          refine AllReadyH.cons rfl (fun K hK => ?_) AllReadyH.nil
          go_simp
          go_wp2_with (go_at_call 9; ((with_reducible refine (HST3.out Y2 (HON.out _ _ HG.out (thn16 BV3.out B.out)) p2 (HPA3.out.on B.out)).mono ?_); rintro e Y3 ⟨p3, u3, rfl, own3, r3, b⟩))
          have OW := Lib.hid (own3)
          have B := Lib.hid (thn16 B.out b)
          have ZA := Lib.hid (blk_on ZA.out b)
          have RN := Lib.hid r3
          clear own3 r3 b
          refine hK.out _ _ ?_ (fun hHeld2 => ?_)
          · exact SK.out _ B.out
          clear hK K
          have hHeld := hHeld2
          clear hHeld2
          refine take_op2 (i := 3) (v := ?_) rfl (by kernel_rfl) (by kernel_rfl) (by kernel_rfl) (fun _ _ _ h => h) (Or.inl ⟨wanted_plain rfl, ?_⟩) (by assumption) ?_
          rotate_left
          · (intro w hSw; (try dsimp only at hSw); go_simp; try with_reducible rfl)
          intro act_ hact_; simp only [Act.put, List.setIfInBounds_toArray, List.set_cons_zero, List.set_cons_succ] at hact_; subst hact_
          refine take_op2 (i := 4) (v := ?_) rfl (by kernel_rfl) (by kernel_rfl) (by kernel_rfl) (fun _ _ _ h => h) (Or.inl ⟨wanted_plain rfl, ?_⟩) (by assumption) ?_
          rotate_left
          · (intro w hSw; (try dsimp only at hSw); go_simp; try with_reducible rfl)
          intro act_ hact_; simp only [Act.put, List.setIfInBounds_toArray, List.set_cons_zero, List.set_cons_succ] at hact_; subst hact_
          refine take_op2 (i := 5) (v := ?_) rfl (by kernel_rfl) (by kernel_rfl) (by kernel_rfl) (fun _ _ _ h => h) (Or.inl ⟨wanted_plain rfl, ?_⟩) (by assumption) ?_
          rotate_left
          · (intro w hSw; (try dsimp only at hSw); go_simp; try with_reducible rfl)
          intro act_ hact_; simp only [Act.put, List.setIfInBounds_toArray, List.set_cons_zero, List.set_cons_succ] at hact_; subst hact_
          refine wpAnyH_ready (rs := [7]) (by kernel_rfl) (List.cons_ne_nil _ _) ?_
          refine AllReadyH.cons rfl (fun K hK => ?_) AllReadyH.nil
          refine step_storeL17 rfl 30 (.tmp 4) (.tmp 26) (by rfl) gA 0 (plC p3 Q3) (by rfl) (by rfl) (there_row17 ZA.out (show 0 + 13 ≤ 13 by decide)) pl_info (plC_one _ _) ?_
          change K (Act.put _ none _) _
          simp only [Act.put]
          refine hK.out _ _ ?_ (fun hHeld2 => ?_)
          · exact SK.out _ (below_setCells16 GA.out (plC p3 Q3) 0 _ B.out)
          clear hK K
          have hHeld := hHeld2
          clear hHeld2
          refine take_op2 (i := 8) (v := ?_) rfl (by kernel_rfl) (by kernel_rfl) (by kernel_rfl) (fun _ _ _ h => h) (Or.inl ⟨wanted_plain rfl, ?_⟩) (by assumption) ?_
          rotate_left
          · (intro w hSw; (try dsimp only at hSw); go_simp; try with_reducible rfl)
          intro act_ hact_; simp only [Act.put, List.setIfInBounds_toArray, List.set_cons_zero, List.set_cons_succ] at hact_; subst hact_
          refine wpAnyH_done (by kernel_rfl) ?_ _
          have FIN := Lib.hid (fin17 B.out GA.out ZA.out rfl OW.out RN.out)
          generalize Y3.setCells gA 0 (plC p3 Q3) = Z at FIN ⊢
          exact KEY Z gA p3 u3 FIN.out
        exact AllReadyH.nil
      refine AllReadyH.cons rfl (fun K hK => ?_) ?_
      · go_simp
        refine hK.out _ _ ?_ (fun hHeld2 => ?_)
        · exact SK.out _ (B.out.alloc B.out.size _)
        clear hK K
        obtain ⟨Y1, hN⟩ : ∃ X, X = World.alloc Y0 (.cells #[.slice none 0 0, .int .u8 0, .slice none 0 0, .int .u32 0, .int .u8 0, .slice none 0 0, .slice none 0 0, .int .u8 0, .int .u64 0, .bool false, .bool false, .bool false, .bool false] 30) := ⟨_, rfl⟩
        have b : Below Y0.heap.size Y0 Y1 := hN ▸ below16 Y0 (.cells #[.slice none 0 0, .int .u8 0, .slice none 0 0, .int .u32 0, .int .u8 0, .slice none 0 0, .slice none 0 0, .int .u8 0, .int .u64 0, .bool false, .bool false, .bool false, .bool false] 30)
        have ZA := Lib.hid (show Y1.heap[Y0.heap.size]? = some (.cells ([.slice none 0 0, .int .u8 0, .slice none 0 0, .int .u32 0, .int .u8 0, .slice none 0 0, .slice none 0 0, .int .u8 0, .int .u64 0, .bool false, .bool false, .bool false, .bool false] : List Value).toArray 30 (0, 0)) from hN ▸ heap_alloc_new Y0 _)
        have GA := Lib.hid (show X2.heap.size ≤ Y0.heap.size from B.out.size)
        rw [← hN] at hHeld2 ⊢
        have B := Lib.hid (thn16 B.out b)
        obtain ⟨gA, hg⟩ : ∃ g, g = Y0.heap.size := ⟨_, rfl⟩
        rw [← hg] at ZA GA ⊢
        clear b hN hg
        have hHeld := hHeld2
        clear hHeld2
        refine wpAnyH_ready (rs := [1]) (by kernel_rfl) (List.cons_ne_nil _ _) ?_
        refine AllReadyH.cons rfl (fun K hK => ?_) AllReadyH.nil
        go_simp
        go_wp2_with (go_at_call 20; ((with_reducible refine (HOF3.out _).mono ?_); rintro e Y2 ⟨rfl, b⟩))
        have B := Lib.hid (thn16 B.out b)
        have ZA := Lib.hid (blk_on ZA.out b)
        clear b
        refine hK.out _ _ ?_ (fun hHeld2 => ?_)
        · exact SK.out _ B.out
        clear hK K
        have hHeld := hHeld2
        clear hHeld2
        refine wpAnyH_ready (rs := [2]) (by kernel_rfl) (List.cons_ne_nil _ _) ?_
        refine AllReadyH.cons rfl (fun K hK => ?_) AllReadyH.nil
        go_simp
        go_wp2_with (go_at_call 9; ((with_reducible refine (HST3.out Y2 (HON.out _ _ HG.out (thn16 BV3.out B.out)) p2 (HPA3.out.on B.out)).mono ?_); rintro e Y3 ⟨p3, u3, rfl, own3, r3, b⟩))
        have OW := Lib.hid (own3)
        have B := Lib.hid (thn16 B.out b)
        have ZA := Lib.hid (blk_on ZA.out b)
        have RN := Lib.hid r3
        clear own3 r3 b
        refine hK.out _ _ ?_ (fun hHeld2 => ?_)
        · exact SK.out _ B.out
        clear hK K
        have hHeld := hHeld2
        clear hHeld2
        refine take_op2 (i := 3) (v := ?_) rfl (by kernel_rfl) (by kernel_rfl) (by kernel_rfl) (fun _ _ _ h => h) (Or.inl ⟨wanted_plain rfl, ?_⟩) (by assumption) ?_
        rotate_left
        · (intro w hSw; (try dsimp only at hSw); go_simp; try with_reducible rfl)
        intro act_ hact_; simp only [Act.put, List.setIfInBounds_toArray, List.set_cons_zero, List.set_cons_succ] at hact_; subst hact_
        refine take_op2 (i := 4) (v := ?_) rfl (by kernel_rfl) (by kernel_rfl) (by kernel_rfl) (fun _ _ _ h => h) (Or.inl ⟨wanted_plain rfl, ?_⟩) (by assumption) ?_
        rotate_left
        · (intro w hSw; (try dsimp only at hSw); go_simp; try with_reducible rfl)
        intro act_ hact_; simp only [Act.put, List.setIfInBounds_toArray, List.set_cons_zero, List.set_cons_succ] at hact_; subst hact_
        refine take_op2 (i := 5) (v := ?_) rfl (by kernel_rfl) (by kernel_rfl) (by kernel_rfl) (fun _ _ _ h => h) (Or.inl ⟨wanted_plain rfl, ?_⟩) (by assumption) ?_
        rotate_left
        · (intro w hSw; (try dsimp only at hSw); go_simp; try with_reducible rfl)
        intro act_ hact_; simp only [Act.put, List.setIfInBounds_toArray, List.set_cons_zero, List.set_cons_succ] at hact_; subst hact_
        refine wpAnyH_ready (rs := [7]) (by kernel_rfl) (List.cons_ne_nil _ _) ?_
        refine AllReadyH.cons rfl (fun K hK => ?_) AllReadyH.nil
        refine step_storeL17 rfl 30 (.tmp 4) (.tmp 26) (by rfl) gA 0 (plC p3 Q3) (by rfl) (by rfl) (there_row17 ZA.out (show 0 + 13 ≤ 13 by decide)) pl_info (plC_one _ _) ?_
        change K (Act.put _ none _) _
        simp only [Act.put]
        refine hK.out _ _ ?_ (fun hHeld2 => ?_)
        · exact SK.out _ (below_setCells16 GA.out (plC p3 Q3) 0 _ B.out)
        clear hK K
        have hHeld := hHeld2
        clear hHeld2
        refine take_op2 (i := 8) (v := ?_) rfl (by kernel_rfl) (by kernel_rfl) (by kernel_rfl) (fun _ _ _ h => h) (Or.inl ⟨wanted_plain rfl, ?_⟩) (by assumption) ?_
        rotate_left
        · (intro w hSw; (try dsimp only at hSw); go_simp; try with_reducible rfl)
        intro act_ hact_; simp only [Act.put, List.setIfInBounds_toArray, List.set_cons_zero, List.set_cons_succ] at hact_; subst hact_
        refine wpAnyH_done (by kernel_rfl) ?_ _
        have FIN := Lib.hid (fin17 B.out GA.out ZA.out rfl OW.out RN.out)
        generalize Y3.setCells gA 0 (plC p3 Q3) = Z at FIN ⊢
        exact KEY Z gA p3 u3 FIN.out
      exact AllReadyH.nil
    case h23 =>
      intro X3 g3 p3 u3 hF
      obtain ⟨bF, gF, xF, pF, rF⟩ := hF
      have BV4 := Lib.hid (thn16 BV3.out bF)
      have BF3 := Lib.hid bF
      have HBX4 := Lib.hid xF
      have HPA4 := Lib.hid pF
      have HR3 := Lib.hid rF
      obtain ⟨qu3, cu3, hu, hru3⟩ := rF
      simp only [List.length_cons, List.length_nil] at hu
      subst hu
      clear bF gF xF pF
      go_wp2_with fail
      have SK := Lib.hid (fun (Y : World) (b : Below X3.heap.size X3 Y) => (show (fun w' => w'.cell? ⟨g3, 0, none⟩ = some (.slice p3.aq p3.an p3.ac) ∧ w'.cell? ⟨g3, 1, none⟩ = some (.int .u8 (Q3.fl.1 : Nat)) ∧ w'.cell? ⟨g3, 2, none⟩ = some (.slice p3.fq p3.fn p3.fc) ∧ w'.cell? ⟨g3, 3, none⟩ = some (.int .u32 (Q3.dn : Nat)) ∧ w'.cell? ⟨g3, 4, none⟩ = some (.int .u8 (Q3.lg.1 : Nat)) ∧ w'.cell? ⟨g3, 5, none⟩ = some (.slice p3.lq p3.ln p3.lc) ∧ w'.cell? ⟨g3, 6, none⟩ = some (.slice p3.mq p3.mn p3.mc) ∧ w'.cell? ⟨g3, 7, none⟩ = some (.int .u8 (Q3.fm : Nat)) ∧ w'.cell? ⟨g3, 8, none⟩ = some (.int .u64 (Q3.sp : Nat)) ∧ w'.cell? ⟨g3, 9, none⟩ = some (.bool Q3.b1) ∧ w'.cell? ⟨g3, 10, none⟩ = some (.bool Q3.b2) ∧ w'.cell? ⟨g3, 11, none⟩ = some (.bool Q3.b3) ∧ w'.cell? ⟨g3, 12, none⟩ = some (.bool Q3.b4)) Y from pcells17 (blk_on HBX4.out b)))
      refine key17 (F := F17 X3 Q4 []) (R := ?R4) ?h14 ?h24
      case h14 =>
        intro KEY
        refine wp_region_held_drew (S := (fun w' => w'.cell? ⟨g3, 0, none⟩ = some (.slice p3.aq p3.an p3.ac) ∧ w'.cell? ⟨g3, 1, none⟩ = some (.int .u8 (Q3.fl.1 : Nat)) ∧ w'.cell? ⟨g3, 2, none⟩ = some (.slice p3.fq p3.fn p3.fc) ∧ w'.cell? ⟨g3, 3, none⟩ = some (.int .u32 (Q3.dn : Nat)) ∧ w'.cell? ⟨g3, 4, none⟩ = some (.int .u8 (Q3.lg.1 : Nat)) ∧ w'.cell? ⟨g3, 5, none⟩ = some (.slice p3.lq p3.ln p3.lc) ∧ w'.cell? ⟨g3, 6, none⟩ = some (.slice p3.mq p3.mn p3.mc) ∧ w'.cell? ⟨g3, 7, none⟩ = some (.int .u8 (Q3.fm : Nat)) ∧ w'.cell? ⟨g3, 8, none⟩ = some (.int .u64 (Q3.sp : Nat)) ∧ w'.cell? ⟨g3, 9, none⟩ = some (.bool Q3.b1) ∧ w'.cell? ⟨g3, 10, none⟩ = some (.bool Q3.b2) ∧ w'.cell? ⟨g3, 11, none⟩ = some (.bool Q3.b3) ∧ w'.cell? ⟨g3, 12, none⟩ = some (.bool Q3.b4))) (by kernel_rfl) ?_ (fun hHeld => ?_)
        · exact SK.out _ (Below.refl _ _).drew
        obtain ⟨Y0, hY0⟩ : ∃ Y, Y = X3.drew := ⟨_, rfl⟩
        have B := Lib.hid (show Below X3.heap.size X3 Y0 from hY0 ▸ (Below.refl _ _).drew)
        rw [← hY0] at hHeld ⊢
        clear hY0
        refine take_op2 (i := 0) (v := ?_) rfl (by kernel_rfl) (by kernel_rfl) (by kernel_rfl) (fun _ _ _ h => h) (Or.inl ⟨wanted_plain rfl, ?_⟩) (by assumption) ?_
        rotate_left
        · (intro w hSw; (try dsimp only at hSw); go_simp; try with_reducible rfl)
        intro act_ hact_; simp only [Act.put, List.setIfInBounds_toArray, List.set_cons_zero, List.set_cons_succ] at hact_; subst hact_
        refine wpAnyH_ready (rs := [1, 6]) (by kernel_rfl) (List.cons_ne_nil _ _) ?_
        refine AllReadyH.cons rfl (fun K hK => ?_) ?_
        · go_simp
          go_wp2_with (go_at_call 20; ((with_reducible refine (HOF4.out _).mono ?_); rintro e Y1 ⟨rfl, b⟩))
          have B := Lib.hid (thn16 B.out b)
          clear b
          refine hK.out _ _ ?_ (fun hHeld2 => ?_)
          · exact SK.out _ B.out
          clear hK K
          have hHeld := hHeld2
          clear hHeld2
          refine wpAnyH_ready (rs := [2, 6]) (by kernel_rfl) (List.cons_ne_nil _ _) ?_
          refine AllReadyH.cons rfl (fun K hK => ?_) ?_
          · go_simp
            go_wp2_with (go_at_call 9; ((with_reducible refine (HST4.out Y1 (HON.out _ _ HG.out (thn16 BV4.out B.out)) p3 (HPA4.out.on B.out)).mono ?_); rintro e Y2 ⟨p3, u3, rfl, own3, r3, b⟩))
            have OW := Lib.hid (own3)
            have B := Lib.hid (thn16 B.out b)
            have RN := Lib.hid r3
            clear own3 r3 b
            refine hK.out _ _ ?_ (fun hHeld2 => ?_)
            · exact SK.out _ B.out
            clear hK K
            have hHeld := hHeld2
            clear hHeld2
            refine take_op2 (i := 3) (v := ?_) rfl (by kernel_rfl) (by kernel_rfl) (by kernel_rfl) (fun _ _ _ h => h) (Or.inl ⟨wanted_plain rfl, ?_⟩) (by assumption) ?_
            rotate_left
            · (intro w hSw; (try dsimp only at hSw); go_simp; try with_reducible rfl)
            intro act_ hact_; simp only [Act.put, List.setIfInBounds_toArray, List.set_cons_zero, List.set_cons_succ] at hact_; subst hact_
            refine take_op2 (i := 4) (v := ?_) rfl (by kernel_rfl) (by kernel_rfl) (by kernel_rfl) (fun _ _ _ h => h) (Or.inl ⟨wanted_plain rfl, ?_⟩) (by assumption) ?_
            rotate_left
            · (intro w hSw; (try dsimp only at hSw); go_simp; try with_reducible rfl)
            intro act_ hact_; simp only [Act.put, List.setIfInBounds_toArray, List.set_cons_zero, List.set_cons_succ] at hact_; subst hact_
            refine take_op2 (i := 5) (v := ?_) rfl (by kernel_rfl) (by kernel_rfl) (by kernel_rfl) (fun _ _ _ h => h) (Or.inl ⟨wanted_plain rfl, ?_⟩) (by assumption) ?_
            rotate_left
            · (intro w hSw; (try dsimp only at hSw); go_simp; try with_reducible rfl)
            intro act_ hact_; simp only [Act.put, List.setIfInBounds_toArray, List.set_cons_zero, List.set_cons_succ] at hact_; subst hact_
            refine wpAnyH_ready (rs := [6]) (by kernel_rfl) (List.cons_ne_nil _ _) ?_
            refine AllReadyH.cons rfl (fun K hK => ?_) AllReadyH.nil
            go_simp
            refine hK.out _ _ ?_ (fun hHeld2 => ?_)
            · exact SK.out _ (B.out.alloc B.out.size _)
            clear hK K
            obtain ⟨Y3, hN⟩ : ∃ X, X = World.alloc Y2 (.cells #[.slice none 0 0, .int .u8 0, .slice none 0 0, .int .u32 0, .int .u8 0, .slice none 0 0, .slice none 0 0, .int .u8 0, .int .u64 0, .bool false, .bool false, .bool false, .bool false] 30) := ⟨_, rfl⟩
            have b : Below Y2.heap.size Y2 Y3 := hN ▸ below16 Y2 (.cells #[.slice none 0 0, .int .u8 0, .slice none 0 0, .int .u32 0, .int .u8 0, .slice none 0 0, .slice none 0 0, .int .u8 0, .int .u64 0, .bool false, .bool false, .bool false, .bool false] 30)
            have ZA := Lib.hid (show Y3.heap[Y2.heap.size]? = some (.cells ([.slice none 0 0, .int .u8 0, .slice none 0 0, .int .u32 0, .int .u8 0, .slice none 0 0, .slice none 0 0, .int .u8 0, .int .u64 0, .bool false, .bool false, .bool false, .bool false] : List Value).toArray 30 (0, 0)) from hN ▸ heap_alloc_new Y2 _)
            have GA := Lib.hid (show X3.heap.size ≤ Y2.heap.size from B.out.size)
            rw [← hN] at hHeld2 ⊢
            have B := Lib.hid (thn16 B.out b)
            have OW := Lib.hid (OW.out.on b)
            have RN := Lib.hid (owns_on16 RN.out b)
            obtain ⟨gA, hg⟩ : ∃ g, g = Y2.heap.size := ⟨_, rfl⟩
            rw [← hg] at ZA GA ⊢
            clear b hN hg
            have hHeld := hHeld2
            clear hHeld2
            refine wpAnyH_ready (rs := [7]) (by kernel_rfl) (List.cons_ne_nil _ _) ?_
            refine AllReadyH.cons rfl (fun K hK => ?_) AllReadyH.nil
            refine step_storeL17 rfl 30 (.tmp 6) (.tmp 32) (by rfl) gA 0 (plC p3 Q4) (by rfl) (by rfl) (there_row17 ZA.out (show 0 + 13 ≤ 13 by decide)) pl_info (plC_one _ _) ?_
            change K (Act.put _ none _) _
            simp only [Act.put]
            refine hK.out _ _ ?_ (fun hHeld2 => ?_)
            · exact SK.out _ (below_setCells16 GA.out (plC p3 Q4) 0 _ B.out)
            clear hK K
            have hHeld := hHeld2
            clear hHeld2
            refine take_op2 (i := 8) (v := ?_) rfl (by kernel_rfl) (by kernel_rfl) (by kernel_rfl) (fun _ _ _ h => h) (Or.inl ⟨wanted_plain rfl, ?_⟩) (by assumption) ?_
            rotate_left
            · (intro w hSw; (try dsimp only at hSw); go_simp; try with_reducible rfl)
            intro act_ hact_; simp only [Act.put, List.setIfInBounds_toArray, List.set_cons_zero, List.set_cons_succ] at hact_; subst hact_
            refine wpAnyH_done (by kernel_rfl) ?_ _
            have FIN := Lib.hid (fin17 B.out GA.out ZA.out rfl OW.out RN.out)
            generalize Y3.setCells gA 0 (plC p3 Q4) = Z at FIN ⊢
            exact KEY Z gA p3 u3 FIN.out
          refine AllReadyH.cons rfl (fun K hK => ?_) ?_
          · go_simp
            refine hK.out _ _ ?_ (fun hHeld2 => ?_)
            · exact SK.out _ (B.out.alloc B.out.size _)
            clear hK K
            obtain ⟨Y2, hN⟩ : ∃ X, X = World.alloc Y1 (.cells #[.slice none 0 0, .int .u8 0, .slice none 0 0, .int .u32 0, .int .u8 0, .slice none 0 0, .slice none 0 0, .int .u8 0, .int .u64 0, .bool false, .bool false, .bool false, .bool false] 30) := ⟨_, rfl⟩
            have b : Below Y1.heap.size Y1 Y2 := hN ▸ below16 Y1 (.cells #[.slice none 0 0, .int .u8 0, .slice none 0 0, .int .u32 0, .int .u8 0, .slice none 0 0, .slice none 0 0, .int .u8 0, .int .u64 0, .bool false, .bool false, .bool false, .bool false] 30)
            have ZA := Lib.hid (show Y2.heap[Y1.heap.size]? = some (.cells ([.slice none 0 0, .int .u8 0, .slice none 0 0, .int .u32 0, .int .u8 0, .slice none 0 0, .slice none 0 0, .int .u8 0, .int .u64 0, .bool false, .bool false, .bool false, .bool false] : List Value).toArray 30 (0, 0)) from hN ▸ heap_alloc_new Y1 _)
            have GA := Lib.hid (show X3.heap.size ≤ Y1.heap.size from B.out.size)
            rw [← hN] at hHeld2 ⊢
            have B := Lib.hid (thn16 B.out b)
            obtain ⟨gA, hg⟩ : ∃ g, g = Y1.heap.size := ⟨_, rfl⟩
            rw [← hg] at ZA GA ⊢
            clear b hN hg
            have hHeld := hHeld2
            clear hHeld2
            refine wpAnyH_ready (rs := [2]) (by kernel_rfl) (List.cons_ne_nil _ _) ?_
            refine AllReadyH.cons rfl (fun K hK => ?_) AllReadyH.nil
            go_simp
            go_wp2_with (go_at_call 9; ((with_reducible refine (HST4.out Y2 (HON.out _ _ HG.out (thn16 BV4.out B.out)) p3 (HPA4.out.on B.out)).mono ?_); rintro e Y3 ⟨p3, u3, rfl, own3, r3, b⟩))
            have OW := Lib.hid (own3)
            have B := Lib.hid (thn16 B.out b)
            have ZA := Lib.hid (blk_on ZA.out b)
            have RN := Lib.hid r3
            clear own3 r3 b
            refine hK.out _ _ ?_ (fun hHeld2 => ?_)
            · exact SK.out _ B.out
            clear hK K
            have hHeld := hHeld2
            clear hHeld2
            refine take_op2 (i := 3) (v := ?_) rfl (by kernel_rfl) (by kernel_rfl) (by kernel_rfl) (fun _ _ _ h => h) (Or.inl ⟨wanted_plain rfl, ?_⟩) (by assumption) ?_
            rotate_left
            · (intro w hSw; (try dsimp only at hSw); go_simp; try with_reducible rfl)
            intro act_ hact_; simp only [Act.put, List.setIfInBounds_toArray, List.set_cons_zero, List.set_cons_succ] at hact_; subst hact_
            refine take_op2 (i := 4) (v := ?_) rfl (by kernel_rfl) (by kernel_rfl) (by kernel_rfl) (fun _ _ _ h => h) (Or.inl ⟨wanted_plain rfl, ?_⟩) (by assumption) ?_
            rotate_left
            · (intro w hSw; (try dsimp only at hSw); go_simp; try with_reducible rfl)
            intro act_ hact_; simp only [Act.put, List.setIfInBounds_toArray, List.set_cons_zero, List.set_cons_succ] at hact_; subst hact_
            refine take_op2 (i := 5) (v := ?_) rfl (by kernel_rfl) (by kernel_rfl) (by kernel_rfl) (fun _ _ _ h => h) (Or.inl ⟨wanted_plain rfl, ?_⟩) (by assumption) ?_
            rotate_left
            · (intro w hSw; (try dsimp only at hSw); go_simp; try with_reducible rfl)
            intro act_ hact_; simp only [Act.put, List.setIfInBounds_toArray, List.set_cons_zero, List.set_cons_succ] at hact_; subst hact_
            refine wpAnyH_ready (rs := [7]) (by kernel_rfl) (List.cons_ne_nil _ _) ?_
            refine AllReadyH.cons rfl (fun K hK => ?_) AllReadyH.nil
            refine step_storeL17 rfl 30 (.tmp 6) (.tmp 32) (by rfl) gA 0 (plC p3 Q4) (by rfl) (by rfl) (there_row17 ZA.out (show 0 + 13 ≤ 13 by decide)) pl_info (plC_one _ _) ?_
            change K (Act.put _ none _) _
            simp only [Act.put]
            refine hK.out _ _ ?_ (fun hHeld2 => ?_)
            · exact SK.out _ (below_setCells16 GA.out (plC p3 Q4) 0 _ B.out)
            clear hK K
            have hHeld := hHeld2
            clear hHeld2
            refine take_op2 (i := 8) (v := ?_) rfl (by kernel_rfl) (by kernel_rfl) (by kernel_rfl) (fun _ _ _ h => h) (Or.inl ⟨wanted_plain rfl, ?_⟩) (by assumption) ?_
            rotate_left
            · (intro w hSw; (try dsimp only at hSw); go_simp; try with_reducible rfl)
            intro act_ hact_; simp only [Act.put, List.setIfInBounds_toArray, List.set_cons_zero, List.set_cons_succ] at hact_; subst hact_
            refine wpAnyH_done (by kernel_rfl) ?_ _
            have FIN := Lib.hid (fin17 B.out GA.out ZA.out rfl OW.out RN.out)
            generalize Y3.setCells gA 0 (plC p3 Q4) = Z at FIN ⊢
            exact KEY Z gA p3 u3 FIN.out
          exact AllReadyH.nil
        refine AllReadyH.cons rfl (fun K hK => ?_) ?_
        · go_simp
          refine hK.out _ _ ?_ (fun hHeld2 => ?_)
          · exact SK.out _ (B.out.alloc B.out.size _)
          clear hK K
          obtain ⟨Y1, hN⟩ : ∃ X, X = World.alloc Y0 (.cells #[.slice none 0 0, .int .u8 0, .slice none 0 0, .int .u32 0, .int .u8 0, .slice none 0 0, .slice none 0 0, .int .u8 0, .int .u64 0, .bool false, .bool false, .bool false, .bool false] 30) := ⟨_, rfl⟩
          have b : Below Y0.heap.size Y0 Y1 := hN ▸ below16 Y0 (.cells #[.slice none 0 0, .int .u8 0, .slice none 0 0, .int .u32 0, .int .u8 0, .slice none 0 0, .slice none 0 0, .int .u8 0, .int .u64 0, .bool false, .bool false, .bool false, .bool false] 30)
          have ZA := Lib.hid (show Y1.heap[Y0.heap.size]? = some (.cells ([.slice none 0 0, .int .u8 0, .slice none 0 0, .int .u32 0, .int .u8 0, .slice none 0 0, .slice none 0 0, .int .u8 0, .int .u64 0, .bool false, .bool false, .bool false, .bool false] : List Value).toArray 30 (0, 0)) from hN ▸ heap_alloc_new Y0 _)
          have GA := Lib.hid (show X3.heap.size ≤ Y0.heap.size from B.out.size)
          rw [← hN] at hHeld2 ⊢
          have B := Lib.hid (thn16 B.out b)
          obtain ⟨gA, hg⟩ : ∃ g, g = Y0.heap.size := ⟨_, rfl⟩
          rw [← hg] at ZA GA ⊢
          clear b hN hg
          have hHeld := hHeld2
          clear hHeld2
          refine wpAnyH_ready (rs := [1]) (by kernel_rfl) (List.cons_ne_nil _ _) ?_
          refine AllReadyH.cons rfl (fun K hK => ?_) AllReadyH.nil
          go_simp
          go_wp2_with (go_at_call 20; ((with_reducible refine (HOF4.out _).mono ?_); rintro e Y2 ⟨rfl, b⟩))
          have B := Lib.hid (thn16 B.out b)
          have ZA := Lib.hid (blk_on ZA.out b)
          clear b
          refine hK.out _ _ ?_ (fun hHeld2 => ?_)
          · exact SK.out _ B.out
          clear hK K
          have hHeld := hHeld2
          clear hHeld2
          refine wpAnyH_ready (rs := [2]) (by kernel_rfl) (List.cons_ne_nil _ _) ?_
          refine AllReadyH.cons rfl (fun K hK => ?_) AllReadyH.nil
          go_simp
          go_wp2_with (go_at_call 9; ((with_reducible refine (HST4.out Y2 (HON.out _ _ HG.out (thn16 BV4.out B.out)) p3 (HPA4.out.on B.out)).mono ?_); rintro e Y3 ⟨p3, u3, rfl, own3, r3, b⟩))
          have OW := Lib.hid (own3)
          have B := Lib.hid (thn16 B.out b)
          have ZA := Lib.hid (blk_on ZA.out b)
          have RN := Lib.hid r3
          clear own3 r3 b
          refine hK.out _ _ ?_ (fun hHeld2 => ?_)
          · exact SK.out _ B.out
          clear hK K
          have hHeld := hHeld2
          clear hHeld2
          refine take_op2 (i := 3) (v := ?_) rfl (by kernel_rfl) (by kernel_rfl) (by kernel_rfl) (fun _ _ _ h => h) (Or.inl ⟨wanted_plain rfl, ?_⟩) (by assumption) ?_
          rotate_left
          · (intro w hSw; (try dsimp only at hSw); go_simp; try with_reducible rfl)
          intro act_ hact_; simp only [Act.put, List.setIfInBounds_toArray, List.set_cons_zero, List.set_cons_succ] at hact_; subst hact_
          refine take_op2 (i := 4) (v := ?_) rfl (by kernel_rfl) (by kernel_rfl) (by kernel_rfl) (fun _ _ _ h => h) (Or.inl ⟨wanted_plain rfl, ?_⟩) (by assumption) ?_
          rotate_left
          · (intro w hSw; (try dsimp only at hSw); go_simp; try with_reducible rfl)
          intro act_ hact_; simp only [Act.put, List.setIfInBounds_toArray, List.set_cons_zero, List.set_cons_succ] at hact_; subst hact_
          refine take_op2 (i := 5) (v := ?_) rfl (by kernel_rfl) (by kernel_rfl) (by kernel_rfl) (fun _ _ _ h => h) (Or.inl ⟨wanted_plain rfl, ?_⟩) (by assumption) ?_
          rotate_left
          · (intro w hSw; (try dsimp only at hSw); go_simp; try with_reducible rfl)
          intro act_ hact_; simp only [Act.put, List.setIfInBounds_toArray, List.set_cons_zero, List.set_cons_succ] at hact_; subst hact_
          refine wpAnyH_ready (rs := [7]) (by kernel_rfl) (List.cons_ne_nil _ _) ?_
          refine AllReadyH.cons rfl (fun K hK => ?_) AllReadyH.nil
          refine step_storeL17 rfl 30 (.tmp 6) (.tmp 32) (by rfl) gA 0 (plC p3 Q4) (by rfl) (by rfl) (there_row17 ZA.out (show 0 + 13 ≤ 13 by decide)) pl_info (plC_one _ _) ?_
          change K (Act.put _ none _) _
          simp only [Act.put]
          refine hK.out _ _ ?_ (fun hHeld2 => ?_)
          · exact SK.out _ (below_setCells16 GA.out (plC p3 Q4) 0 _ B.out)
          clear hK K
          have hHeld := hHeld2
          clear hHeld2
          refine take_op2 (i := 8) (v := ?_) rfl (by kernel_rfl) (by kernel_rfl) (by kernel_rfl) (fun _ _ _ h => h) (Or.inl ⟨wanted_plain rfl, ?_⟩) (by assumption) ?_
          rotate_left
          · (intro w hSw; (try dsimp only at hSw); go_simp; try with_reducible rfl)
          intro act_ hact_; simp only [Act.put, List.setIfInBounds_toArray, List.set_cons_zero, List.set_cons_succ] at hact_; subst hact_
          refine wpAnyH_done (by kernel_rfl) ?_ _
          have FIN := Lib.hid (fin17 B.out GA.out ZA.out rfl OW.out RN.out)
          generalize Y3.setCells gA 0 (plC p3 Q4) = Z at FIN ⊢
          exact KEY Z gA p3 u3 FIN.out
        exact AllReadyH.nil
      case h24 =>
        intro X4 g4 p4 u4 hF
        obtain ⟨bF, gF, xF, pF, rF⟩ := hF
        have BV5 := Lib.hid (thn16 BV4.out bF)
        have BF4 := Lib.hid bF
        have HBX5 := Lib.hid xF
        have HPA5 := Lib.hid pF
        have HR4 := Lib.hid rF
        obtain ⟨qu4, cu4, hu, hru4⟩ := rF
        simp only [List.length_cons, List.length_nil] at hu
        subst hu
        clear bF gF xF pF
        go_wp2_with fail
        have SK := Lib.hid (fun (Y : World) (b : Below X4.heap.size X4 Y) => (show (fun w' => w'.cell? ⟨g4, 0, none⟩ = some (.slice p4.aq p4.an p4.ac) ∧ w'.cell? ⟨g4, 1, none⟩ = some (.int .u8 (Q4.fl.1 : Nat)) ∧ w'.cell? ⟨g4, 2, none⟩ = some (.slice p4.fq p4.fn p4.fc) ∧ w'.cell? ⟨g4, 3, none⟩ = some (.int .u32 (Q4.dn : Nat)) ∧ w'.cell? ⟨g4, 4, none⟩ = some (.int .u8 (Q4.lg.1 : Nat)) ∧ w'.cell? ⟨g4, 5, none⟩ = some (.slice p4.lq p4.ln p4.lc) ∧ w'.cell? ⟨g4, 6, none⟩ = some (.slice p4.mq p4.mn p4.mc) ∧ w'.cell? ⟨g4, 7, none⟩ = some (.int .u8 (Q4.fm : Nat)) ∧ w'.cell? ⟨g4, 8, none⟩ = some (.int .u64 (Q4.sp : Nat)) ∧ w'.cell? ⟨g4, 9, none⟩ = some (.bool Q4.b1) ∧ w'.cell? ⟨g4, 10, none⟩ = some (.bool Q4.b2) ∧ w'.cell? ⟨g4, 11, none⟩ = some (.bool Q4.b3) ∧ w'.cell? ⟨g4, 12, none⟩ = some (.bool Q4.b4)) Y from pcells17 (blk_on HBX5.out b)))
        refine key17 (F := F17 X4 Q4 [⟨⟨#[102]⟩, 3, 160, ⟨#[53, 48, 48, 48]⟩⟩]) (R := ?R5) ?h15 ?h25
        case h15 =>
          intro KEY
          refine wp_region_held_drew (S := (fun w' => w'.cell? ⟨g4, 0, none⟩ = some (.slice p4.aq p4.an p4.ac) ∧ w'.cell? ⟨g4, 1, none⟩ = some (.int .u8 (Q4.fl.1 : Nat)) ∧ w'.cell? ⟨g4, 2, none⟩ = some (.slice p4.fq p4.fn p4.fc) ∧ w'.cell? ⟨g4, 3, none⟩ = some (.int .u32 (Q4.dn : Nat)) ∧ w'.cell? ⟨g4, 4, none⟩ = some (.int .u8 (Q4.lg.1 : Nat)) ∧ w'.cell? ⟨g4, 5, none⟩ = some (.slice p4.lq p4.ln p4.lc) ∧ w'.cell? ⟨g4, 6, none⟩ = some (.slice p4.mq p4.mn p4.mc) ∧ w'.cell? ⟨g4, 7, none⟩ = some (.int .u8 (Q4.fm : Nat)) ∧ w'.cell? ⟨g4, 8, none⟩ = some (.int .u64 (Q4.sp : Nat)) ∧ w'.cell? ⟨g4, 9, none⟩ = some (.bool Q4.b1) ∧ w'.cell? ⟨g4, 10, none⟩ = some (.bool Q4.b2) ∧ w'.cell? ⟨g4, 11, none⟩ = some (.bool Q4.b3) ∧ w'.cell? ⟨g4, 12, none⟩ = some (.bool Q4.b4))) (by kernel_rfl) ?_ (fun hHeld => ?_)
          · exact SK.out _ (Below.refl _ _).drew
          obtain ⟨Y0, hY0⟩ : ∃ Y, Y = X4.drew := ⟨_, rfl⟩
          have B := Lib.hid (show Below X4.heap.size X4 Y0 from hY0 ▸ (Below.refl _ _).drew)
          rw [← hY0] at hHeld ⊢
          clear hY0
          refine take_op2 (i := 0) (v := ?_) rfl (by kernel_rfl) (by kernel_rfl) (by kernel_rfl) (fun _ _ _ h => h) (Or.inl ⟨wanted_plain rfl, ?_⟩) (by assumption) ?_
          rotate_left
          · (intro w hSw; (try dsimp only at hSw); go_simp; try with_reducible rfl)
          intro act_ hact_; simp only [Act.put, List.setIfInBounds_toArray, List.set_cons_zero, List.set_cons_succ] at hact_; subst hact_
          refine wpAnyH_ready (rs := [1, 6]) (by kernel_rfl) (List.cons_ne_nil _ _) ?_
          refine AllReadyH.cons rfl (fun K hK => ?_) ?_
          · go_simp
            go_wp2_with (go_at_call 20; ((with_reducible refine (HOF5.out _).mono ?_); rintro e Y1 ⟨rfl, b⟩))
            have B := Lib.hid (thn16 B.out b)
            clear b
            refine hK.out _ _ ?_ (fun hHeld2 => ?_)
            · exact SK.out _ B.out
            clear hK K
            have hHeld := hHeld2
            clear hHeld2
            refine wpAnyH_ready (rs := [2, 6]) (by kernel_rfl) (List.cons_ne_nil _ _) ?_
            refine AllReadyH.cons rfl (fun K hK => ?_) ?_
            · go_simp
              go_wp2_with (go_at_call 9; ((with_reducible refine (HST5.out Y1 (HON.out _ _ HG.out (thn16 BV5.out B.out)) p4 (HPA5.out.on B.out)).mono ?_); rintro e Y2 ⟨p3, u3, rfl, own3, r3, b⟩))
              have OW := Lib.hid (own3)
              have B := Lib.hid (thn16 B.out b)
              have RN := Lib.hid r3
              clear own3 r3 b
              refine hK.out _ _ ?_ (fun hHeld2 => ?_)
              · exact SK.out _ B.out
              clear hK K
              have hHeld := hHeld2
              clear hHeld2
              refine take_op2 (i := 3) (v := ?_) rfl (by kernel_rfl) (by kernel_rfl) (by kernel_rfl) (fun _ _ _ h => h) (Or.inl ⟨wanted_plain rfl, ?_⟩) (by assumption) ?_
              rotate_left
              · (intro w hSw; (try dsimp only at hSw); go_simp; try with_reducible rfl)
              intro act_ hact_; simp only [Act.put, List.setIfInBounds_toArray, List.set_cons_zero, List.set_cons_succ] at hact_; subst hact_
              refine take_op2 (i := 4) (v := ?_) rfl (by kernel_rfl) (by kernel_rfl) (by kernel_rfl) (fun _ _ _ h => h) (Or.inl ⟨wanted_plain rfl, ?_⟩) (by assumption) ?_
              rotate_left
              · (intro w hSw; (try dsimp only at hSw); go_simp; try with_reducible rfl)
              intro act_ hact_; simp only [Act.put, List.setIfInBounds_toArray, List.set_cons_zero, List.set_cons_succ] at hact_; subst hact_
              refine take_op2 (i := 5) (v := ?_) rfl (by kernel_rfl) (by kernel_rfl) (by kernel_rfl) (fun _ _ _ h => h) (Or.inl ⟨wanted_plain rfl, ?_⟩) (by assumption) ?_
              rotate_left
              · (intro w hSw; (try dsimp only at hSw); go_simp; try with_reducible rfl)
              intro act_ hact_; simp only [Act.put, List.setIfInBounds_toArray, List.set_cons_zero, List.set_cons_succ] at hact_; subst hact_
              refine wpAnyH_ready (rs := [6]) (by kernel_rfl) (List.cons_ne_nil _ _) ?_
              refine AllReadyH.cons rfl (fun K hK => ?_) AllReadyH.nil
              go_simp
              refine hK.out _ _ ?_ (fun hHeld2 => ?_)
              · exact SK.out _ (B.out.alloc B.out.size _)
              clear hK K
              obtain ⟨Y3, hN⟩ : ∃ X, X = World.alloc Y2 (.cells #[.slice none 0 0, .int .u8 0, .slice none 0 0, .int .u32 0, .int .u8 0, .slice none 0 0, .slice none 0 0, .int .u8 0, .int .u64 0, .bool false, .bool false, .bool false, .bool false] 30) := ⟨_, rfl⟩
              have b : Below Y2.heap.size Y2 Y3 := hN ▸ below16 Y2 (.cells #[.slice none 0 0, .int .u8 0, .slice none 0 0, .int .u32 0, .int .u8 0, .slice none 0 0, .slice none 0 0, .int .u8 0, .int .u64 0, .bool false, .bool false, .bool false, .bool false] 30)
              have ZA := Lib.hid (show Y3.heap[Y2.heap.size]? = some (.cells ([.slice none 0 0, .int .u8 0, .slice none 0 0, .int .u32 0, .int .u8 0, .slice none 0 0, .slice none 0 0, .int .u8 0, .int .u64 0, .bool false, .bool false, .bool false, .bool false] : List Value).toArray 30 (0, 0)) from hN ▸ heap_alloc_new Y2 _)
              have GA := Lib.hid (show X4.heap.size ≤ Y2.heap.size from B.out.size)
              rw [← hN] at hHeld2 ⊢
              have B := Lib.hid (thn16 B.out b)
              have OW := Lib.hid (OW.out.on b)
              have RN := Lib.hid (owns_on16 RN.out b)
              obtain ⟨gA, hg⟩ : ∃ g, g = Y2.heap.size := ⟨_, rfl⟩
              rw [← hg] at ZA GA ⊢
              clear b hN hg
              have hHeld := hHeld2
              clear hHeld2
              refine wpAnyH_ready (rs := [7]) (by kernel_rfl) (List.cons_ne_nil _ _) ?_
              refine AllReadyH.cons rfl (fun K hK => ?_) AllReadyH.nil
              refine step_storeL17 rfl 30 (.tmp 8) (.tmp 38) (by rfl) gA 0 (plC p3 Q4) (by rfl) (by rfl) (there_row17 ZA.out (show 0 + 13 ≤ 13 by decide)) pl_info (plC_one _ _) ?_
              change K (Act.put _ none _) _
              simp only [Act.put]
              refine hK.out _ _ ?_ (fun hHeld2 => ?_)
              · exact SK.out _ (below_setCells16 GA.out (plC p3 Q4) 0 _ B.out)
              clear hK K
              have hHeld := hHeld2
              clear hHeld2
              refine take_op2 (i := 8) (v := ?_) rfl (by kernel_rfl) (by kernel_rfl) (by kernel_rfl) (fun _ _ _ h => h) (Or.inl ⟨wanted_plain rfl, ?_⟩) (by assumption) ?_
              rotate_left
              · (intro w hSw; (try dsimp only at hSw); go_simp; try with_reducible rfl)
              intro act_ hact_; simp only [Act.put, List.setIfInBounds_toArray, List.set_cons_zero, List.set_cons_succ] at hact_; subst hact_
              refine wpAnyH_done (by kernel_rfl) ?_ _
              have FIN := Lib.hid (fin17 B.out GA.out ZA.out rfl OW.out RN.out)
              generalize Y3.setCells gA 0 (plC p3 Q4) = Z at FIN ⊢
              exact KEY Z gA p3 u3 FIN.out
            refine AllReadyH.cons rfl (fun K hK => ?_) ?_
            · go_simp
              refine hK.out _ _ ?_ (fun hHeld2 => ?_)
              · exact SK.out _ (B.out.alloc B.out.size _)
              clear hK K
              obtain ⟨Y2, hN⟩ : ∃ X, X = World.alloc Y1 (.cells #[.slice none 0 0, .int .u8 0, .slice none 0 0, .int .u32 0, .int .u8 0, .slice none 0 0, .slice none 0 0, .int .u8 0, .int .u64 0, .bool false, .bool false, .bool false, .bool false] 30) := ⟨_, rfl⟩
              have b : Below Y1.heap.size Y1 Y2 := hN ▸ below16 Y1 (.cells #[.slice none 0 0, .int .u8 0, .slice none 0 0, .int .u32 0, .int .u8 0, .slice none 0 0, .slice none 0 0, .int .u8 0, .int .u64 0, .bool false, .bool false, .bool false, .bool false] 30)
              have ZA := Lib.hid (show Y2.heap[Y1.heap.size]? = some (.cells ([.slice none 0 0, .int .u8 0, .slice none 0 0, .int .u32 0, .int .u8 0, .slice none 0 0, .slice none 0 0, .int .u8 0, .int .u64 0, .bool false, .bool false, .bool false, .bool false] : List Value).toArray 30 (0, 0)) from hN ▸ heap_alloc_new Y1 _)
              have GA := Lib.hid (show X4.heap.size ≤ Y1.heap.size from B.out.size)
              rw [← hN] at hHeld2 ⊢
              have B := Lib.hid (thn16 B.out b)
              obtain ⟨gA, hg⟩ : ∃ g, g = Y1.heap.size := ⟨_, rfl⟩
              rw [← hg] at ZA GA ⊢
              clear b hN hg
              have hHeld := hHeld2
              clear hHeld2
              refine wpAnyH_ready (rs := [2]) (by kernel_rfl) (List.cons_ne_nil _ _) ?_
              refine AllReadyH.cons rfl (fun K hK => ?_) AllReadyH.nil
              go_simp
              go_wp2_with (go_at_call 9; ((with_reducible refine (HST5.out Y2 (HON.out _ _ HG.out (thn16 BV5.out B.out)) p4 (HPA5.out.on B.out)).mono ?_); rintro e Y3 ⟨p3, u3, rfl, own3, r3, b⟩))
              have OW := Lib.hid (own3)
              have B := Lib.hid (thn16 B.out b)
              have ZA := Lib.hid (blk_on ZA.out b)
              have RN := Lib.hid r3
              clear own3 r3 b
              refine hK.out _ _ ?_ (fun hHeld2 => ?_)
              · exact SK.out _ B.out
              clear hK K
              have hHeld := hHeld2
              clear hHeld2
              refine take_op2 (i := 3) (v := ?_) rfl (by kernel_rfl) (by kernel_rfl) (by kernel_rfl) (fun _ _ _ h => h) (Or.inl ⟨wanted_plain rfl, ?_⟩) (by assumption) ?_
              rotate_left
              · (intro w hSw; (try dsimp only at hSw); go_simp; try with_reducible rfl)
              intro act_ hact_; simp only [Act.put, List.setIfInBounds_toArray, List.set_cons_zero, List.set_cons_succ] at hact_; subst hact_
              refine take_op2 (i := 4) (v := ?_) rfl (by kernel_rfl) (by kernel_rfl) (by kernel_rfl) (fun _ _ _ h => h) (Or.inl ⟨wanted_plain rfl, ?_⟩) (by assumption) ?_
              rotate_left
              · (intro w hSw; (try dsimp only at hSw); go_simp; try with_reducible rfl)
              intro act_ hact_; simp only [Act.put, List.setIfInBounds_toArray, List.set_cons_zero, List.set_cons_succ] at hact_; subst hact_
              refine take_op2 (i := 5) (v := ?_) rfl (by kernel_rfl) (by kernel_rfl) (by kernel_rfl) (fun _ _ _ h => h) (Or.inl ⟨wanted_plain rfl, ?_⟩) (by assumption) ?_
              rotate_left
              · (intro w hSw; (try dsimp only at hSw); go_simp; try with_reducible rfl)
              intro act_ hact_; simp only [Act.put, List.setIfInBounds_toArray, List.set_cons_zero, List.set_cons_succ] at hact_; subst hact_
              refine wpAnyH_ready (rs := [7]) (by kernel_rfl) (List.cons_ne_nil _ _) ?_
              refine AllReadyH.cons rfl (fun K hK => ?_) AllReadyH.nil
              refine step_storeL17 rfl 30 (.tmp 8) (.tmp 38) (by rfl) gA 0 (plC p3 Q4) (by rfl) (by rfl) (there_row17 ZA.out (show 0 + 13 ≤ 13 by decide)) pl_info (plC_one _ _) ?_
              change K (Act.put _ none _) _
              simp only [Act.put]
              refine hK.out _ _ ?_ (fun hHeld2 => ?_)
              · exact SK.out _ (below_setCells16 GA.out (plC p3 Q4) 0 _ B.out)
              clear hK K
              have hHeld := hHeld2
              clear hHeld2
              refine take_op2 (i := 8) (v := ?_) rfl (by kernel_rfl) (by kernel_rfl) (by kernel_rfl) (fun _ _ _ h => h) (Or.inl ⟨wanted_plain rfl, ?_⟩) (by assumption) ?_
              rotate_left
              · (intro w hSw; (try dsimp only at hSw); go_simp; try with_reducible rfl)
              intro act_ hact_; simp only [Act.put, List.setIfInBounds_toArray, List.set_cons_zero, List.set_cons_succ] at hact_; subst hact_
              refine wpAnyH_done (by kernel_rfl) ?_ _
              have FIN := Lib.hid (fin17 B.out GA.out ZA.out rfl OW.out RN.out)
              generalize Y3.setCells gA 0 (plC p3 Q4) = Z at FIN ⊢
              exact KEY Z gA p3 u3 FIN.out
            exact AllReadyH.nil
          refine AllReadyH.cons rfl (fun K hK => ?_) ?_
          · go_simp
            refine hK.out _ _ ?_ (fun hHeld2 => ?_)
            · exact SK.out _ (B.out.alloc B.out.size _)
            clear hK K
            obtain ⟨Y1, hN⟩ : ∃ X, X = World.alloc Y0 (.cells #[.slice none 0 0, .int .u8 0, .slice none 0 0, .int .u32 0, .int .u8 0, .slice none 0 0, .slice none 0 0, .int .u8 0, .int .u64 0, .bool false, .bool false, .bool false, .bool false] 30) := ⟨_, rfl⟩
            have b : Below Y0.heap.size Y0 Y1 := hN ▸ below16 Y0 (.cells #[.slice none 0 0, .int .u8 0, .slice none 0 0, .int .u32 0, .int .u8 0, .slice none 0 0, .slice none 0 0, .int .u8 0, .int .u64 0, .bool false, .bool false, .bool false, .bool false] 30)
            have ZA := Lib.hid (show Y1.heap[Y0.heap.size]? = some (.cells ([.slice none 0 0, .int .u8 0, .slice none 0 0, .int .u32 0, .int .u8 0, .slice none 0 0, .slice none 0 0, .int .u8 0, .int .u64 0, .bool false, .bool false, .bool false, .bool false] : List Value).toArray 30 (0, 0)) from hN ▸ heap_alloc_new Y0 _)
            have GA := Lib.hid (show X4.heap.size ≤ Y0.heap.size from B.out.size)
            rw [← hN] at hHeld2 ⊢
            have B := Lib.hid (thn16 B.out b)
            obtain ⟨gA, hg⟩ : ∃ g, g = Y0.heap.size := ⟨_, rfl⟩
            rw [← hg] at ZA GA ⊢
            clear b hN hg
            have hHeld := hHeld2
            clear hHeld2
            refine wpAnyH_ready (rs := [1]) (by kernel_rfl) (List.cons_ne_nil _ _) ?_
            refine AllReadyH.cons rfl (fun K hK => ?_) AllReadyH.nil
            go_simp
            go_wp2_with (go_at_call 20; ((with_reducible refine (HOF5.out _).mono ?_); rintro e Y2 ⟨rfl, b⟩))
            have B := Lib.hid (thn16 B.out b)
            have ZA := Lib.hid (blk_on ZA.out b)
            clear b
            refine hK.out _ _ ?_ (fun hHeld2 => ?_)
            · exact SK.out _ B.out
            clear hK K
            have hHeld := hHeld2
            clear hHeld2
            refine wpAnyH_ready (rs := [2]) (by kernel_rfl) (List.cons_ne_nil _ _) ?_
            refine AllReadyH.cons rfl (fun K hK => ?_) AllReadyH.nil
            go_simp
            go_wp2_with (go_at_call 9; ((with_reducible refine (HST5.out Y2 (HON.out _ _ HG.out (thn16 BV5.out B.out)) p4 (HPA5.out.on B.out)).mono ?_); rintro e Y3 ⟨p3, u3, rfl, own3, r3, b⟩))
            have OW := Lib.hid (own3)
            have B := Lib.hid (thn16 B.out b)
            have ZA := Lib.hid (blk_on ZA.out b)
            have RN := Lib.hid r3
            clear own3 r3 b
            refine hK.out _ _ ?_ (fun hHeld2 => ?_)
            · exact SK.out _ B.out
            clear hK K
            have hHeld := hHeld2
            clear hHeld2
            refine take_op2 (i := 3) (v := ?_) rfl (by kernel_rfl) (by kernel_rfl) (by kernel_rfl) (fun _ _ _ h => h) (Or.inl ⟨wanted_plain rfl, ?_⟩) (by assumption) ?_
            rotate_left
            · (intro w hSw; (try dsimp only at hSw); go_simp; try with_reducible rfl)
            intro act_ hact_; simp only [Act.put, List.setIfInBounds_toArray, List.set_cons_zero, List.set_cons_succ] at hact_; subst hact_
            refine take_op2 (i := 4) (v := ?_) rfl (by kernel_rfl) (by kernel_rfl) (by kernel_rfl) (fun _ _ _ h => h) (Or.inl ⟨wanted_plain rfl, ?_⟩) (by assumption) ?_
            rotate_left
            · (intro w hSw; (try dsimp only at hSw); go_simp; try with_reducible rfl)
            intro act_ hact_; simp only [Act.put, List.setIfInBounds_toArray, List.set_cons_zero, List.set_cons_succ] at hact_; subst hact_
            refine take_op2 (i := 5) (v := ?_) rfl (by kernel_rfl) (by kernel_rfl) (by kernel_rfl) (fun _ _ _ h => h) (Or.inl ⟨wanted_plain rfl, ?_⟩) (by assumption) ?_
            rotate_left
            · (intro w hSw; (try dsimp only at hSw); go_simp; try with_reducible rfl)
            intro act_ hact_; simp only [Act.put, List.setIfInBounds_toArray, List.set_cons_zero, List.set_cons_succ] at hact_; subst hact_
            refine wpAnyH_ready (rs := [7]) (by kernel_rfl) (List.cons_ne_nil _ _) ?_
            refine AllReadyH.cons rfl (fun K hK => ?_) AllReadyH.nil
            refine step_storeL17 rfl 30 (.tmp 8) (.tmp 38) (by rfl) gA 0 (plC p3 Q4) (by rfl) (by rfl) (there_row17 ZA.out (show 0 + 13 ≤ 13 by decide)) pl_info (plC_one _ _) ?_
            change K (Act.put _ none _) _
            simp only [Act.put]
            refine hK.out _ _ ?_ (fun hHeld2 => ?_)
            · exact SK.out _ (below_setCells16 GA.out (plC p3 Q4) 0 _ B.out)
            clear hK K
            have hHeld := hHeld2
            clear hHeld2
            refine take_op2 (i := 8) (v := ?_) rfl (by kernel_rfl) (by kernel_rfl) (by kernel_rfl) (fun _ _ _ h => h) (Or.inl ⟨wanted_plain rfl, ?_⟩) (by assumption) ?_
            rotate_left
            · (intro w hSw; (try dsimp only at hSw); go_simp; try with_reducible rfl)
            intro act_ hact_; simp only [Act.put, List.setIfInBounds_toArray, List.set_cons_zero, List.set_cons_succ] at hact_; subst hact_
            refine wpAnyH_done (by kernel_rfl) ?_ _
            have FIN := Lib.hid (fin17 B.out GA.out ZA.out rfl OW.out RN.out)
            generalize Y3.setCells gA 0 (plC p3 Q4) = Z at FIN ⊢
            exact KEY Z gA p3 u3 FIN.out
          exact AllReadyH.nil
        case h25 =>
          intro X5 g5 p5 u5 hF
          obtain ⟨bF, gF, xF, pF, rF⟩ := hF
          have BV6 := Lib.hid (thn16 BV5.out bF)
          have BF5 := Lib.hid bF
          have HBX6 := Lib.hid xF
          have HPA6 := Lib.hid pF
          have HR5 := Lib.hid rF
          obtain ⟨qu5, cu5, hu, hru5⟩ := rF
          simp only [List.length_cons, List.length_nil] at hu
          subst hu
          clear bF gF xF pF
          have E2 := Lib.hid (blk_on (blk_on (blk_on HBX3.out BF3.out) BF4.out) BF5.out)
          have E3 := Lib.hid (blk_on (blk_on HBX4.out BF4.out) BF5.out)
          have E4 := Lib.hid (blk_on HBX5.out BF5.out)
          have E5 := Lib.hid HBX6.out
          have hq2 := HQ2.out
          have hq3 := HQ3.out
          have hq4 := HQ4.out
          have hq5 := HQ5.out
          have a1 := (cell_of_row X5 g2 1 _ _ (0, 0) E2.out).trans (show _ = some (Value.int .u8 2) from by rw [hq2]; rfl)
          have a3 := (cell_of_row X5 g2 3 _ _ (0, 0) E2.out).trans (show _ = some (Value.int .u32 327718) from by rw [hq2]; rfl)
          obtain ⟨ga, oa, ea, ca, cb⟩ := HPA3.out.fi 0 (⟨#[107, 105, 108, 108]⟩, 327681) (by rw [hq2]; rfl)
          have la : p2.fn = 1 := by rw [HPA3.out.fl, hq2]; rfl
          have a2 := (cell_of_row X5 g2 2 _ _ (0, 0) E2.out).trans (show _ = some (Value.slice (some ⟨ga, oa, none⟩) 1 p2.fc) from by rw [← ea, ← la]; rfl)
          have da := ((BF3.out.trans (BF4.out.mono BF3.out.size)).trans (BF5.out.mono (Nat.le_trans BF3.out.size BF4.out.size)))
          have ca := (da.cell (World.block_lt_of_cell? X2 _ ca)).trans ca
          have cb := (da.cell (World.block_lt_of_cell? X2 _ cb)).trans cb
          simp only [Nat.zero_mul, Nat.add_zero] at ca cb
          have b4 := (cell_of_row X5 g3 4 _ _ (0, 0) E3.out).trans (show _ = some (Value.int .u8 1) from by rw [hq3]; rfl)
          obtain ⟨gb, ob, eb, cc, cd⟩ := HPA4.out.lo 0 (⟨#[114, 101, 97, 100]⟩, 0) (by rw [hq3]; rfl)
          have lb : p3.ln = 1 := by rw [HPA4.out.ll, hq3]; rfl
          have b5 := (cell_of_row X5 g3 5 _ _ (0, 0) E3.out).trans (show _ = some (Value.slice (some ⟨gb, ob, none⟩) 1 p3.lc) from by rw [← eb, ← lb]; rfl)
          have db := (BF4.out.trans (BF5.out.mono BF4.out.size))
          have cd := (db.cell (World.block_lt_of_cell? X3 _ cd)).trans cd
          simp only [Nat.zero_mul, Nat.add_zero] at cd
          obtain ⟨gc, oc, ec, o0, o1, o2, o3⟩ := row_nte ((HR3.out.on BF4.out).on BF5.out) (k := 0) rfl
          obtain ⟨gd, od, ed, _, _, t2, _⟩ := row_nte HR5.out (k := 0) rfl
          simp only [Nat.zero_mul, Nat.add_zero] at o0 o1 o2 o3 t2
          subst ec
          subst ed
          have c3 := (cell_of_row X5 g4 3 _ _ (0, 0) E4.out).trans (show _ = some (Value.int .u32 2147483648) from by rw [hq4]; rfl)
          have d3 := (cell_of_row X5 g5 3 _ _ (0, 0) E5.out).trans (show _ = some (Value.int .u32 2147483648) from by rw [hq5]; rfl)
          clear hq2 hq3 hq4 hq5 ea eb la lb da db cc hru3 hru5
          go_wp2_with (first
            | (go_at_call 17
               ((with_reducible refine (HKO.out _ (HON.out _ _ HG.out BV6.out)).mono ?_); rintro e v9 ⟨rfl, b9⟩)))
          go_ret
          exact ⟨by first | rfl | simp | decide, thn16 BV6.out b9⟩
end Go.Proofs.YtanifiobfbfehaaGreatDoor
