/- A name with its operands behind it, an instruction's line: what the landed calls return. Conditions: the table of codes, the table of powers of ten lie in their variables. -/
import Derived.Test.YtlneiiljdghmjaaDoorHg
import Derived.Deep.RegionHeld3
namespace Go.Proofs.YtlneiiljdghmjaaDoor
open Go.RowKit Go.Shelf
set_option linter.unusedVariables false
set_option linter.unusedSimpArgs false
attribute [local go_sem ↓] Go.wp_at_zero Go.wp_at_succ

theorem own_cell {w : World} {B n c : Nat} {e : TypeId} {q : Option Addr} {xs : List Value} (h : w.ownsRow B e 1 (.slice q n c) n xs) {j : Nat} {u : Value} (hj : xs[j]? = some u) : ∃ g, q = some ⟨g, 0, none⟩ ∧ w.cell? ⟨g, j, none⟩ = some u := by
  have hl := (List.getElem?_eq_some_iff.1 hj).1
  have h1 := h.1
  rcases h.2 with ⟨_, h0⟩ | ⟨g, cap, cur, hv, _⟩
  · omega
  · injection hv with hq _ _
    subst hq
    refine ⟨g, rfl, ?_⟩
    have := h.cells (g := g) rfl j u hj
    rw [Lib.add_plain] at this
    simpa using this
theorem strV_get {l : List (List UInt8)} {j : Nat} (h : j < l.length) : (strV l)[j]? = some (.string (bs l[j])) := by
  unfold strV
  rw [List.getElem?_map, List.getElem?_eq_getElem h]; rfl
theorem join_step {n : List UInt8} {l : List (List UInt8)} {j : Nat} (h : j < l.length) : joinL n (l.take (j + 1)) = joinL n (l.take j) ++ (32 :: l[j]) := by
  unfold joinL
  rw [List.take_succ_eq_append_getElem h, List.flatMap_append, List.append_assoc]
  simp
theorem flat_take (l : List (List UInt8)) (j : Nat) : ((l.take j).flatMap (fun w => 32 :: w)).length ≤ (l.flatMap (fun w => 32 :: w)).length := by
  conv => rhs; rw [← List.take_append_drop j l, List.flatMap_append, List.length_append]
  omega
theorem join_le (n : List UInt8) (l : List (List UInt8)) (j : Nat) : (joinL n (l.take j)).length ≤ (joinL n l).length := by
  have := flat_take l j
  unfold joinL
  rw [List.length_append, List.length_append]
  omega
set_option maxRecDepth 100000 in
set_option maxHeartbeats 4000000 in
theorem joined_call (n : List UInt8) (l : List (List UInt8)) (q : Option Addr) (c B : Nat) (w : World) (ho : w.ownsRow B 9 1 (.slice q l.length c) l.length (strV l)) (hl : l.length ≤ 1000) (hs : (joinL n l).length ≤ 1000000) :
    Calls Tryd.prog 30 #[.string (bs n), .slice q l.length c] w fun e w' => e = .returned (.string (bs (joinL n l))) ∧ Below w.heap.size w w' := by
  have HO := Lib.hid ho
  have HS := Lib.hid (fun j (h : j < l.length) => join_step (n := n) h)
  have HT := Lib.hid (join_le n l)
  have HA := Lib.hid (show joinL n (l.take l.length) = joinL n l by rw [List.take_length])
  have HN := Lib.hid (show joinL n (l.take 0) = n by unfold joinL; simp)
  obtain ⟨F, hF⟩ : ∃ F, F = fun j => joinL n (l.take j) := ⟨_, rfl⟩
  have HF := Lib.hid (fun j => congrFun hF j)
  have HW := Lib.hid (fun (b : Nat) (x t : List UInt8) W (h : Bld w.heap.size b x W) (hl : x.length + t.length ≤ 140737488355328) (hB : w.heap.size ≤ W.heap.size) => write_call w.heap.size b x t W h hl hB)
  have hn : n.length ≤ 1000000 := by have := HT.out 0; rw [HN.out] at this; omega
  obtain ⟨ln, hln⟩ : ∃ ln, ln = l.length := ⟨_, rfl⟩
  have HLN := Lib.hid hln
  have hl2 : ln ≤ 1000 := by omega
  rw [← hln]
  have hgo : Bld w.heap.size w.heap.size [] (w.alloc (.cells #[.pointer none, .slice none 0 0] 47)) := bld_fresh w
  have HB0 := Lib.hid hgo
  clear hF ho hl hln hgo
  go_enter Tryd.func30, Tryd.ntmps30
  go_wp2_with (go_at_call 22; ((with_reducible refine (HW.out _ _ _ _ HB0.out (by simp; omega) (by simp)).mono ?_); rintro e w1 ⟨⟨v, rfl⟩, h1, b1, k1⟩); rw [List.nil_append] at h1; have H1 := Lib.hid h1; have B1 := Lib.hid ((ball w (.cells #[.pointer none, .slice none 0 0] 47)).trans b1); clear h1 b1 k1)
  go_loopw [12] (fun v12 wr => ∃ j : Nat, j ≤ ln ∧ v12 = .int .i64 j ∧ Hid (Bld w.heap.size w.heap.size (F j) wr) ∧ Hid (Below w.heap.size w wr)) (fun v12 _ => ln - (intOf v12).toNat)
  case atStart => exact ⟨0, Nat.zero_le _, rfl, Lib.hid (by rw [HF.out, HN.out]; exact H1.out), B1⟩
  case round =>
    obtain ⟨j, hj, rfl, HB, PB⟩ := hrel
    obtain ⟨W, rfl⟩ : ∃ wo : World, wo = wr := ⟨_, rfl⟩
    by_cases hlt : j < ln
    · have hjl : j < l.length := by rw [← HLN.out]; exact hlt
      obtain ⟨g, hq, hcell⟩ := own_cell HO.out (strV_get hjl)
      have hcell2 := (PB.out.cell (World.block_lt_of_cell? w _ hcell)).trans hcell
      have HSJ := Lib.hid (show F (j + 1) = F j ++ (32 :: l[j]) by rw [HF.out, HF.out]; exact HS.out j hjl)
      have hb1 : (F (j + 1)).length ≤ 1000000 := by rw [HF.out]; exact Nat.le_trans (HT.out _) hs
      have hb2 : (F j).length ≤ 1000000 := by rw [HF.out]; exact Nat.le_trans (HT.out _) hs
      obtain ⟨t, ht⟩ : ∃ t, t = l[j] := ⟨_, rfl⟩
      rw [← ht] at hcell2 HSJ
      have hb3 : t.length ≤ 1000000 := by rw [HSJ.out, List.length_append, List.length_cons] at hb1; omega
      have i1 : (j : Int) < ln := by omega
      have i2 : (0 : Int) ≤ j := by omega
      rw [hq]
      clear ht hcell hjl hq hb1
      go_wp2_with (first
        | ((with_reducible show wpList _ _ _ (⟨some 17, _, _, _, _, _⟩ :: _) _ _)
           refine wpList_cat (x := [32]) rfl rfl rfl rfl (by simp; omega) ?_)
        | (go_at_call 22; ((with_reducible refine (HW.out _ _ _ _ HB.out (by simp; omega) PB.out.size).mono ?_); rintro e w2 ⟨⟨v, rfl⟩, h2, b2, k2⟩); have H2 := Lib.hid h2; clear h2 k2))
      go_roundw
      case rel =>
        refine ⟨j + 1, by omega, by go_num, Lib.hid ?_, Lib.hid (PB.out.trans b2)⟩
        rw [HSJ.out]
        exact H2.out
      case measure => simp [intOf]; omega
    · obtain rfl : j = ln := by omega
      have i1 : ¬ (j : Int) < j := by omega
      have HE := Lib.hid (show F j = joinL n l by rw [HF.out, HLN.out]; exact HA.out)
      have HST := Lib.hid (string_call w.heap.size w.heap.size (F j) W HB.out PB.out.size)
      go_wp2_with (go_at_call 23; ((with_reducible refine (HST.out).mono ?_); rintro e w2 ⟨rfl, b2⟩))
      go_ret
      exact ⟨congrArg (fun l => Ending.returned (.string (bs l))) HE.out, PB.out.trans b2⟩
theorem kp5 {w0 v w' : World} {p0 p1 p2 p3 : Addr} {u0 u1 u2 u3 : Value} (hb : Below v.heap.size v w') (h : v.cell? p0 = some u0 ∧ v.cell? p1 = some u1 ∧ v.cell? p2 = some u2 ∧ v.cell? p3 = some u3 ∧ Below w0.heap.size w0 v) :
    w'.cell? p0 = some u0 ∧ w'.cell? p1 = some u1 ∧ w'.cell? p2 = some u2 ∧ w'.cell? p3 = some u3 ∧ Below w0.heap.size w0 w' :=
  ⟨(hb.cell (World.block_lt_of_cell? v p0 h.1)).trans h.1, (hb.cell (World.block_lt_of_cell? v p1 h.2.1)).trans h.2.1, (hb.cell (World.block_lt_of_cell? v p2 h.2.2.1)).trans h.2.2.1, (hb.cell (World.block_lt_of_cell? v p3 h.2.2.2.1)).trans h.2.2.2.1, th2 h.2.2.2.2 hb⟩
theorem ba_len (b : ByteArray) : b.data.toList.length = b.size := by simp
theorem line_bound {i : Ins} (hi : i.Ok) (h : plainI i = true) {at_ : Nat} (hat : at_ ≤ 1099511627776) : (wordsL i at_).length ≤ 1000 ∧ (lineI i at_).length ≤ 1000 := by
  obtain ⟨c0, c1, t0, t1, f0, f1, k0, k1⟩ := hi
  have e := join_line h (at_ := at_) (by omega)
  have hk := plain_known h
  have hn : (nameA i.c).length ≤ 10 := by
    have := allL_good _ (known_mem hk).1
    unfold nameA
    have e2 : (ofL allL i.c).name.data.toList.length = (ofL allL i.c).name.size := ba_len _
    omega
  rw [← e]
  unfold wordsL targL joinL
  have d1 : (digL i.k.toNat).length ≤ 19 := digL_len (by omega)
  have d2 : (digL ((at_ : Int) + 1 + i.k).toNat).length ≤ 19 := digL_len (by omega)
  have d3 : (digL ((at_ : Int) + 1 + i.jt).toNat).length ≤ 19 := digL_len (by omega)
  have d4 : (digL ((at_ : Int) + 1 + i.jf).toNat).length ≤ 19 := digL_len (by omega)
  clear c0 c1 t0 t1 f0 f1 k0 k1 hat
  constructor
  · split <;> split <;> simp <;> split <;> simp
  · split <;> split <;> (try split) <;> simp only [List.nil_append, List.append_nil, List.map_cons, List.map_nil, List.flatMap_cons, List.flatMap_nil, List.length_append, List.length_cons, List.length_nil, List.cons_append] <;> omega
set_option maxRecDepth 100000 in
set_option maxHeartbeats 8000000 in
theorem lnPlain (i : Ins) (hi : i.Ok) (h : plainI i = true) (at_ : Nat) (hat : at_ ≤ 1099511627776) (w : World) (hG : GA w) : Calls Tryd.prog 15 #[.agg #[.int .u16 i.c, .int .u8 i.jt, .int .u8 i.jf, .int .u32 i.k], .int .i64 at_] w fun e w' => e = .returned (.string (bs (lineI i at_))) ∧ Below w.heap.size w w' := by
  obtain ⟨l1, l2⟩ := line_bound hi h hat
  have e := join_line h (at_ := at_) (by omega)
  rw [← e] at l2 ⊢
  have hc0 := hi.c0
  have hc1 := hi.c1
  have HC := Lib.hid (fun W (g : GA W) => clean_call i hi W g.rows)
  rw [clean_plain, h] at HC
  have HN := Lib.hid (fun W (g : GA W) => nameC i.c W g.rows hc0 hc1)
  rw [show (ofL allL i.c).name = bs (nameA i.c) from (bs_self _).symm] at HN
  have HO := Lib.hid (fun W (g : GA W) => operands_call i hi at_ hat W g)
  unfold WordsTo at HO
  obtain ⟨X, hX⟩ : ∃ X, X = wordsL i at_ := ⟨_, rfl⟩
  obtain ⟨n, hn⟩ : ∃ n, n = nameA i.c := ⟨_, rfl⟩
  rw [← hX] at HO l1 l2 ⊢
  rw [← hn] at HN l2 ⊢
  have HJ := Lib.hid (fun W q c B (ho : W.ownsRow B 9 1 (.slice q X.length c) X.length (strV X)) => joined_call n X q c B W ho l1 (Nat.le_trans l2 (by omega)))
  obtain ⟨c, jt, jf, k⟩ := i
  simp only at HC HN HO
  have HG0 := Lib.hid hG
  have HB := Lib.hid (bx4 w (.int .u16 c) (.int .u8 jt) (.int .u8 jf) (.int .u32 k) 33)
  have HA := Lib.hid (ball w (.cells #[.int .u16 c, .int .u8 jt, .int .u8 jf, .int .u32 k] 33))
  have i0 : ¬ (at_ : Int) < 0 := by omega
  obtain ⟨xl, hxl⟩ : ∃ xl, xl = X.length := ⟨_, rfl⟩
  rw [← hxl] at HO HJ
  obtain ⟨J, hJ⟩ : ∃ J, J = joinL n X := ⟨_, rfl⟩
  rw [← hJ] at HJ ⊢
  clear hG hat hi h e hc0 hc1 hX hn l1 l2 hxl hJ
  go_enter Tryd.func15, Tryd.ntmps15
  go_wp2_with (go_at_call 24; ((with_reducible refine (HC.out _ (HG0.out.on HA.out)).mono ?_); rintro e w1 ⟨rfl, b1⟩); have S1 := Lib.hid (kp4 b1 HB.out); have B1 := Lib.hid (th2 HA.out b1); obtain ⟨s0, s1, s2, s3⟩ := S1.out)
  clear b1
  go_region_held3 (fun w' => w'.cell? ⟨w.heap.size, 0, none⟩ = some (.int .u16 c) ∧ w'.cell? ⟨w.heap.size, 1, none⟩ = some (.int .u8 jt) ∧ w'.cell? ⟨w.heap.size, 2, none⟩ = some (.int .u8 jf) ∧ w'.cell? ⟨w.heap.size, 3, none⟩ = some (.int .u32 k) ∧ Below w.heap.size w w')
    (first | assumption | exact ⟨s0, s1, s2, s3, B1.out.drew⟩ | exact kp5 (by assumption) (by assumption)) (first
    | (go_at_call 31; ((with_reducible refine (HN.out _ (HG0.out.on (by assumption : _ ∧ _ ∧ _ ∧ _ ∧ Below w.heap.size w _).2.2.2.2)).mono ?_); rintro e w2 ⟨rfl, b2⟩))
    | (go_at_call 32; ((with_reducible refine (HO.out _ (HG0.out.on (by assumption : _ ∧ _ ∧ _ ∧ _ ∧ Below w.heap.size w _).2.2.2.2)).mono ?_); rintro e w3 ⟨q3, c3, rfl, o3, b3⟩))
    | (go_at_call 30; (refine (HJ.out _ _ _ _ (by with_reducible first | exact o3 | exact own_below o3 b2)).mono ?_); rintro e w4 ⟨rfl, b4⟩))
  all_goals
    have hall : Below w.heap.size w w4 := (by assumption : _ ∧ _ ∧ _ ∧ _ ∧ Below w.heap.size w w4).2.2.2.2
    go_wp2
    go_ret
    exact ⟨rfl, hall⟩
theorem lnNeg (i : Ins) (at_ : Int) (h : at_ < 0) (w : World) : Calls Tryd.prog 15 #[.agg #[.int .u16 i.c, .int .u8 i.jt, .int .u8 i.jf, .int .u32 i.k], .int .i64 at_] w fun e w' => e = .returned (.string (bs [])) ∧ Below w.heap.size w w' := by
  obtain ⟨c, jt, jf, k⟩ := i
  simp only
  go_enter Tryd.func15, Tryd.ntmps15
  go_wp2
  go_ret
  exact ⟨rfl, ball w _⟩
theorem lnDirty (i : Ins) (hi : i.Ok) (h : plainI i = false) (at_ : Int) (ha : 0 ≤ at_) (w : World) (hG : GA w) : Calls Tryd.prog 15 #[.agg #[.int .u16 i.c, .int .u8 i.jt, .int .u8 i.jf, .int .u32 i.k], .int .i64 at_] w fun e w' => e = .returned (.string (bs [])) ∧ Below w.heap.size w w' := by
  have HC := Lib.hid (fun W (g : GA W) => clean_call i hi W g.rows)
  rw [clean_plain, h] at HC
  obtain ⟨c, jt, jf, k⟩ := i
  simp only at HC
  have HG0 := Lib.hid hG
  have HB := Lib.hid (bx4 w (.int .u16 c) (.int .u8 jt) (.int .u8 jf) (.int .u32 k) 33)
  have HA := Lib.hid (ball w (.cells #[.int .u16 c, .int .u8 jt, .int .u8 jf, .int .u32 k] 33))
  have i0 : ¬ at_ < 0 := by omega
  clear hG h ha hi
  go_enter Tryd.func15, Tryd.ntmps15
  go_wp2_with (go_at_call 24; ((with_reducible refine (HC.out _ (HG0.out.on HA.out)).mono ?_); rintro e w1 ⟨rfl, b1⟩); have S1 := Lib.hid (kp4 b1 HB.out); have B1 := Lib.hid (th2 HA.out b1); obtain ⟨s0, s1, s2, s3⟩ := S1.out)
  go_ret
  exact ⟨rfl, B1.out⟩
/-- What the landed Line returns. -/
theorem line_call (i : Ins) (hi : i.Ok) (at_ : Int) (hat : at_ ≤ 1099511627776) (w : World) (hG : GA w) : Calls Tryd.prog 15 #[.agg #[.int .u16 i.c, .int .u8 i.jt, .int .u8 i.jf, .int .u32 i.k], .int .i64 at_] w fun e w' => e = .returned (.string (bs (lineI i at_))) ∧ Below w.heap.size w w' := by
  by_cases ha : at_ < 0
  · rw [show lineI i at_ = [] from by unfold lineI; rw [if_pos (Or.inr ha)]]
    exact lnNeg i at_ ha w
  · cases h : plainI i with
    | false =>
      rw [show lineI i at_ = [] from by unfold lineI; rw [if_pos (Or.inl h)]]
      exact lnDirty i hi h at_ (by omega) w hG
    | true =>
      obtain ⟨n, rfl⟩ := Int.eq_ofNat_of_zero_le (show 0 ≤ at_ by omega)
      exact lnPlain i hi h n (by omega) w hG
end Go.Proofs.YtlneiiljdghmjaaDoor
