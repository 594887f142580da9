/- An instruction's operands as strings, joined behind its name, its line: what the landed calls return. Conditions: the table of codes, the table of powers of ten lie in their variables. -/
import Derived.Test.YtlneiiljdghmjaaDoorHf
namespace Go.Proofs.YtlneiiljdghmjaaDoor
open Go.RowKit Go.Shelf
set_option linter.unusedVariables false
set_option linter.unusedSimpArgs false
attribute [local go_sem ↓] Go.wp_at_zero Go.wp_at_succ

def preL (i : Ins) : List (List UInt8) := if usesKB i.c = true ∧ i.c ≠ 5 then [digL i.k.toNat] else []
def opTo (i : Ins) (at_ : Int) (j : Nat) : List (List UInt8) := preL i ++ ((targL i at_).take j).map (fun t => 76 :: digL t.toNat)
theorem op_step {i : Ins} {at_ : Int} {j : Nat} {x : Int} (h : (targL i at_)[j]? = some x) : opTo i at_ (j + 1) = opTo i at_ j ++ [76 :: digL x.toNat] := by
  unfold opTo
  rw [List.take_add_one, h, List.map_append, ← List.append_assoc]; rfl
theorem op_all (i : Ins) (at_ : Int) : opTo i at_ (targL i at_).length = wordsL i at_ := by
  unfold opTo wordsL preL
  rw [List.take_length]
theorem strV_snoc (l : List (List UInt8)) (t : List UInt8) : strV (l ++ [t]) = strV l ++ [.string (bs t)] := by
  unfold strV; rw [List.map_append]; rfl
theorem targ_le (i : Ins) (at_ : Int) : (targL i at_).length ≤ 2 := by
  unfold targL
  split
  · simp
  · split <;> simp
theorem pre_le (i : Ins) : (preL i).length ≤ 1 := by
  unfold preL
  split <;> simp
theorem op_le (i : Ins) (at_ : Int) (j : Nat) : (opTo i at_ j).length ≤ 3 := by
  have h1 := targ_le i at_
  have h2 := pre_le i
  unfold opTo
  rw [List.length_append, List.length_map, List.length_take]
  omega
theorem targ_bound {i : Ins} (hi : i.Ok) {at_ : Nat} (hat : at_ ≤ 1099511627776) : ∀ t ∈ targL i at_, 0 ≤ t ∧ t < 10000000000000 := by
  obtain ⟨c0, c1, t0, t1, f0, f1, k0, k1⟩ := hi
  intro t ht
  unfold targL at ht
  split at ht
  · rw [List.mem_singleton.1 ht]; omega
  · split at ht
    · rcases List.mem_cons.1 ht with e | ht
      · rw [e]; omega
      · rw [List.mem_singleton.1 ht]; omega
    · cases ht
/-- An owned row grown: where it lies. -/
theorem own_at {w : World} {B n s : Nat} {e : TypeId} {v : Value} {xs : List Value} (h : w.ownsRow B e s v n xs) : ∀ j, v.ownBlock = some j → B ≤ j := fun j hj => (h.lt j hj).1
set_option maxRecDepth 100000 in
set_option maxHeartbeats 8000000 in
theorem operands_call (i : Ins) (hi : i.Ok) (at_ : Nat) (hat : at_ ≤ 1099511627776) (w : World) (hG : GA w) : Calls Tryd.prog 32 #[.agg #[.int .u16 i.c, .int .u8 i.jt, .int .u8 i.jf, .int .u32 i.k], .int .i64 at_] w (WordsTo (wordsL i at_) w) := by
  obtain ⟨i0, hi0, hz0, hz1, hz2⟩ := info_parts str_info
  have HI := Lib.hid hi0
  have H0 := Lib.hid hz0
  have H1 := Lib.hid hz1
  have H2 := Lib.hid hz2
  have HTB := Lib.hid (targ_bound hi hat)
  have HTG := Lib.hid (fun W (g : GW W) => targets_call i hi at_ hat W g)
  have HST := Lib.hid (fun j x h => op_step (i := i) (at_ := at_) (j := j) (x := x) h)
  have HLE := Lib.hid (op_le i at_)
  have HAL := Lib.hid (op_all i at_)
  have HP0 := Lib.hid (show opTo i at_ 0 = preL i from by unfold opTo; simp)
  have HDC := Lib.hid (fun W (g : GA W) => decimal_call i.k.toNat (by have := hi.k1; omega) W g)
  have hkk : ((i.k.toNat : Nat) : Int) = i.k := by have := hi.k0; omega
  rw [hkk] at HDC
  have hk0 := hi.k0
  have hk1 := hi.k1
  have hc0 := hi.c0
  have hc1 := hi.c1
  have HLB := Lib.hid (fun (n : Nat) (hn : n < 10000000000000) W (g : GA W) => label_call n (by omega) W g)
  obtain ⟨c, jt, jf, k⟩ := i
  simp only at hk0 hk1 hc0 hc1
  have uk : IntKind.u64.wrap k = k := by rw [IntKind.wrap_u64]; omega
  have HU := Lib.hid (fun W (g : GW W) => uses_call c hc0 hc1 W g)
  have HG := Lib.hid (hG.alloc (.cells #[.int .u16 c, .int .u8 jt, .int .u8 jf, .int .u32 k] 33))
  have HB := Lib.hid (bx4 w (.int .u16 c) (.int .u8 jt) (.int .u8 jf) (.int .u32 k) 33)
  have HA := Lib.hid (ball w (.cells #[.int .u16 c, .int .u8 jt, .int .u8 jf, .int .u32 k] 33))
  have HPR := Lib.hid (show preL ⟨c, jt, jf, k⟩ = if usesKB c = true ∧ c ≠ 5 then [digL k.toNat] else [] from rfl)
  unfold TargTo at HTG
  unfold WordsTo
  obtain ⟨F, hF⟩ : ∃ F, F = opTo ⟨c, jt, jf, k⟩ at_ := ⟨_, rfl⟩
  obtain ⟨T, hT⟩ : ∃ T, T = targL ⟨c, jt, jf, k⟩ at_ := ⟨_, rfl⟩
  obtain ⟨X, hX⟩ : ∃ X, X = wordsL ⟨c, jt, jf, k⟩ at_ := ⟨_, rfl⟩
  obtain ⟨dk, hdk⟩ : ∃ dk, dk = digL k.toNat := ⟨_, rfl⟩
  simp only at HDC
  rw [← hT] at HTB HTG HST HAL
  rw [← hF] at HST HLE HAL HP0
  rw [← hX] at HAL ⊢
  rw [← hdk] at HDC HPR
  obtain ⟨tn, htn⟩ : ∃ tn, tn = T.length := ⟨_, rfl⟩
  have htl : tn ≤ 2 := by rw [htn, hT]; exact targ_le _ _
  rw [← htn] at HAL HTG
  have HTN := Lib.hid htn
  obtain ⟨P, hP⟩ : ∃ P, P = preL ⟨c, jt, jf, k⟩ := ⟨_, rfl⟩
  rw [← hP] at HP0 HPR
  obtain ⟨u, hu⟩ : ∃ u, u = usesKB c := ⟨_, rfl⟩
  rw [← hu] at HU HPR
  have HG0 := Lib.hid hG
  clear hF hT hX hdk htn hP hu hG hat hi hkk hc0 hc1 hk0 hk1 hi0 hz0 hz1 hz2
  rcases (by cases u with
    | false => exact Or.inl rfl
    | true => exact if h : c = 5 then Or.inr (Or.inl ⟨rfl, h⟩) else Or.inr (Or.inr ⟨rfl, h⟩) : u = false ∨ (u = true ∧ c = 5) ∨ (u = true ∧ c ≠ 5)) with rfl | ⟨rfl, h5⟩ | ⟨rfl, h5⟩
  · have HPN := Lib.hid (show P = [] by rw [HPR.out, if_neg (fun h => Bool.false_ne_true h.1)])
    go_enter Tryd.func32, Tryd.ntmps32
    go_wp2_with (first
      | (go_at_call 42; ((with_reducible refine (HU.out _ HG.out.rows).mono ?_); rintro e w1 ⟨rfl, b1⟩); have B1 := Lib.hid (th2 HA.out b1); have S1 := Lib.hid (kp4 b1 HB.out); obtain ⟨s0, s1, s2, s3⟩ := S1.out)
      | (go_at_call 25; ((with_reducible refine (HTG.out _ (HG.out.rows.on b1)).mono ?_); rintro e w3 ⟨q3, c3, rfl, u3, b3⟩); have B3 := Lib.hid (th2 B1.out b3); have U3 := Lib.hid u3; clear u3 s0 s1 s2 s3))
    go_loopw [5, 27] (fun v5 v27 wr => ∃ j : Nat, j ≤ tn ∧ v27 = .int .i64 j ∧ Hid (wr.ownsRow w.heap.size 9 1 v5 (F j).length (strV (F j))) ∧ Hid (U64s wr 0 q3 T) ∧ Hid (Below w.heap.size w wr)) (fun _ v27 _ => tn - (intOf v27).toNat)
    case atStart => exact ⟨0, Nat.zero_le _, rfl, Lib.hid (by rw [HP0.out, HPN.out]; exact World.ownsRow_nil _ _ _ _), Lib.hid (fun h => by obtain ⟨g, cs, fz, h1, _, h2⟩ := U3.out h; exact ⟨g, cs, fz, h1, Nat.zero_le _, h2⟩), B3⟩
    case round =>
      obtain ⟨j, hj, rfl, HO, HUS, PB⟩ := hrel
      obtain ⟨W, rfl⟩ : ∃ wo : World, wo = wr := ⟨_, rfl⟩
      by_cases hlt : j < tn
      · have hjT : j < T.length := by rw [← HTN.out]; exact hlt
        have hx : T[j]? = some T[j] := List.getElem?_eq_getElem hjT
        have hb := HTB.out T[j] (List.getElem_mem hjT)
        have HS := Lib.hid (HST.out j _ hx)
        obtain ⟨g, hq, hcell⟩ := HUS.out.cell hx
        obtain ⟨m, hm⟩ : ∃ m : Nat, T[j] = m := ⟨(T[j]).toNat, by omega⟩
        rw [hm] at hcell hb
        have HS2 := Lib.hid (show F (j + 1) = F j ++ [76 :: digL m] by rw [HS.out, hm]; simp)
        have i1 : (j : Int) < tn := by omega
        have i2 : (0 : Int) ≤ j := by omega
        have hF3 := HLE.out j
        obtain ⟨ln, hln⟩ : ∃ ln, ln = (F j).length := ⟨_, rfl⟩
        rw [← hln] at HO hF3
        have HLN := Lib.hid hln
        have HG4 := Lib.hid (HG0.out.on PB.out)
        have HM := Lib.hid (fun W (g : GA W) => HLB.out m (by omega) W g)
        obtain ⟨lw, hlw⟩ : ∃ lw, lw = 76 :: digL m := ⟨_, rfl⟩
        rw [← hlw] at HM HS2
        have HQ := Lib.hid hq
        rw [hq]
        clear hm hln hlw HS hb hx hjT hq
        go_wp2_with (first
          | (go_at_call 39; ((with_reducible refine (HM.out _ HG4.out).mono ?_); rintro e w4 ⟨rfl, b4⟩); have HO4 := Lib.hid (own_below HO.out b4); have HU4 := Lib.hid (HUS.out.on (b4.trans (ball w4 (.cells #[.string (bs lw)] 9) |>.mono b4.size))); have BW4 := th2 PB.out b4)
          | ((with_reducible show wpList _ _ _ (⟨some 35, _, _, _, _, _⟩ :: _) _ _)
             refine wpList_append_own _ rfl (.tmp 31) (.tmp 34) 65 rfl w.heap.size 9 i0 _ 1 16 Tryd.underlying65 HI.out H0.out H1.out H2.out rfl Nat.one_pos _ ln (strV (F j)) rfl (HO4.out.alloc _) ⟨w4.heap.size, 0, none⟩ 1 1 [.string (bs lw)] rfl rfl (news_lit w4 _ _ _ rfl) (by intro v hv; rw [List.mem_singleton.1 hv]; rfl) (by unfold maxLen; omega) (by omega) (by rw [World.size_alloc]; exact Nat.le_succ_of_le BW4.size) ?_
             intro v5 w5 o5 hg5 _
             have O5 := Lib.hid o5
             have U5 := Lib.hid (HU4.out.grown (HO4.out.alloc _) hg5)
             have B5 := Lib.hid ((BW4.alloc BW4.size _).grown hg5 (by rw [World.size_alloc]; exact Nat.le_succ_of_le BW4.size) (own_at (HO4.out.alloc (.cells #[.string (bs lw)] 9))))
             clear o5 hg5))
        go_roundw
        case rel =>
          refine ⟨j + 1, by omega, by go_num, Lib.hid ?_, (by rw [← HQ.out]; exact U5), B5⟩
          rw [HS2.out, List.length_append, ← HLN.out, strV_snoc]
          exact O5.out
        case measure => simp [intOf]; omega
      · obtain rfl : j = tn := by omega
        rw [HAL.out] at HO
        have i1 : ¬ (j : Int) < j := by omega
        obtain ⟨q, cc, rfl⟩ := own_slice HO.out
        go_wp2
        go_ret
        exact ⟨q, cc, rfl, HO.out, PB.out⟩
  · have HPN := Lib.hid (show P = [] by rw [HPR.out, if_neg (fun h => h.2 h5)])
    subst h5
    go_enter Tryd.func32, Tryd.ntmps32
    go_wp2_with (first
      | (go_at_call 42; ((with_reducible refine (HU.out _ HG.out.rows).mono ?_); rintro e w1 ⟨rfl, b1⟩); have B1 := Lib.hid (th2 HA.out b1); have S1 := Lib.hid (kp4 b1 HB.out); obtain ⟨s0, s1, s2, s3⟩ := S1.out)
      | (go_at_call 25; ((with_reducible refine (HTG.out _ (HG.out.rows.on b1)).mono ?_); rintro e w3 ⟨q3, c3, rfl, u3, b3⟩); have B3 := Lib.hid (th2 B1.out b3); have U3 := Lib.hid u3; clear u3 s0 s1 s2 s3))
    go_loopw [5, 27] (fun v5 v27 wr => ∃ j : Nat, j ≤ tn ∧ v27 = .int .i64 j ∧ Hid (wr.ownsRow w.heap.size 9 1 v5 (F j).length (strV (F j))) ∧ Hid (U64s wr 0 q3 T) ∧ Hid (Below w.heap.size w wr)) (fun _ v27 _ => tn - (intOf v27).toNat)
    case atStart => exact ⟨0, Nat.zero_le _, rfl, Lib.hid (by rw [HP0.out, HPN.out]; exact World.ownsRow_nil _ _ _ _), Lib.hid (fun h => by obtain ⟨g, cs, fz, h1, _, h2⟩ := U3.out h; exact ⟨g, cs, fz, h1, Nat.zero_le _, h2⟩), B3⟩
    case round =>
      obtain ⟨j, hj, rfl, HO, HUS, PB⟩ := hrel
      obtain ⟨W, rfl⟩ : ∃ wo : World, wo = wr := ⟨_, rfl⟩
      by_cases hlt : j < tn
      · have hjT : j < T.length := by rw [← HTN.out]; exact hlt
        have hx : T[j]? = some T[j] := List.getElem?_eq_getElem hjT
        have hb := HTB.out T[j] (List.getElem_mem hjT)
        have HS := Lib.hid (HST.out j _ hx)
        obtain ⟨g, hq, hcell⟩ := HUS.out.cell hx
        obtain ⟨m, hm⟩ : ∃ m : Nat, T[j] = m := ⟨(T[j]).toNat, by omega⟩
        rw [hm] at hcell hb
        have HS2 := Lib.hid (show F (j + 1) = F j ++ [76 :: digL m] by rw [HS.out, hm]; simp)
        have i1 : (j : Int) < tn := by omega
        have i2 : (0 : Int) ≤ j := by omega
        have hF3 := HLE.out j
        obtain ⟨ln, hln⟩ : ∃ ln, ln = (F j).length := ⟨_, rfl⟩
        rw [← hln] at HO hF3
        have HLN := Lib.hid hln
        have HG4 := Lib.hid (HG0.out.on PB.out)
        have HM := Lib.hid (fun W (g : GA W) => HLB.out m (by omega) W g)
        obtain ⟨lw, hlw⟩ : ∃ lw, lw = 76 :: digL m := ⟨_, rfl⟩
        rw [← hlw] at HM HS2
        have HQ := Lib.hid hq
        rw [hq]
        clear hm hln hlw HS hb hx hjT hq
        go_wp2_with (first
          | (go_at_call 39; ((with_reducible refine (HM.out _ HG4.out).mono ?_); rintro e w4 ⟨rfl, b4⟩); have HO4 := Lib.hid (own_below HO.out b4); have HU4 := Lib.hid (HUS.out.on (b4.trans (ball w4 (.cells #[.string (bs lw)] 9) |>.mono b4.size))); have BW4 := th2 PB.out b4)
          | ((with_reducible show wpList _ _ _ (⟨some 35, _, _, _, _, _⟩ :: _) _ _)
             refine wpList_append_own _ rfl (.tmp 31) (.tmp 34) 65 rfl w.heap.size 9 i0 _ 1 16 Tryd.underlying65 HI.out H0.out H1.out H2.out rfl Nat.one_pos _ ln (strV (F j)) rfl (HO4.out.alloc _) ⟨w4.heap.size, 0, none⟩ 1 1 [.string (bs lw)] rfl rfl (news_lit w4 _ _ _ rfl) (by intro v hv; rw [List.mem_singleton.1 hv]; rfl) (by unfold maxLen; omega) (by omega) (by rw [World.size_alloc]; exact Nat.le_succ_of_le BW4.size) ?_
             intro v5 w5 o5 hg5 _
             have O5 := Lib.hid o5
             have U5 := Lib.hid (HU4.out.grown (HO4.out.alloc _) hg5)
             have B5 := Lib.hid ((BW4.alloc BW4.size _).grown hg5 (by rw [World.size_alloc]; exact Nat.le_succ_of_le BW4.size) (own_at (HO4.out.alloc (.cells #[.string (bs lw)] 9))))
             clear o5 hg5))
        go_roundw
        case rel =>
          refine ⟨j + 1, by omega, by go_num, Lib.hid ?_, (by rw [← HQ.out]; exact U5), B5⟩
          rw [HS2.out, List.length_append, ← HLN.out, strV_snoc]
          exact O5.out
        case measure => simp [intOf]; omega
      · obtain rfl : j = tn := by omega
        rw [HAL.out] at HO
        have i1 : ¬ (j : Int) < j := by omega
        obtain ⟨q, cc, rfl⟩ := own_slice HO.out
        go_wp2
        go_ret
        exact ⟨q, cc, rfl, HO.out, PB.out⟩
  · have HPN := Lib.hid (show P = [dk] by rw [HPR.out, if_pos ⟨rfl, h5⟩])
    have e5 : (c != 5) = true := by simp [h5]
    clear h5
    go_enter Tryd.func32, Tryd.ntmps32
    go_wp2_with (first
      | (go_at_call 42; ((with_reducible refine (HU.out _ HG.out.rows).mono ?_); rintro e w1 ⟨rfl, b1⟩); have B1 := Lib.hid (th2 HA.out b1); have S1 := Lib.hid (kp4 b1 HB.out); obtain ⟨s0, s1, s2, s3⟩ := S1.out)
      | (go_at_call 46; ((with_reducible refine (HDC.out _ (HG0.out.on B1.out)).mono ?_); rintro e w2 ⟨rfl, b2⟩); have B2 := th2 B1.out b2; have S2 := Lib.hid (kp4 b2 S1.out))
      | ((with_reducible show wpList _ _ _ (⟨some 22, _, _, _, _, _⟩ :: _) _ _)
         refine wpList_append_own _ rfl (.tmp 16) (.tmp 21) 65 rfl w.heap.size 9 i0 _ 1 16 Tryd.underlying65 HI.out H0.out H1.out H2.out rfl Nat.one_pos _ 0 [] rfl (World.ownsRow_nil _ _ _ _) ⟨w2.heap.size, 0, none⟩ 1 1 [.string (bs dk)] rfl rfl (news_lit w2 _ _ _ rfl) (by intro v hv; rw [List.mem_singleton.1 hv]; rfl) (by unfold maxLen; omega) (by omega) (by rw [World.size_alloc]; exact Nat.le_succ_of_le B2.size) ?_
         intro v5 w5 o5 hg5 _
         have O5 := Lib.hid o5
         have b5 : Below w2.heap.size w2 w5 := (ball w2 _).grown hg5 (by simp) (by intro k hk; cases hk)
         have B5 := Lib.hid (th2 B2 b5)
         clear s0 s1 s2 s3
         obtain ⟨s0, s1, s2, s3⟩ := kp4 b5 S2.out
         clear o5 hg5)
      | (go_at_call 25; ((with_reducible refine (HTG.out _ (HG0.out.on B5.out).rows).mono ?_); rintro e w3 ⟨q3, c3, rfl, u3, b3⟩); have B3 := Lib.hid (th2 B5.out b3); have U3 := Lib.hid u3; clear u3 s0 s1 s2 s3))
    go_loopw [5, 27] (fun v5 v27 wr => ∃ j : Nat, j ≤ tn ∧ v27 = .int .i64 j ∧ Hid (wr.ownsRow w.heap.size 9 1 v5 (F j).length (strV (F j))) ∧ Hid (U64s wr 0 q3 T) ∧ Hid (Below w.heap.size w wr)) (fun _ v27 _ => tn - (intOf v27).toNat)
    case atStart => exact ⟨0, Nat.zero_le _, rfl, Lib.hid (by rw [HP0.out, HPN.out]; exact own_below O5.out b3), Lib.hid (fun h => by obtain ⟨g, cs, fz, h1, _, h2⟩ := U3.out h; exact ⟨g, cs, fz, h1, Nat.zero_le _, h2⟩), B3⟩
    case round =>
      obtain ⟨j, hj, rfl, HO, HUS, PB⟩ := hrel
      obtain ⟨W, rfl⟩ : ∃ wo : World, wo = wr := ⟨_, rfl⟩
      by_cases hlt : j < tn
      · have hjT : j < T.length := by rw [← HTN.out]; exact hlt
        have hx : T[j]? = some T[j] := List.getElem?_eq_getElem hjT
        have hb := HTB.out T[j] (List.getElem_mem hjT)
        have HS := Lib.hid (HST.out j _ hx)
        obtain ⟨g, hq, hcell⟩ := HUS.out.cell hx
        obtain ⟨m, hm⟩ : ∃ m : Nat, T[j] = m := ⟨(T[j]).toNat, by omega⟩
        rw [hm] at hcell hb
        have HS2 := Lib.hid (show F (j + 1) = F j ++ [76 :: digL m] by rw [HS.out, hm]; simp)
        have i1 : (j : Int) < tn := by omega
        have i2 : (0 : Int) ≤ j := by omega
        have hF3 := HLE.out j
        obtain ⟨ln, hln⟩ : ∃ ln, ln = (F j).length := ⟨_, rfl⟩
        rw [← hln] at HO hF3
        have HLN := Lib.hid hln
        have HG4 := Lib.hid (HG0.out.on PB.out)
        have HM := Lib.hid (fun W (g : GA W) => HLB.out m (by omega) W g)
        obtain ⟨lw, hlw⟩ : ∃ lw, lw = 76 :: digL m := ⟨_, rfl⟩
        rw [← hlw] at HM HS2
        have HQ := Lib.hid hq
        rw [hq]
        clear hm hln hlw HS hb hx hjT hq
        go_wp2_with (first
          | (go_at_call 39; ((with_reducible refine (HM.out _ HG4.out).mono ?_); rintro e w4 ⟨rfl, b4⟩); have HO4 := Lib.hid (own_below HO.out b4); have HU4 := Lib.hid (HUS.out.on (b4.trans (ball w4 (.cells #[.string (bs lw)] 9) |>.mono b4.size))); have BW4 := th2 PB.out b4)
          | ((with_reducible show wpList _ _ _ (⟨some 35, _, _, _, _, _⟩ :: _) _ _)
             refine wpList_append_own _ rfl (.tmp 31) (.tmp 34) 65 rfl w.heap.size 9 i0 _ 1 16 Tryd.underlying65 HI.out H0.out H1.out H2.out rfl Nat.one_pos _ ln (strV (F j)) rfl (HO4.out.alloc _) ⟨w4.heap.size, 0, none⟩ 1 1 [.string (bs lw)] rfl rfl (news_lit w4 _ _ _ rfl) (by intro v hv; rw [List.mem_singleton.1 hv]; rfl) (by unfold maxLen; omega) (by omega) (by rw [World.size_alloc]; exact Nat.le_succ_of_le BW4.size) ?_
             intro v5 w5 o5 hg5 _
             have O5 := Lib.hid o5
             have U5 := Lib.hid (HU4.out.grown (HO4.out.alloc _) hg5)
             have B5 := Lib.hid ((BW4.alloc BW4.size _).grown hg5 (by rw [World.size_alloc]; exact Nat.le_succ_of_le BW4.size) (own_at (HO4.out.alloc (.cells #[.string (bs lw)] 9))))
             clear o5 hg5))
        go_roundw
        case rel =>
          refine ⟨j + 1, by omega, by go_num, Lib.hid ?_, (by rw [← HQ.out]; exact U5), B5⟩
          rw [HS2.out, List.length_append, ← HLN.out, strV_snoc]
          exact O5.out
        case measure => simp [intOf]; omega
      · obtain rfl : j = tn := by omega
        rw [HAL.out] at HO
        have i1 : ¬ (j : Int) < j := by omega
        obtain ⟨q, cc, rfl⟩ := own_slice HO.out
        go_wp2
        go_ret
        exact ⟨q, cc, rfl, HO.out, PB.out⟩
end Go.Proofs.YtlneiiljdghmjaaDoor
