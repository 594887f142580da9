/- What the document's own Split returns: the logical lines. Condition: bytes that lie in memory. What the document's own Split returns; what the calls of the package lines have to return, as the chapter says it; what the statements' own small calls return over it. -/
import Derived.Test.YtgigdhincpcdbaaGreatDoorLa
import Derived.Lib.SlBytesConst
import Derived.Deep.QuietTactic
import Derived.BigQuiet
namespace Go.Proofs.YtgigdhincpcdbaaGreatDoor
open Go.RowKit
set_option linter.unusedVariables false
set_option linter.unusedSimpArgs false
attribute [local go_sem ↓] Go.wp_at_zero Go.wp_at_succ

/-- One string behind the other. -/
theorem wpList_cat12 {ops : Array Oper} {rest : List Oper} {op : Oper} {A B : Operand} {ty yt : TypeId} {a : Act} {w : World} {Q : Exit → Act → World → Prop} {X Y : ByteArray} {z : List UInt8} (hgd : op.guard = none) (ho : op.op = .binOp .add ty A B yt)
    (hA : a.eval A = .string X) (hB : a.eval B = .string Y) (hs : X.size + Y.size ≤ 4611686018427387904) (hz : X ++ Y = bs z)
    (h : wpList Tryz.prog ops Q rest (a.put op.dst (.string (bs z))) w) : wpList Tryz.prog ops Q (op :: rest) a w :=
  wpList_plain hgd fun _ hK => by
    have hr : (execOp a.eval op).run Tryz.prog w = .ok (.value (.string (bs z))) w := by
      have := run_string_add_sum (P := Tryz.prog) w X Y (by omega)
      rw [hz] at this
      unfold execOp
      rw [ho]
      simp [hA, hB, binOp, this, eqGuard]
    unfold Oper.wp; rw [hr]; exact hK _ _ h
theorem ext_size {S : ByteArray} {m a b : Nat} (h : S.size = m + 1) (hm : m + 1 ≤ 65536 := by omega) : (S.extract a b).size + (⟨#[32]⟩ : ByteArray).size ≤ 4611686018427387904 := by
  rw [ByteArray.size_extract, h]
  have : (⟨#[32]⟩ : ByteArray).size = 1 := rfl
  omega
/-- Lines as cells. -/
def lnC (O : List (Nat × List UInt8)) : List Value := O.flatMap fun p => [.int .i64 ((p.1 : Nat) : Int), .string (bs p.2)]
theorem lnC_app (a b : List (Nat × List UInt8)) : lnC (a ++ b) = lnC a ++ lnC b := List.flatMap_append
theorem lnC_one (O : List (Nat × List UInt8)) : ∀ u ∈ lnC O, u.oneCell' = true := fun u hu => by
  obtain ⟨p, _, h⟩ := List.mem_flatMap.1 hu
  simp only [List.mem_cons, List.not_mem_nil, or_false] at h
  rcases h with rfl | rfl <;> rfl
theorem lnC_length (O : List (Nat × List UInt8)) : (lnC O).length = O.length * 2 := by
  unfold lnC
  induction O with
  | nil => rfl
  | cons a r ih => rw [List.flatMap_cons, List.length_append, ih]; simp; omega
theorem lnC_get : ∀ {O : List (Nat × List UInt8)} {k : Nat} {p : Nat × List UInt8}, O[k]? = some p → (lnC O)[k * 2]? = some (.int .i64 ((p.1 : Nat) : Int)) ∧ (lnC O)[k * 2 + 1]? = some (.string (bs p.2))
  | a :: r, 0, p, h => by
    injection h with h
    subst h
    exact ⟨rfl, rfl⟩
  | a :: r, k + 1, p, h => by
    have := lnC_get (O := r) (k := k) (p := p) (by simpa using h)
    have e : lnC (a :: r) = .int .i64 ((a.1 : Nat) : Int) :: .string (bs a.2) :: lnC r := rfl
    rw [e, show (k + 1) * 2 = k * 2 + 1 + 1 by omega, show k * 2 + 1 + 1 + 1 = (k * 2 + 1) + 1 + 1 by omega]
    simpa using this
theorem news_ln (w : World) (o : Obj) (i : Nat) (t : List UInt8) : ∀ j u, (lnC [(i + 1, t)])[j]? = some u → ((w.alloc o).alloc (.cells #[.int .i64 ((i : Int) + 1), .string (bs t)] 82)).cell? ((⟨w.heap.size + 1, 0, none⟩ : Addr).add j) = some u := fun j u hu => by
  rw [Addr.add_lit, Nat.zero_add]
  have hs : (w.alloc o).heap.size = w.heap.size + 1 := by simp
  rw [← hs, cell_of_row _ _ _ _ _ (0, 0) (heap_alloc_new (w.alloc o) _)]
  match j, hu with
  | 0, hu => injection hu with hu; subst hu; simp
  | 1, hu => injection hu with hu; subst hu; simp
  | j + 2, hu => cases hu
theorem ln_info : (Tryz.prog.info? 82).map (fun i => (i.zero, i.size, i.bytes)) = some (some (.agg #[.int .i64 0, .string ⟨#[]⟩]), 2, 24) := by kernel_rfl
/-- Logical lines lie in memory. -/
def LnsAt (w : World) (v : Value) (O : List (Nat × List UInt8)) : Prop := ∃ q c, v = .slice q O.length c ∧ ∀ k p, O[k]? = some p → ∃ g o, q = some ⟨g, o, none⟩ ∧ w.cell? ⟨g, o + k * 2, none⟩ = some (.int .i64 ((p.1 : Nat) : Int)) ∧ w.cell? ⟨g, o + k * 2 + 1, none⟩ = some (.string (bs p.2))
theorem LnsAt.on {w w' : World} {v : Value} {O : List (Nat × List UInt8)} (h : LnsAt w v O) (hb : Below w.heap.size w w') : LnsAt w' v O := by
  obtain ⟨q, c, rfl, hc⟩ := h
  refine ⟨q, c, rfl, fun k p hk => ?_⟩
  obtain ⟨g, o, rfl, h1, h2⟩ := hc k p hk
  exact ⟨g, o, rfl, (hb.cell (World.block_lt_of_cell? w _ h1)).trans h1, (hb.cell (World.block_lt_of_cell? w _ h2)).trans h2⟩
theorem LnsAt.nil (w : World) : LnsAt w (.slice none 0 0) [] := ⟨none, 0, rfl, fun k p h => by simp at h⟩
theorem lns_own {w : World} {B : Nat} {v : Value} {O : List (Nat × List UInt8)} {t : TypeId} (h : w.ownsRow B t 2 v O.length (lnC O)) : LnsAt w v O := by
  obtain ⟨q, c, rfl⟩ := own_form12 h
  refine ⟨q, c, rfl, fun k p hk => ?_⟩
  have hlt := (List.getElem?_eq_some_iff.1 hk).1
  obtain ⟨g, cap, e, _⟩ := h.form (by omega)
  injection e with e1 e2 e3
  subst e1 e3
  have h2 := lnC_get hk
  refine ⟨g, 0, rfl, ?_, ?_⟩
  · rw [Nat.zero_add]; exact (h.cellAt (k * 2) (by omega)).trans h2.1
  · rw [Nat.zero_add]; exact (h.cellAt (k * 2 + 1) (by omega)).trans h2.2
theorem o1form {w : World} {B N c : Nat} {q : Option Addr} {R : List (List UInt8)} {t : TypeId} (h : w.ownsRow B t 1 (.slice q N c) N (sL R)) (h0 : 0 < N) : ∃ (g c' : Nat), q = some ⟨g, 0, none⟩ ∧ ∀ k s, R[k]? = some s → w.cell? ⟨g, k, none⟩ = some (.string (bs s)) := by
  obtain ⟨g, cap, e, _⟩ := h.form h0
  injection e with e1 e2 e3
  subst e1
  have hl : R.length = N * 1 := by have := h.1; rwa [sL_length] at this
  exact ⟨g, cap, rfl, fun k s hk => (h.cellAt k (by have := (List.getElem?_eq_some_iff.1 hk).1; omega)).trans (sL_get hk)⟩
set_option maxRecDepth 100000 in
set_option maxHeartbeats 16000000 in
theorem split_log (a0 : Option Addr) (n cap : Nat) (l : List UInt8) (w : World) (hl : l.length = n) (hn : n ≤ 65536) (hN : (linL l).length ≤ 1000) (hc : n ≤ cap) (hm : cap ≤ maxLen) (hr : RdB w w.heap.size a0 l) : Calls Tryz.prog 43 #[.slice a0 n cap] w fun e w' =>
    ∃ v, e = .returned (.tuple #[v, .int .i64 0]) ∧ LnsAt w' v (logR (linL l).length (linL l)) ∧ Below w.heap.size w w' := by
  obtain ⟨i1, hi1, kz0, kz1, kz2⟩ := info_parts ln_info
  have KI := Lib.hid hi1
  have KZ0 := Lib.hid kz0
  have KZ1 := Lib.hid kz1
  have KZ2 := Lib.hid kz2
  have HLN := Lib.hid (fun W hw => refLines a0 n cap l W hl (by omega) hc hm hw)
  have HR := Lib.hid hr
  obtain ⟨R, hR⟩ : ∃ R, R = linL l := ⟨_, rfl⟩
  have HLEN := Lib.hid (fun s (hs : s ∈ R) => (by have := (linL_mem (by rw [← hR]; exact hs)).2; omega : s.length ≤ 65536))
  rw [← hR] at hN HLN ⊢
  obtain ⟨N, hNR⟩ : ∃ N, N = R.length := ⟨_, rfl⟩
  have HN := Lib.hid hNR.symm
  rw [← hNR] at hN HLN ⊢
  have n1 : ¬ (65536 : Int) < n := by omega
  have n2 : ¬ (1000 : Int) < N := by omega
  clear hi1 kz0 kz1 kz2 hR hNR hr hl hc hm
  go_enter Tryz.func43, Tryz.ntmps43
  go_wp2_with (first
    | (go_at_call 61; ((with_reducible refine (HLN.out _ HR.out).mono ?_); rintro e W1 ⟨q, c, rfl, o1, b1⟩)))
  have B1 := Lib.hid b1
  have O1 := Lib.hid o1
  clear b1 o1
  go_loopw [5, 6] (fun v5 v6 wr => ∃ (i : Nat) (O : List (Nat × List UInt8)), i ≤ N ∧ v6 = .int .i64 i ∧ Hid (O ++ logR N (R.drop i) = logR N R) ∧ Hid (wr.ownsRow W1.heap.size 82 2 v5 O.length (lnC O)) ∧ Hid (Below W1.heap.size W1 wr)) (fun _ v6 _ => N - (intOf v6).toNat)
  case atStart => exact ⟨0, [], by omega, rfl, Lib.hid rfl, Lib.hid (World.ownsRow_nil _ _ _ _), Lib.hid (Below.refl _ _)⟩
  case round =>
    obtain ⟨i, O, hi, rfl, HS, PO, PB1⟩ := hrel
    obtain ⟨V, rfl⟩ : ∃ wo : World, wo = wr := ⟨_, rfl⟩
    have PB := Lib.hid PB1.out
    obtain ⟨o, ho⟩ : ∃ o, o = O.length := ⟨_, rfl⟩
    have HPO := Lib.hid ho
    have ho1 : o ≤ 1000 := by
      have h1 := congrArg List.length HS.out
      rw [List.length_append] at h1
      have h2 := logR_len N R
      rw [HN.out] at h2
      omega
    rw [← ho] at PO
    clear ho
    by_cases hlt : i < N
    · obtain ⟨g, cg, e1, hg⟩ := o1form O1.out (by omega)
      subst e1
      have RS := Lib.hid (fun (k : Nat) (s : List UInt8) (h : R[k]? = some s) => hg k s h)
      have hx : R[i]? = some (R[i]'(by rw [HN.out]; exact hlt)) := List.getElem?_eq_getElem _
      obtain ⟨s0, hs0⟩ : ∃ s, s = R[i]'(by rw [HN.out]; exact hlt) := ⟨_, rfl⟩
      rw [← hs0] at hx
      have hsl0 := HLEN.out s0 (List.mem_of_getElem? hx)
      have d0 := hg i s0 hx
      have c0 := (PB.out.cell (World.block_lt_of_cell? W1 _ d0)).trans d0
      have hD := (show R.drop i = s0 :: R.drop (i + 1) from by rw [hs0, List.getElem_cons_drop])
      have HD0 := Lib.hid hD
      have HCM := Lib.hid (fun W => refComment (bs s0) (by rw [bs_size]; unfold maxLen; omega) W)
      rw [bs_list] at HCM
      have k1 : (i : Int) < N := by omega
      have k0 : (0 : Int) ≤ i := by omega
      have hw1 : IntKind.i64.wrap ((i : Int) + 1) = i + 1 := by rw [IntKind.wrap_i64]; omega
      clear hs0 hx d0 hg
      cases hcm : comL s0 with
      | true =>
        rw [hcm] at HCM
        have HE := Lib.hid (show logR N (R.drop i) = logR N (R.drop (i + 1)) from by rw [hD, logR_com hcm])
        clear hD
        go_wp2_with (first
          | (go_at_call 62; ((with_reducible refine (HCM.out _).mono ?_); rintro e w1 ⟨rfl, rfl⟩)))
        go_roundw
        case rel => exact ⟨i + 1, O, by omega, by go_num, Lib.hid (by rw [← HE.out]; exact HS.out), Lib.hid (by rw [← HPO.out]; exact PO.out), PB⟩
        case measure => simp [intOf]; omega
      | false =>
        rw [hcm] at HCM
        have HLT := Lib.hid (show (joinL (R.drop i)).2.length < N - i from by
          have h1 := join_lt (r := R.drop (i + 1)) hcm
          rw [← hD, List.length_drop, HN.out] at h1
          omega)
        have HSOME := Lib.hid (show trimL (joinL (R.drop i)).1 ≠ [] → logR N (R.drop i) = (i + 1, trimL (joinL (R.drop i)).1) :: logR N (joinL (R.drop i)).2 from fun h => by
          rw [hD] at h ⊢
          rw [logR_some hcm h, List.length_drop, HN.out, show N - (N - (i + 1)) = i + 1 by omega])
        have HNONE := Lib.hid (show trimL (joinL (R.drop i)).1 = [] → logR N (R.drop i) = logR N (joinL (R.drop i)).2 from fun h => by
          rw [hD] at h ⊢
          rw [logR_none hcm h])
        clear hD
        go_wp2_with (first
          | (go_at_call 62; ((with_reducible refine (HCM.out _).mono ?_); rintro e w1 ⟨rfl, rfl⟩)))
        clear HCM c0 hw1
        go_loopw [6, 8] (fun v6 v8 wr => ∃ (j : Nat) (T : List UInt8) (on : Bool), i ≤ j ∧ j ≤ N ∧ T.length ≤ 65537 * j ∧ v6 = .int .i64 j ∧ v8 = .bool on ∧ Hid (if on = true then (T ++ (joinL (R.drop j)).1, (joinL (R.drop j)).2) = joinL (R.drop i) else (T, R.drop j) = joinL (R.drop i)) ∧ wr = V.alloc (.cells #[.int .i64 ((i : Int) + 1), .string (bs T)] 82)) (fun v6 v8 _ => N - (intOf v6).toNat)
        case atStart => exact ⟨i, [], true, Nat.le_refl _, hi, by simp, by first | rfl | go_num, rfl, Lib.hid (by rw [if_pos rfl]; rfl), by rfl⟩
        case round =>
          obtain ⟨j, T, on, hij0, hjN, hTl, rfl, rfl, HJ0, rfl⟩ := hrel
          have j0 : (0 : Int) ≤ j := by omega
          cases on with
          | false =>
            have HJ := Lib.hid (by have h := HJ0.out; rw [if_neg (by decide)] at h; exact h : (T, R.drop j) = joinL (R.drop i))
            clear HJ0
            have hij : i < j := by
              have h1 := HLT.out
              rw [← HJ.out, List.length_drop, HN.out] at h1
              have h2 : i < N := hlt
              omega
            have HTR := Lib.hid (fun W => refTrim (bs T) (by rw [bs_size]; unfold maxLen; omega) W)
            rw [bs_list] at HTR
            have HSM := Lib.hid (fun h => HSOME.out (by rw [← HJ.out]; exact h))
            have HNO := Lib.hid (fun h => HNONE.out (by rw [← HJ.out]; exact h))
            have HR1 := Lib.hid (show T = (joinL (R.drop i)).1 from congrArg Prod.fst HJ.out)
            have HR2 := Lib.hid (show R.drop j = (joinL (R.drop i)).2 from congrArg Prod.snd HJ.out)
            obtain ⟨t, ht⟩ : ∃ t, t = trimL T := ⟨_, rfl⟩
            have HTT := Lib.hid ht
            rw [← ht] at HTR HSM HNO
            have hw1 : IntKind.i64.wrap ((i : Int) + 1) = i + 1 := by rw [IntKind.wrap_i64]; omega
            clear ht HLT HSOME HNONE
            by_cases h0 : t = []
            · have HE := Lib.hid (HNO.out h0)
              subst h0
              have e0 : (bs []).toList = [] := by rw [bs_toList]
              have e1 : (bs []) = ⟨#[]⟩ := rfl
              rw [e1] at HTR
              clear HSM HNO e0 e1
              go_wp2_with (first
                | (go_at_call 63; ((with_reducible refine (HTR.out _).mono ?_); rintro e w1 ⟨rfl, rfl⟩)))
              go_roundw
              case rel => exact ⟨j, O, by omega, by first | rfl | go_num, Lib.hid (by rw [← HS.out, HE.out, ← HR2.out]), Lib.hid (by rw [← HPO.out]; exact (PO.out.alloc _)), Lib.hid (PB.out.alloc PB.out.size _)⟩
              case measure => simp [intOf]; omega
            · have HE := Lib.hid (HSM.out h0)
              have e1 : (bs t).toList ≠ [] := by rw [bs_toList]; exact h0
              have e2 : (bs t).toList.isEmpty = false := by rw [bs_toList]; cases t with | nil => exact absurd rfl h0 | cons a b => rfl
              have e3 : ((bs t).toList != []) = true := by rw [bne_iff_ne]; exact e1
              clear HSM HNO h0
              go_wp2_with (first
                | (go_at_call 63; ((with_reducible refine (HTR.out _).mono ?_); rintro e w1 ⟨rfl, rfl⟩))
                | (at_builtin
                   refine wpList_append_own _ rfl (.tmp 82) (.tmp 84) 77 rfl W1.heap.size 82 i1 _ 2 24 Tryz.underlying77 KI.out KZ0.out KZ1.out KZ2.out rfl (by omega) _ o _ rfl ((PO.out.alloc _).alloc _) ⟨V.heap.size + 1, 0, none⟩ 1 1 (lnC [(i + 1, t)]) rfl rfl (news_ln V _ i t) (lnC_one _) (by unfold maxLen; omega) (by omega) (by have := PB.out.size; simp; omega) ?_
                   intro vA wA oA hA _
                   rw [← lnC_app] at oA
                   have OA := Lib.hid oA
                   have BA := Lib.hid (((PB.out.alloc PB.out.size _).alloc (by have := PB.out.size; simp; omega) _).grown hA (by have := PB.out.size; simp; omega) (fun g hg => (PO.out.lt g hg).1))
                   clear oA hA))
              go_roundw
              case rel => exact ⟨j, O ++ [(i + 1, t)], by omega, by first | rfl | go_num, Lib.hid (by rw [← HS.out, HE.out, ← HR2.out, ← HR1.out, ← HTT.out, List.append_assoc]; rfl), Lib.hid (by rw [List.length_append, ← HPO.out]; exact OA.out), BA⟩
              case measure => simp [intOf]; omega
          | true =>
            have HJ1 := Lib.hid (by have h := HJ0.out; rw [if_pos rfl] at h; exact h : (T ++ (joinL (R.drop j)).1, (joinL (R.drop j)).2) = joinL (R.drop i))
            clear HJ0
            by_cases hjl : j < N
            · have hx : R[j]? = some (R[j]'(by rw [HN.out]; exact hjl)) := List.getElem?_eq_getElem _
              obtain ⟨s, hs⟩ : ∃ s, s = R[j]'(by rw [HN.out]; exact hjl) := ⟨_, rfl⟩
              rw [← hs] at hx
              have hsl := HLEN.out s (List.mem_of_getElem? hx)
              have d0 := RS.out j s hx
              have c0 := (((Below.refl V.heap.size V).alloc (Nat.le_refl _) (.cells #[.int .i64 ((i : Int) + 1), .string (bs T)] 82)).cell (World.block_lt_of_cell? V _ ((PB1.out.cell (World.block_lt_of_cell? W1 _ d0)).trans d0))).trans ((PB1.out.cell (World.block_lt_of_cell? W1 _ d0)).trans d0)
              have HD := Lib.hid (show R.drop j = s :: R.drop (j + 1) from by rw [hs, List.getElem_cons_drop])
              have HCM := Lib.hid (fun W => refComment (bs s) (by rw [bs_size]; unfold maxLen; omega) W)
              rw [bs_list] at HCM
              have k1 : (j : Int) < N := by omega
              have hw1 : IntKind.i64.wrap ((j : Int) + 1) = j + 1 := by rw [IntKind.wrap_i64]; omega
              clear hs hx d0
              cases hcm : comL s with
              | true =>
                rw [hcm] at HCM
                have HJ2 := Lib.hid (show (T ++ (joinL (R.drop (j + 1))).1, (joinL (R.drop (j + 1))).2) = joinL (R.drop i) from by
                  rw [← HJ1.out, HD.out]
                  conv => rhs; unfold joinL
                  rw [if_pos hcm])
                clear HLT HSOME HNONE
                go_wp2_with (first
                  | (go_at_call 62; ((with_reducible refine (HCM.out _).mono ?_); rintro e w1 ⟨rfl, rfl⟩)))
                go_roundw
                case rel => exact ⟨j + 1, T, true, by omega, by omega, by omega, by go_num, rfl, Lib.hid (by rw [if_pos rfl]; exact HJ2.out), rfl⟩
                case measure => simp [intOf]; omega
              | false =>
                rw [hcm] at HCM
                have HJT := Lib.hid (fun (hc : conL s = true) => show ((T ++ (s.dropLast ++ [32])) ++ (joinL (R.drop (j + 1))).1, (joinL (R.drop (j + 1))).2) = joinL (R.drop i) from by
                  rw [← HJ1.out, HD.out]
                  conv => rhs; unfold joinL
                  rw [hcm, if_neg (by decide), if_pos hc, List.append_assoc, List.append_assoc])
                have HJF := Lib.hid (fun (hc : conL s = false) => show (T ++ s, R.drop (j + 1)) = joinL (R.drop i) from by
                  rw [← HJ1.out, HD.out]
                  conv => rhs; unfold joinL
                  rw [hcm, if_neg (by decide), hc, if_neg (by decide)])
                clear HLT HSOME HNONE
                have HBT := Lib.hid (bs_size T)
                rcases List.eq_nil_or_concat s with rfl | ⟨Y, c, rfl⟩
                · have HJ3 := Lib.hid (HJF.out rfl)
                  rw [List.append_nil] at HJ3
                  have e1 : (bs []).size = 0 := rfl
                  clear HJT HJF
                  go_wp2_with (first
                    | (go_at_call 62; ((with_reducible refine (HCM.out _).mono ?_); rintro e w1 ⟨rfl, rfl⟩))
                    | ((with_reducible show wpList _ _ _ (⟨some 73, _, _, _, _, _⟩ :: _) _ _)
                       refine wpList_cat12 (z := T) rfl rfl rfl rfl (by rw [bs_size, bs_size]; simp; omega) (by rw [bs_app, List.append_nil]) ?_))
                  go_roundw
                  case rel => exact ⟨j + 1, T, false, by omega, by omega, by omega, by go_num, rfl, Lib.hid (by rw [if_neg (by decide)]; exact HJ3.out), rfl⟩
                  case measure => simp [intOf]; omega
                · obtain ⟨m, hm⟩ : ∃ m, m = Y.length := ⟨_, rfl⟩
                  have hsl2 : m + 1 ≤ 65536 := by simp only [List.concat_eq_append, List.length_append, List.length_singleton] at hsl; omega
                  obtain ⟨x, hx⟩ : ∃ x, x = (c.toNat : Int) := ⟨_, rfl⟩
                  have HCON := Lib.hid (show conL (Y ++ [c]) = (x == 92) from by
                    unfold conL
                    rw [List.getLast?_concat, hx, Bool.eq_iff_iff, beq_iff_eq, beq_iff_eq]
                    simp only [Option.some.injEq]
                    exact ⟨fun h => by rw [h]; rfl, fun h => UInt8.toNat_inj.1 (by have : (c.toNat : Int) = ((92 : UInt8).toNat : Int) := h; omega)⟩)
                  rw [List.concat_eq_append] at HCM c0 HJT HJF HD hcm
                  obtain ⟨S, hS⟩ : ∃ S, S = bs (Y ++ [c]) := ⟨_, rfl⟩
                  have e1 : S.size = m + 1 := by rw [hS, bs_size, List.length_append, hm]; rfl
                  have hmS : m < S.size := by rw [e1]; omega
                  have hidx : ((S[m]'hmS).toNat : Int) = x := by
                    subst hS
                    rw [bs_get, hx]
                    congr 2
                    rw [List.getElem_append_right (by omega)]
                    simp [hm]
                  have HXT := Lib.hid (show S.extract 0 m ++ bs [32] = bs (Y ++ [32]) from by
                    rw [ext_bs, hS, bs_list, bs_app, List.take_append_of_le_length (by omega), hm, List.take_length]; rfl)
                  have HXF := Lib.hid (show bs T ++ S = bs (T ++ (Y ++ [c])) from by rw [hS, bs_app])
                  have HSS := Lib.hid e1
                  rw [← hS] at c0 HCM
                  have HYL := Lib.hid hm
                  have hw2 : IntKind.i64.wrap ((m : Int) + 1 - 1) = m := by rw [IntKind.wrap_i64]; omega
                  have hw3 : IntKind.i64.wrap (m : Int) = m := by rw [IntKind.wrap_i64]; omega
                  have m0 : (0 : Int) ≤ m := by omega
                  have m1 : (m : Int) < (m : Int) + 1 := by omega
                  have m2 : (0 : Int) < (m : Int) + 1 := by omega
                  have m3 : (m : Int) ≤ (m : Int) + 1 := by omega
                  clear hx hm hsl hS
                  by_cases h92 : x = 92
                  · have HJ3 := Lib.hid (HJT.out (by rw [HCON.out, beq_iff_eq.2 h92]))
                    rw [List.dropLast_concat] at HJ3
                    subst h92
                    have hlen : (T ++ (Y ++ [32])).length ≤ 65537 * (j + 1) := by rw [List.length_append, List.length_append, ← HYL.out]; simp; omega
                    clear HJT HJF HCON
                    go_wp2_with (first
                      | (go_at_call 62; ((with_reducible refine (HCM.out _).mono ?_); rintro e w1 ⟨rfl, rfl⟩))
                      | ((with_reducible show wpList _ _ _ (⟨some 69, _, _, _, _, _⟩ :: _) _ _)
                         refine wpList_cat12 (z := Y ++ [32]) rfl rfl rfl rfl (ext_size HSS.out) HXT.out ?_)
                      | ((with_reducible show wpList _ _ _ (⟨some 73, _, _, _, _, _⟩ :: _) _ _)
                         refine wpList_cat12 (z := T ++ (Y ++ [32])) rfl rfl rfl rfl (by rw [bs_size, bs_size, List.length_append, ← HYL.out]; simp; omega) (bs_app _ _) ?_))
                    go_roundw
                    case rel => exact ⟨j + 1, T ++ (Y ++ [32]), true, by omega, by omega, hlen, by go_num, rfl, Lib.hid (by rw [if_pos rfl]; exact HJ3.out), rfl⟩
                    case measure => simp [intOf]; omega
                  · have e92 : (x == 92) = false := beq_eq_false_iff_ne.2 h92
                    have HJ3 := Lib.hid (HJF.out (by rw [HCON.out, e92]))
                    have hlen : (T ++ (Y ++ [c])).length ≤ 65537 * (j + 1) := by rw [List.length_append, List.length_append, ← HYL.out]; simp; omega
                    clear HJT HJF HCON h92
                    go_wp2_with (first
                      | (go_at_call 62; ((with_reducible refine (HCM.out _).mono ?_); rintro e w1 ⟨rfl, rfl⟩))
                      | ((with_reducible show wpList _ _ _ (⟨some 73, _, _, _, _, _⟩ :: _) _ _)
                         refine wpList_cat12 (z := T ++ (Y ++ [c])) rfl rfl rfl rfl (by rw [bs_size, HSS.out]; omega) HXF.out ?_))
                    go_roundw
                    case rel => exact ⟨j + 1, T ++ (Y ++ [c]), false, by omega, by omega, hlen, by go_num, rfl, Lib.hid (by rw [if_neg (by decide)]; exact HJ3.out), rfl⟩
                    case measure => simp [intOf]; omega
            · obtain rfl : N = j := by omega
              have jj : ¬ (N : Int) < N := by omega
              have HJ := Lib.hid (by
                have h := HJ1.out
                rw [show R.drop N = [] from List.drop_of_length_le (by rw [HN.out]; exact Nat.le_refl _)] at h ⊢
                rw [← h]
                simp [joinL] : (T, R.drop N) = joinL (R.drop i))
              clear HJ1
              have hij : i < N := by
                have h1 := HLT.out
                rw [← HJ.out, List.length_drop, HN.out] at h1
                have h2 : i < N := hlt
                omega
              have HTR := Lib.hid (fun W => refTrim (bs T) (by rw [bs_size]; unfold maxLen; omega) W)
              rw [bs_list] at HTR
              have HSM := Lib.hid (fun h => HSOME.out (by rw [← HJ.out]; exact h))
              have HNO := Lib.hid (fun h => HNONE.out (by rw [← HJ.out]; exact h))
              have HR1 := Lib.hid (show T = (joinL (R.drop i)).1 from congrArg Prod.fst HJ.out)
              have HR2 := Lib.hid (show R.drop N = (joinL (R.drop i)).2 from congrArg Prod.snd HJ.out)
              obtain ⟨t, ht⟩ : ∃ t, t = trimL T := ⟨_, rfl⟩
              have HTT := Lib.hid ht
              rw [← ht] at HTR HSM HNO
              have hw1 : IntKind.i64.wrap ((i : Int) + 1) = i + 1 := by rw [IntKind.wrap_i64]; omega
              clear ht HLT HSOME HNONE
              by_cases h0 : t = []
              · have HE := Lib.hid (HNO.out h0)
                subst h0
                have e0 : (bs []).toList = [] := by rw [bs_toList]
                have e1 : (bs []) = ⟨#[]⟩ := rfl
                rw [e1] at HTR
                clear HSM HNO e0 e1
                go_wp2_with (first
                  | (go_at_call 63; ((with_reducible refine (HTR.out _).mono ?_); rintro e w1 ⟨rfl, rfl⟩)))
                go_roundw
                case rel => exact ⟨N, O, by omega, by first | rfl | go_num, Lib.hid (by rw [← HS.out, HE.out, ← HR2.out]), Lib.hid (by rw [← HPO.out]; exact (PO.out.alloc _)), Lib.hid (PB.out.alloc PB.out.size _)⟩
                case measure => simp [intOf]; omega
              · have HE := Lib.hid (HSM.out h0)
                have e1 : (bs t).toList ≠ [] := by rw [bs_toList]; exact h0
                have e2 : (bs t).toList.isEmpty = false := by rw [bs_toList]; cases t with | nil => exact absurd rfl h0 | cons a b => rfl
                have e3 : ((bs t).toList != []) = true := by rw [bne_iff_ne]; exact e1
                clear HSM HNO h0
                go_wp2_with (first
                  | (go_at_call 63; ((with_reducible refine (HTR.out _).mono ?_); rintro e w1 ⟨rfl, rfl⟩))
                  | (at_builtin
                     refine wpList_append_own _ rfl (.tmp 82) (.tmp 84) 77 rfl W1.heap.size 82 i1 _ 2 24 Tryz.underlying77 KI.out KZ0.out KZ1.out KZ2.out rfl (by omega) _ o _ rfl ((PO.out.alloc _).alloc _) ⟨V.heap.size + 1, 0, none⟩ 1 1 (lnC [(i + 1, t)]) rfl rfl (news_ln V _ i t) (lnC_one _) (by unfold maxLen; omega) (by omega) (by have := PB.out.size; simp; omega) ?_
                     intro vA wA oA hA _
                     rw [← lnC_app] at oA
                     have OA := Lib.hid oA
                     have BA := Lib.hid (((PB.out.alloc PB.out.size _).alloc (by have := PB.out.size; simp; omega) _).grown hA (by have := PB.out.size; simp; omega) (fun g hg => (PO.out.lt g hg).1))
                     clear oA hA))
                go_roundw
                case rel => exact ⟨N, O ++ [(i + 1, t)], by omega, by first | rfl | go_num, Lib.hid (by rw [← HS.out, HE.out, ← HR2.out, ← HR1.out, ← HTT.out, List.append_assoc]; rfl), Lib.hid (by rw [List.length_append, ← HPO.out]; exact OA.out), BA⟩
                case measure => simp [intOf]; omega
    · obtain rfl : i = N := by omega
      have kk : ¬ (i : Int) < i := by omega
      have hO := Lib.hid (show O = logR i R from by
        have h := HS.out
        rw [show R.drop i = [] from List.drop_of_length_le (by rw [HN.out]; exact Nat.le_refl _), logR_nil, List.append_nil] at h
        exact h)
      go_wp2_with fail
      go_ret2
      exact ⟨_, rfl, by rw [← hO.out]; exact lns_own (by rw [← HPO.out]; exact PO.out), B1.out.trans (PB.out.mono B1.out.size)⟩
end Go.Proofs.YtgigdhincpcdbaaGreatDoor
namespace Go.Proofs.YtgigdhincpcdbaaGreatDoor
open Go.RowKit
set_option linter.unusedVariables false
set_option linter.unusedSimpArgs false
attribute [local go_sem ↓] Go.wp_at_zero Go.wp_at_succ

theorem refSplit (a0 : Option Addr) (n cap : Nat) (l : List UInt8) (w : World) (hl : l.length = n) (hn : n ≤ 1000000) (hc : n ≤ cap) (hm : cap ≤ maxLen) (hr : RdB w w.heap.size a0 l) : Calls Tryz.prog 43 #[.slice a0 n cap] w fun e w' =>
    ∃ v, e = .returned (.tuple #[v, .int .i64 (splE l)]) ∧ LnsAt w' v (splL l) ∧ Below w.heap.size w w' := by
  by_cases h1 : 65536 < n
  · have e1 : splE l = 3 := by unfold splE; rw [if_pos (by omega)]
    have e2 : splL l = [] := by unfold splL; rw [if_pos (by omega)]
    rw [e1, e2]
    have n1 : (65536 : Int) < n := by omega
    clear e1 e2 hl hr h1
    go_enter Tryz.func43, Tryz.ntmps43
    go_wp2_with fail
    go_ret2
    exact ⟨_, rfl, LnsAt.nil _, Below.refl _ _⟩
  · by_cases h2 : 1000 < (linL l).length
    · have e1 : splE l = 4 := by unfold splE; rw [if_neg (by omega), if_pos h2]
      have e2 : splL l = [] := by unfold splL; rw [if_neg (by omega), if_pos h2]
      rw [e1, e2]
      have n1 : ¬ (65536 : Int) < n := by omega
      have HLN := Lib.hid (refLines a0 n cap l w hl (by omega) hc hm hr)
      obtain ⟨N, hN⟩ : ∃ N, N = (linL l).length := ⟨_, rfl⟩
      rw [← hN] at h2 HLN
      have n2 : (1000 : Int) < N := by omega
      clear e1 e2 hl hr h1 hN h2
      go_enter Tryz.func43, Tryz.ntmps43
      go_wp2_with (go_at_call 61; ((with_reducible refine (HLN.out).mono ?_); rintro e W1 ⟨q, c, rfl, o1, b1⟩))
      go_ret2
      exact ⟨_, rfl, LnsAt.nil _, b1⟩
    · have e1 : splE l = 0 := by unfold splE; rw [if_neg (by omega), if_neg h2]
      have e2 : splL l = logR (linL l).length (linL l) := by unfold splL; rw [if_neg (by omega), if_neg h2]
      rw [e1, e2]
      exact split_log a0 n cap l w hl (by omega) (by omega) hc hm hr
/-- What lines.Split, Trim, Comment, Count have to return, over what must lie in memory. -/
structure LinesC (G : World → Prop) : Prop where
  on : ∀ {w w' : World}, G w → Below w.heap.size w w' → G w'
  split : ∀ (a0 : Option Addr) (n cap : Nat) (l : List UInt8) (w : World), G w → l.length = n → n ≤ 140737488355328 → n ≤ cap → cap ≤ maxLen → (a0 = none → cap = 0) → RdB w w.heap.size a0 l → Calls Tryz.prog 32 #[.slice a0 n cap] w fun e w' =>
    ∃ v, e = .returned (.tuple #[v, .int .i64 (splE l)]) ∧ LnsAt w' v (splL l) ∧ Below w.heap.size w w'
  trim : ∀ (s : ByteArray) (w : World), G w → s.size ≤ maxLen → Calls Tryz.prog 66 #[.string s] w fun e w' => e = .returned (.string (bs (trimL s.data.toList))) ∧ Below w.heap.size w w'
  comment : ∀ (s : ByteArray) (w : World), G w → s.size ≤ maxLen → Calls Tryz.prog 69 #[.string s] w fun e w' => e = .returned (.bool (comL s.data.toList)) ∧ Below w.heap.size w w'
  count : ∀ (a0 : Option Addr) (n cap : Nat) (l : List UInt8) (w : World), G w → l.length = n → n ≤ 140737488355328 → n ≤ cap → cap ≤ maxLen → (a0 = none → cap = 0) → RdB w w.heap.size a0 l → Calls Tryz.prog 46 #[.slice a0 n cap] w fun e w' =>
    e = .returned (.int .i64 ((linL l).length : Nat)) ∧ Below w.heap.size w w'
/-- The bytes of a string, in memory of their own. -/
theorem wpList_bytes12 {ops : Array Oper} {rest : List Oper} {op : Oper} {A : Operand} {a : Act} {w : World} {Q : Exit → Act → World → Prop} {l : List UInt8} (hgd : op.guard = none) (ho : op.op = .convert 9 22 A)
    (hA : a.eval A = .string (bs l)) (hl : l.length ≤ maxLen)
    (h : ∀ (w1 : World) (cap : Nat), Below w.heap.size w w1 → RdB w1 w1.heap.size (some ⟨w.heap.size, 0, none⟩) l → l.length ≤ cap → cap ≤ maxLen → wpList Tryz.prog ops Q rest (a.put op.dst (.slice (some ⟨w.heap.size, 0, none⟩) l.length cap)) w1) : wpList Tryz.prog ops Q (op :: rest) a w :=
  wpList_plain hgd fun _ hK => by
    have hrun := run_bytes_of_string (P := Tryz.prog) w 9 22 5 (bs l) Tryz.underlying9 Tryz.underlying22 Tryz.underlying5
    rw [bs_size] at hrun
    have hge := grownCap_ge w l.length 0 5
    have hle := grownCap_le_maxLen w l.length 0 5 hl
    obtain ⟨cp, hcp⟩ : ∃ c, c = grownCap w l.length 0 5 := ⟨_, rfl⟩
    rw [← hcp] at hrun hge hle
    have hc : ∀ (j : Nat) (hj : j < l.length), (bytesRow (bs l) cp)[j]? = some (.int .u8 (l[j].toNat : Int)) := fun j hj => by
      unfold bytesRow bs
      rw [Array.getElem?_append_left (by simp; exact hj)]
      simp [hj]
    have hr : (execOp a.eval op).run Tryz.prog w = .ok (.value (.slice (some ⟨w.heap.size, 0, none⟩) l.length cp)) (w.drew.alloc (.cells (bytesRow (bs l) cp) 5 ((bytesRow (bs l) cp).size, (bytesRow (bs l) cp).size + 1))) := by
      unfold execOp
      rw [ho]
      simp [hA, hrun]
    unfold Oper.wp
    rw [hr]
    refine hK _ _ (h _ cp ((Below.refl _ _).drew.alloc (Nat.le_refl _) _) (fun h0 => ⟨w.heap.size, 0, rfl, by simp, fun j hj => ?_⟩) hge hle)
    rw [Nat.zero_add, show w.heap.size = w.drew.heap.size from rfl, World.cell?_alloc_mark]; exact hc j hj
theorem lns_lit (w : World) (O : List (Nat × List UInt8)) (t : TypeId) : LnsAt (w.alloc (.cells (lnC O).toArray t)) (.slice (some ⟨w.heap.size, 0, none⟩) O.length O.length) O := by
  refine ⟨_, _, rfl, fun k p hk => ⟨w.heap.size, 0, rfl, ?_, ?_⟩⟩
  · rw [Nat.zero_add, cell_of_row _ _ _ _ _ (0, 0) (heap_alloc_new w _), List.getElem?_toArray]
    exact (lnC_get hk).1
  · rw [Nat.zero_add, cell_of_row _ _ _ _ _ (0, 0) (heap_alloc_new w _), List.getElem?_toArray]
    exact (lnC_get hk).2
end Go.Proofs.YtgigdhincpcdbaaGreatDoor
