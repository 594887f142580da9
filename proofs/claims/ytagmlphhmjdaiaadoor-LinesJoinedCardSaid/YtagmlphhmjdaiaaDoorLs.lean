/- The statement LinesPlain holds, over what the calls have to return: texts of which none is a comment, ends with a backslash, or has a byte 10, one a line, with comments between, have just those that have more than white space as logical lines. -/
import Derived.Test.YtagmlphhmjdaiaaDoorRows
import Derived.Test.YtagmlphhmjdaiaaDoorCards
import Derived.Test.YtagmlphhmjdaiaaDoorTie
import Derived.SevenTiedAt
import Derived.Test.YtagmlphhmjdaiaaDoorFr
import Derived.Test.YtagmlphhmjdaiaaDoorZn
import Derived.Test.YtagmlphhmjdaiaaDoorZm
import Derived.Test.YtagmlphhmjdaiaaDoorLj
import Derived.Test.YtagmlphhmjdaiaaDoorLl
import Derived.Test.YtagmlphhmjdaiaaDoorLq
import Derived.Test.YtagmlphhmjdaiaaDoorLr
namespace Go.Proofs.YtagmlphhmjdaiaaDoor
open Go.RowKit
set_option linter.unusedVariables false
/-- The bytes of a string, in memory of their own, where another operation wants it, or nobody. -/
theorem wpList_bytes12g {ops : Array Oper} {rest : List Oper} {op : Oper} {A : Operand} {a : Act} {w : World} {Q : Exit → Act → World → Prop} {l : List UInt8} (hw : Region.wanted op (yielded ops a.tmps) = true) (ho : op.op = .convert 9 22 A)
    (hA : a.eval A = .string (bs l)) (hl : l.length ≤ maxLen)
    (h : ∀ (w1 : World) (cap : Nat), Below w.heap.size w w1 → RdB w1 w1.heap.size (some ⟨w.heap.size, 0, none⟩) l → l.length ≤ cap → cap ≤ maxLen → wpList Tryd.prog ops Q rest (a.put op.dst (.slice (some ⟨w.heap.size, 0, none⟩) l.length cap)) w1) : wpList Tryd.prog ops Q (op :: rest) a w := by
  have hrun := run_bytes_of_string (P := Tryd.prog) w 9 22 5 (bs l) Tryd.underlying9 Tryd.underlying22 Tryd.underlying5
  rw [bs_size] at hrun
  have hge := grownCap_ge w l.length 0 5
  have hle := grownCap_le_maxLen w l.length 0 5 hl
  obtain ⟨cp, hcp⟩ : ∃ c, c = grownCap w l.length 0 5 := ⟨_, rfl⟩
  rw [← hcp] at hrun hge hle
  have hc : ∀ (j : Nat) (hj : j < l.length), (bytesRow (bs l) cp)[j]? = some (.int .u8 (l[j].toNat : Int)) := fun j hj => by
    unfold bytesRow bs
    rw [Array.getElem?_append_left (by simp; exact hj)]
    simp [hj]
  have hr : (execOp a.eval op).run Tryd.prog w = .ok (.value (.slice (some ⟨w.heap.size, 0, none⟩) l.length cp)) (w.drew.alloc (.cells (bytesRow (bs l) cp) 5 ((bytesRow (bs l) cp).size, (bytesRow (bs l) cp).size + 1))) := by
    unfold execOp
    rw [ho]
    simp [hA, hrun]
  unfold wpList
  rw [if_pos hw]
  left
  unfold Oper.wp
  rw [hr]
  refine h _ cp ((Below.refl _ _).drew.alloc (Nat.le_refl _) _) (fun h0 => ⟨w.heap.size, 0, rfl, by simp, fun j hj => ?_⟩) hge hle
  rw [Nat.zero_add, show w.heap.size = w.drew.heap.size from rfl, World.cell?_alloc_mark]; exact hc j hj
theorem own_on12 {w w' : World} {B n s : Nat} {e : TypeId} {v : Value} {xs : List Value} (h : w.ownsRow B e s v n xs) (hb : Below w.heap.size w w') : w'.ownsRow B e s v n xs := by
  refine ⟨h.1, ?_⟩
  rcases h.2 with h0 | ⟨g, cap, cur, hv, hg, hh, r⟩
  · exact .inl h0
  · refine .inr ⟨g, cap, cur, hv, hg, ?_, r⟩
    have hlt : g < w.heap.size := (Array.getElem?_eq_some_iff.1 hh).1
    rw [hb.block g hlt]; exact hh
theorem tl_info : (Tryd.prog.info? 35).map (fun i => (i.zero, i.size, i.bytes)) = some (some (.agg #[.int .i64 0, .string ⟨#[]⟩]), 2, 24) := by kernel_rfl
theorem news_w (w : World) (n : Nat) (y : Int) (hy : y = (n : Int)) (t : List UInt8) (T : TypeId) : ∀ j u, (lnC [(n, t)])[j]? = some u → (w.alloc (.cells #[.int .i64 y, .string (bs t)] T)).cell? ((⟨w.heap.size, 0, none⟩ : Addr).add j) = some u := fun j u hu => by
  subst hy
  rw [Addr.add_lit, Nat.zero_add, cell_of_row _ _ _ _ _ (0, 0) (heap_alloc_new w _)]
  match j, hu with
  | 0, hu => injection hu with hu; subst hu; rfl
  | 1, hu => injection hu with hu; subst hu; rfl
  | j + 2, hu => cases hu
end Go.Proofs.YtagmlphhmjdaiaaDoor
namespace Go.Proofs.YtagmlphhmjdaiaaDoor.linesPlain
set_option linter.unusedSimpArgs false
open Go.ChangeShapes Go.WideShapes Go.ChangeAt Go.RowKit
open Go.ChangeMaps (open_string shut_string)
set_option linter.unusedVariables false
attribute [local go_sem ↓] Go.wp_at_zero Go.wp_at_succ
set_option maxRecDepth 100000 in
set_option maxHeartbeats 64000000 in
theorem walk {G : World → Prop} (HC : LinesC G) (a0 : Option Addr) (len0 cap0 : Nat) (z0 : List ByteArray) (a1 : Int) (w : World) (hG : G w) (w0 : IsStrs w a0 len0 cap0 z0) (w1 : (Lit.int .u64 a1).wf = true) :
    Calls Tryd.prog 6 #[.slice a0 len0 cap0, .int .u64 a1] w fun e w' => e = .returned (.bool true) ∧ Below w.heap.size w w' := by
  have HAW := Lib.hid (fun (W : World) (g : G W) => awake12_any HC W g)
  have HON := Lib.hid (fun (w w' : World) => HC.on (w := w) (w' := w'))
  have HG := Lib.hid hG
  obtain ⟨y0, y1⟩ := bounds_u64 w1
  by_cases hlong : (60 : Int) < len0
  · clear HC hG w0 w1 y0 y1
    go_enter Tryd.func6, Tryd.ntmps6
    go_wp2_with (go_at_call 12; ((with_reducible refine (HAW.out _ HG.out).mono ?_); rintro e v1 ⟨rfl, b1⟩))
    go_ret
    exact ⟨rfl, b1⟩
  have hs : (len0 : Int) ≤ 60 := by omega
  obtain ⟨i1, hi1, kz0, kz1, kz2⟩ := info_parts tl_info
  have KI := Lib.hid hi1
  have KZ0 := Lib.hid kz0
  have KZ1 := Lib.hid kz1
  have KZ2 := Lib.hid kz2
  have HZL := Lib.hid w0.size
  have HRN := Lib.hid w0.rng
  have HRD := Lib.hid w0.rd
  have HCC := Lib.hid HC
  have HY0 := Lib.hid y0
  have HY1 := Lib.hid y1
  clear HC hG w0 w1 hlong hi1 kz0 kz1 kz2 y0 y1
  have HC := HCC
  clear HCC
  go_enter Tryd.func6, Tryd.ntmps6
  go_wp2_with fail
  go_loopw [5, 6, 7, 8] (fun v5 v6 v7 v8 wr => ∃ (k : Nat) (Ls : List (List UInt8)), k ≤ len0 ∧ v8 = .int .i64 k ∧ v6 = .int .i64 (Ls.length : Nat) ∧ v5 = .string (bs (flatL Ls)) ∧ Hid (PlnOk k Ls) ∧ Hid (wr.ownsRow w.heap.size 35 2 v7 (plnW 0 Ls).length (lnC (plnW 0 Ls))) ∧ Hid (Below w.heap.size w wr)) (fun _ _ _ v8 _ => len0 - (intOf v8).toNat)
  case atStart => exact ⟨0, [], by omega, rfl, rfl, rfl, Lib.hid PlnOk.zero, Lib.hid (World.ownsRow_nil _ _ _ _), Lib.hid (Below.refl _ _)⟩
  case round =>
    obtain ⟨k, Ls, hk, rfl, rfl, rfl, HOK, PO, PB⟩ := hrel
    obtain ⟨V, rfl⟩ : ∃ wo : World, wo = wr := ⟨_, rfl⟩
    by_cases hlt : k < len0
    · have hmany := HOK.out.many
      have hx : z0[k]? = some (z0[k]'(by rw [HZL.out]; exact hlt)) := List.getElem?_eq_getElem _
      obtain ⟨S, hS⟩ : ∃ s, s = z0[k]'(by rw [HZL.out]; exact hlt) := ⟨_, rfl⟩
      rw [← hS] at hx
      have hSm := HRN.out S (List.mem_of_getElem? hx)
      obtain ⟨b, o, rfl, hb, hcs⟩ := HRD.out (by omega)
      have d0 := hcs k S hx
      have c0 := (PB.out.cell (World.block_lt_of_cell? w _ d0)).trans d0
      obtain ⟨t, ht⟩ : ∃ t, t = S.data.toList := ⟨_, rfl⟩
      have HSB := Lib.hid (show S = bs t by rw [ht, bs_self])
      have HSZ := Lib.hid (show S.size = t.length by rw [ht]; simp)
      have HGET := Lib.hid (show ∀ i (h : i < S.size) (h2 : i < t.length), S[i]'h = t[i]'h2 from fun i h h2 => by subst ht; rfl)
      have HCM := Lib.hid (fun (W : World) (g : G W) => HC.out.comment S W g hSm)
      have HTR := Lib.hid (fun (W : World) (g : G W) => HC.out.trim S W g hSm)
      rw [← ht] at HCM HTR
      have GV := HON.out _ _ HG.out PB.out
      have k1 : (k : Int) < len0 := by omega
      have k0 : (0 : Int) ≤ k := by omega
      have hw1 : IntKind.i64.wrap ((k : Int) + 1) = k + 1 := by rw [IntKind.wrap_i64]; omega
      clear hx hS hb hcs d0 ht
      by_cases h60 : (60 : Int) < S.size
      · have h61 : decide ((60 : Int) < S.size) = true := decide_eq_true h60
        go_wp2_with (first
          | (go_at_call 15; ((with_reducible refine (HCM.out _ GV).mono ?_); rintro e vy ⟨rfl, by_⟩); have gy := HON.out _ _ GV by_; have hy := thn PB.out by_)
          | (go_at_call 12; ((with_reducible refine (HAW.out _ GV).mono ?_); rintro e vz ⟨rfl, bz⟩)))
        go_ret
        exact ⟨by first | rfl | simp, thn PB.out bz⟩
      have h61 : decide ((60 : Int) < S.size) = false := decide_eq_false h60
      cases hcm : comL t with
      | true =>
        rw [hcm] at HCM
        go_wp2_with (first
          | (go_at_call 15; ((with_reducible refine (HCM.out _ GV).mono ?_); rintro e vy ⟨rfl, by_⟩); have gy := HON.out _ _ GV by_; have hy := thn PB.out by_)
          | (go_at_call 12; ((with_reducible refine (HAW.out _ gy).mono ?_); rintro e vz ⟨rfl, bz⟩)))
        go_ret
        exact ⟨by first | rfl | simp, thn hy bz⟩
      | false =>
        rw [hcm] at HCM
        rcases List.eq_nil_or_concat t with ht0 | ⟨Y, c, hY⟩
        · have hs0 : S.size = 0 := by rw [HSZ.out, ht0]; rfl
          have HPT := Lib.hid (fun (h : ∀ c ∈ t, c ≠ 10) => (⟨by rw [ht0]; simp, hcm, by rw [ht0]; rfl, h⟩ : PlainT t))
          have s0 : ¬ (0 : Int) < S.size := by omega
          have s00 : decide ((0 : Int) < S.size) = false := decide_eq_false s0
          have s01 : ¬ 0 < S.size := by omega
          clear hs0 ht0 h60
          go_wp2_with (first
            | (go_at_call 15; ((with_reducible refine (HCM.out _ GV).mono ?_); rintro e vy ⟨rfl, by_⟩); have GY := Lib.hid (HON.out _ _ GV by_); have BY := Lib.hid (thn PB.out by_); have bY := Lib.hid by_; clear by_))
          go_loop [10] (fun vk => ∃ j : Nat, j ≤ S.size ∧ vk = .int .i64 j ∧ Hid (∀ i (h : i < S.size), i < j → S[i]'h ≠ 10)) (fun vk => S.size - (intOf vk).toNat)
          case atStart => exact ⟨0, by omega, rfl, Lib.hid (fun i h hi => absurd hi (by omega))⟩
          case round =>
            obtain ⟨j, hj, rfl, HT⟩ := hrel
            by_cases hjl : j < S.size
            · obtain ⟨x, hx⟩ : ∃ x, x = (((S[j]'hjl).toNat : Nat) : Int) := ⟨_, rfl⟩
              have hidx : (((S[j]'hjl).toNat : Nat) : Int) = x := hx.symm
              have j1 : (j : Int) < S.size := by omega
              have j0 : (0 : Int) ≤ j := by omega
              have hw2 : IntKind.i64.wrap ((j : Int) + 1) = j + 1 := by rw [IntKind.wrap_i64]; omega
              by_cases h10 : x = 10
              · subst h10
                clear hx
                go_wp2_with (first
                  | (go_at_call 12; ((with_reducible refine (HAW.out _ GY.out).mono ?_); rintro e vz ⟨rfl, bz⟩)))
                go_ret
                exact ⟨by first | rfl | simp, thn BY.out bz⟩
              · have HN10 := Lib.hid (show S[j]'hjl ≠ 10 from fun h => h10 (by rw [hx, h]; rfl))
                have hb10 : (x == 10) = false := beq_eq_false_iff_ne.2 h10
                clear h10 hx
                go_wp2_with fail
                go_round
                case rel => exact ⟨j + 1, by omega, by go_num, Lib.hid (fun i h hi => by
                  by_cases e : i = j
                  · subst e; exact HN10.out
                  · exact HT.out i h (by omega))⟩
                case measure => simp [intOf]; omega
            · obtain rfl : j = S.size := by omega
              have jj : ¬ (S.size : Int) < S.size := by omega
              have HTEN := Lib.hid (show ∀ c ∈ t, c ≠ 10 from fun c hc => by
                obtain ⟨i, hi, rfl⟩ := List.mem_iff_getElem.1 hc
                have hi2 : i < S.size := by rw [HSZ.out]; exact hi
                have := HT.out i hi2 hi2
                rwa [show S[i]'hi2 = t[i]'hi from HGET.out i hi2 hi] at this)
              clear HT
              have HPL := Lib.hid (HPT.out HTEN.out)
              have hS60 : t.length ≤ 60 := HPL.out.len
              have hkm : IntKind.i64.wrap ((Ls.length : Int) + 1) = (Ls.length : Int) + 1 := by rw [IntKind.wrap_i64]; omega
              have hkm2 : IntKind.i64.wrap ((Ls.length : Int) + 1 + 1) = (Ls.length : Int) + 1 + 1 := by rw [IntKind.wrap_i64]; omega
              have hk64 : (k : Int).tmod 64 = k := by rw [Int.tmod_eq_emod_of_nonneg (by omega)]; omega
              have hku : IntKind.u64.wrap (k : Int) = k := by rw [IntKind.wrap_u64]; omega
              have P1 := Lib.hid (own_on12 PO.out bY.out)
              have bl := Lib.hid (show (flatL Ls).length ≤ 7320 by have := HOK.out.flat; omega)
              have HNL := Lib.hid (show (plnW 0 Ls).length ≤ 120 by have := plnW_len Ls 0; have := HOK.out.many; omega)
              have c13 : cmtL.length = 13 := rfl
              have HC65 := Lib.hid (show (bs (flatL Ls)).size + (⟨#[32, 35, 32, 97, 32, 99, 111, 109, 109, 101, 110, 116, 92, 10]⟩ : ByteArray).size ≤ 4611686018427387904 from by rw [bs_size]; have := bl.out; show _ + 14 ≤ _; omega)
              have HB65 := Lib.hid (show bs (flatL Ls) ++ (⟨#[32, 35, 32, 97, 32, 99, 111, 109, 109, 101, 110, 116, 92, 10]⟩ : ByteArray) = bs (flatL Ls ++ (cmtL ++ [10])) from bs_app _ _)
              have HC70 := Lib.hid (show (bs (flatL Ls)).size + S.size ≤ 4611686018427387904 from by rw [bs_size, HSZ.out]; have := bl.out; omega)
              have HB70 := Lib.hid (show bs (flatL Ls) ++ S = bs (flatL Ls ++ t) from by rw [HSB.out, bs_app])
              have HC75 := Lib.hid (show (bs (flatL Ls ++ (cmtL ++ [10]))).size + S.size ≤ 4611686018427387904 from by rw [bs_size, HSZ.out, List.length_append, List.length_append, c13]; have := bl.out; simp; omega)
              have HB75 := Lib.hid (show bs (flatL Ls ++ (cmtL ++ [10])) ++ S = bs (flatL Ls ++ (cmtL ++ 10 :: t)) from by rw [HSB.out, bs_app]; simp)
              have HC71 := Lib.hid (show (bs (flatL Ls ++ t)).size + (⟨#[10]⟩ : ByteArray).size ≤ 4611686018427387904 from by rw [bs_size, List.length_append]; have := bl.out; show _ + 1 ≤ _; omega)
              have HB71 := Lib.hid (show bs (flatL Ls ++ t) ++ (⟨#[10]⟩ : ByteArray) = bs (flatL Ls ++ (t ++ [10])) from (bs_app (flatL Ls ++ t) [10]).trans (by rw [List.append_assoc]))
              have HC76 := Lib.hid (show (bs (flatL Ls ++ (cmtL ++ 10 :: t))).size + (⟨#[10]⟩ : ByteArray).size ≤ 4611686018427387904 from by rw [bs_size, List.length_append, List.length_append, List.length_cons, c13]; have := bl.out; show _ + 1 ≤ _; omega)
              have HB76 := Lib.hid (show bs (flatL Ls ++ (cmtL ++ 10 :: t)) ++ (⟨#[10]⟩ : ByteArray) = bs (flatL Ls ++ (cmtL ++ 10 :: (t ++ [10]))) from (bs_app (flatL Ls ++ (cmtL ++ 10 :: t)) [10]).trans (by simp))
              have HN1 := Lib.hid (show (Ls.length : Int) + 1 = ((Ls.length + 1 : Nat) : Int) from by omega)
              have HN2 := Lib.hid (show (Ls.length : Int) + 1 + 1 = ((Ls.length + 1 + 1 : Nat) : Int) from by omega)
              have HL1 := Lib.hid (show ((Ls ++ [t]).length : Int) = (Ls.length : Int) + 1 from by rw [List.length_append]; rfl)
              have HL2 := Lib.hid (show ((Ls ++ [cmtL] ++ [t]).length : Int) = (Ls.length : Int) + 1 + 1 from by rw [List.length_append, List.length_append]; simp)
              have HF1 := Lib.hid (show flatL (Ls ++ [t]) = flatL Ls ++ (t ++ [10]) from by rw [flatL_app, flatL_one])
              have HF2 := Lib.hid (show flatL (Ls ++ [cmtL] ++ [t]) = flatL Ls ++ (cmtL ++ 10 :: (t ++ [10])) from by rw [flatL_app, flatL_app, flatL_one, flatL_one]; simp)
              have HP2 := Lib.hid (show (Ls ++ [cmtL]).length + 1 = Ls.length + 1 + 1 from by rw [List.length_append]; rfl)
              clear c13
              by_cases htr : trimL t = []
              · rw [htr] at HTR
                have hbe : bs [] = ⟨#[]⟩ := rfl
                rw [hbe] at HTR
                have HWN := Lib.hid (pln_none (Ls := Ls) HPL.out.com htr)
                have HWC := Lib.hid ((pln_none (Ls := Ls ++ [cmtL]) HPL.out.com htr).trans (pln_com cmt_com))
                clear htr hbe
                go_wp2_with (first
                  | ((with_reducible show wpList _ _ _ (⟨some 65, _, _, _, _, _⟩ :: _) _ _)
                     refine wpList_cat12 (X := bs (flatL Ls)) (z := flatL Ls ++ (cmtL ++ [10])) rfl rfl rfl rfl HC65.out HB65.out ?_)
                  | ((with_reducible show wpList _ _ _ (⟨some 70, _, _, _, _, _⟩ :: _) _ _)
                     first
                       | (refine wpList_cat12 (X := bs (flatL Ls)) (z := flatL Ls ++ t) rfl rfl rfl rfl HC70.out HB70.out ?_)
                       | (refine wpList_cat12 (X := bs (flatL Ls ++ (cmtL ++ [10]))) (z := flatL Ls ++ (cmtL ++ 10 :: t)) rfl rfl rfl rfl HC75.out HB75.out ?_))
                  | ((with_reducible show wpList _ _ _ (⟨some 71, _, _, _, _, _⟩ :: _) _ _)
                     first
                       | (refine wpList_cat12 (X := bs (flatL Ls ++ t)) (z := flatL Ls ++ (t ++ [10])) rfl rfl rfl rfl HC71.out HB71.out ?_)
                       | (refine wpList_cat12 (X := bs (flatL Ls ++ (cmtL ++ 10 :: t))) (z := flatL Ls ++ (cmtL ++ 10 :: (t ++ [10]))) rfl rfl rfl rfl HC76.out HB76.out ?_))
                  | (go_at_call 13; ((with_reducible refine (HTR.out _ GY.out).mono ?_); rintro e vx ⟨rfl, bx⟩); have BX := Lib.hid (thn BY.out bx); have bX := Lib.hid bx; have P2 := Lib.hid (own_on12 P1.out bx)))
                · go_roundw
                  case rel => exact ⟨k + 1, Ls ++ [cmtL] ++ [t], by omega, by go_num, by rw [HL2.out], by rw [HF2.out], Lib.hid (HOK.out.cmt HPL.out), Lib.hid (by rw [HWC.out]; exact P2.out), Lib.hid (thn PB.out (thn bY.out bX.out))⟩
                  case measure => simp [intOf]; omega
                · go_roundw
                  case rel => exact ⟨k + 1, Ls ++ [t], by omega, by go_num, by rw [HL1.out], by rw [HF1.out], Lib.hid (HOK.out.more HPL.out), Lib.hid (by rw [HWN.out]; exact P2.out), Lib.hid (thn PB.out (thn bY.out bX.out))⟩
                  case measure => simp [intOf]; omega
              · have e1 : (bs (trimL t)).toList ≠ [] := by rw [bs_toList]; exact htr
                have e2 : (bs (trimL t)).toList.isEmpty = false := by rw [bs_toList]; cases h : trimL t with | nil => exact absurd h htr | cons a b => rfl
                have e3 : ((bs (trimL t)).toList != []) = true := by rw [bne_iff_ne]; exact e1
                have HWN := Lib.hid (pln_some (Ls := Ls) HPL.out.com htr)
                have HWC := Lib.hid ((pln_some (Ls := Ls ++ [cmtL]) HPL.out.com htr).trans (by rw [pln_com cmt_com]))
                obtain ⟨tr, htq⟩ : ∃ x, x = trimL t := ⟨_, rfl⟩
                rw [← htq] at HTR HWN HWC e1 e2 e3
                clear htr htq
                go_wp2_with (first
                  | ((with_reducible show wpList _ _ _ (⟨some 65, _, _, _, _, _⟩ :: _) _ _)
                     refine wpList_cat12 (X := bs (flatL Ls)) (z := flatL Ls ++ (cmtL ++ [10])) rfl rfl rfl rfl HC65.out HB65.out ?_)
                  | ((with_reducible show wpList _ _ _ (⟨some 70, _, _, _, _, _⟩ :: _) _ _)
                     first
                       | (refine wpList_cat12 (X := bs (flatL Ls)) (z := flatL Ls ++ t) rfl rfl rfl rfl HC70.out HB70.out ?_)
                       | (refine wpList_cat12 (X := bs (flatL Ls ++ (cmtL ++ [10]))) (z := flatL Ls ++ (cmtL ++ 10 :: t)) rfl rfl rfl rfl HC75.out HB75.out ?_))
                  | ((with_reducible show wpList _ _ _ (⟨some 71, _, _, _, _, _⟩ :: _) _ _)
                     first
                       | (refine wpList_cat12 (X := bs (flatL Ls ++ t)) (z := flatL Ls ++ (t ++ [10])) rfl rfl rfl rfl HC71.out HB71.out ?_)
                       | (refine wpList_cat12 (X := bs (flatL Ls ++ (cmtL ++ 10 :: t))) (z := flatL Ls ++ (cmtL ++ 10 :: (t ++ [10]))) rfl rfl rfl rfl HC76.out HB76.out ?_))
                  | (go_at_call 13; ((with_reducible refine (HTR.out _ GY.out).mono ?_); rintro e vx ⟨rfl, bx⟩); have GX := HON.out _ _ GY.out bx; have hX := bx)
                  | (go_at_call 13; ((with_reducible refine (HTR.out _ GX).mono ?_); rintro e vw ⟨rfl, bw⟩); have hW := thn hX bw)
                  | (go_at_call 17; ((with_reducible refine (of_c _ _ _).mono ?_); rintro e vv ⟨rfl, bv⟩); have BX := Lib.hid (thn BY.out (thn hW bv)); have bX := Lib.hid (thn hW bv); have P2 := Lib.hid (own_on12 P1.out (thn hW bv)); have bXX := (thn PB.out (thn bY.out bX.out)))
                  | (at_builtin
                     first
                       | (refine wpList_append_own _ rfl (.tmp 77) (.tmp 82) 24 rfl w.heap.size 35 i1 _ 2 24 Tryd.underlying24 KI.out KZ0.out KZ1.out KZ2.out rfl (by omega) _ (plnW 0 Ls).length _ rfl (P2.out.alloc _) ⟨vv.heap.size, 0, none⟩ 1 1 (lnC [(Ls.length + 1, tr)]) rfl rfl (news_w vv (Ls.length + 1) ((Ls.length : Int) + 1) HN1.out tr _) (lnC_one _) (by have := HNL.out; unfold maxLen; omega) (by have := HNL.out; omega) (by have := bXX.size; simp; omega) ?_)
                       | (refine wpList_append_own _ rfl (.tmp 77) (.tmp 82) 24 rfl w.heap.size 35 i1 _ 2 24 Tryd.underlying24 KI.out KZ0.out KZ1.out KZ2.out rfl (by omega) _ (plnW 0 Ls).length _ rfl (P2.out.alloc _) ⟨vv.heap.size, 0, none⟩ 1 1 (lnC [(Ls.length + 1 + 1, tr)]) rfl rfl (news_w vv (Ls.length + 1 + 1) ((Ls.length : Int) + 1 + 1) HN2.out tr _) (lnC_one _) (by have := HNL.out; unfold maxLen; omega) (by have := HNL.out; omega) (by have := bXX.size; simp; omega) ?_)
                     intro vA wA oA hA _
                     rw [← lnC_app] at oA
                     have OA := Lib.hid oA
                     have BA := Lib.hid ((bXX.alloc bXX.size _).grown hA (by have := bXX.size; simp; omega) (fun g hg => (P2.out.lt g hg).1))
                     clear oA hA))
                · go_roundw
                  case rel => exact ⟨k + 1, Ls ++ [cmtL] ++ [t], by omega, by go_num, by rw [HL2.out], by rw [HF2.out], Lib.hid (HOK.out.cmt HPL.out), Lib.hid (by rw [HWC.out, HP2.out, List.length_append]; exact OA.out), BA⟩
                  case measure => simp [intOf]; omega
                · go_roundw
                  case rel => exact ⟨k + 1, Ls ++ [t], by omega, by go_num, by rw [HL1.out], by rw [HF1.out], Lib.hid (HOK.out.more HPL.out), Lib.hid (by rw [HWN.out, List.length_append]; exact OA.out), BA⟩
                  case measure => simp [intOf]; omega
        · rw [List.concat_eq_append] at hY
          obtain ⟨m, hm⟩ : ∃ m, m = Y.length := ⟨_, rfl⟩
          have e1 : S.size = m + 1 := by rw [HSZ.out, hY, List.length_append, hm]; rfl
          have hmS : m < S.size := by omega
          obtain ⟨x, hx⟩ : ∃ x, x = (((S[m]'hmS).toNat : Nat) : Int) := ⟨_, rfl⟩
          have hxc : x = (c.toNat : Int) := by
            rw [hx, show S[m]'hmS = t[m]'(by rw [← HSZ.out]; exact hmS) from HGET.out m hmS _]
            congr 2
            subst hY
            rw [List.getElem_append_right (by omega)]
            simp [hm]
          have hidx0 : (((S[m]'hmS).toNat : Nat) : Int) = x := hx.symm
          have hcon : conL t = (x == 92) := by
            unfold conL
            rw [hY, List.getLast?_concat, hxc, Bool.eq_iff_iff, beq_iff_eq, beq_iff_eq]
            simp only [Option.some.injEq]
            exact ⟨fun h => by rw [h]; rfl, fun h => UInt8.toNat_inj.1 (by have : (c.toNat : Int) = ((92 : UInt8).toNat : Int) := h; omega)⟩
          have hS6 : S.size ≤ 60 := by omega
          have hw3 : IntKind.i64.wrap ((S.size : Int) - 1) = m := by rw [IntKind.wrap_i64]; omega
          have hw4 : (S.size : Int) - 1 = m := by omega
          have hw5 : IntKind.i64.wrap (m : Int) = m := by rw [IntKind.wrap_i64]; omega
          have m0 : (0 : Int) ≤ m := by omega
          have m1 : (m : Int) < S.size := by omega
          have m2 : (0 : Int) < S.size := by omega
          have m3 : 0 < S.size := by omega
          have m4 : decide ((0 : Int) < S.size) = true := decide_eq_true m2
          have hlen := (show t.length ≤ 60 by rw [← HSZ.out]; omega)
          clear hm e1 hx hxc h60
          by_cases h92 : x = 92
          · subst h92
            clear hcon hY hlen
            go_wp2_with (first
              | (go_at_call 15; ((with_reducible refine (HCM.out _ GV).mono ?_); rintro e vy ⟨rfl, by_⟩); have gy := HON.out _ _ GV by_; have hy := thn PB.out by_)
              | (go_at_call 12; ((with_reducible refine (HAW.out _ gy).mono ?_); rintro e vz ⟨rfl, bz⟩)))
            go_ret
            exact ⟨by first | rfl | simp, thn hy bz⟩
          · have e92 : (x == 92) = false := beq_eq_false_iff_ne.2 h92
            rw [e92] at hcon
            have HPT := Lib.hid (fun (h : ∀ c ∈ t, c ≠ 10) => (⟨hlen, hcm, hcon, h⟩ : PlainT t))
            clear h92 hcon hY hlen
            go_wp2_with (first
              | (go_at_call 15; ((with_reducible refine (HCM.out _ GV).mono ?_); rintro e vy ⟨rfl, by_⟩); have GY := Lib.hid (HON.out _ _ GV by_); have BY := Lib.hid (thn PB.out by_); have bY := Lib.hid by_; clear by_))
            clear hw3 hw4 hw5 m0 m1 m2 m3 m4 hidx0 e92
            go_loop [10] (fun vk => ∃ j : Nat, j ≤ S.size ∧ vk = .int .i64 j ∧ Hid (∀ i (h : i < S.size), i < j → S[i]'h ≠ 10)) (fun vk => S.size - (intOf vk).toNat)
            case atStart => exact ⟨0, by omega, rfl, Lib.hid (fun i h hi => absurd hi (by omega))⟩
            case round =>
              obtain ⟨j, hj, rfl, HT⟩ := hrel
              by_cases hjl : j < S.size
              · obtain ⟨x, hx⟩ : ∃ x, x = (((S[j]'hjl).toNat : Nat) : Int) := ⟨_, rfl⟩
                have hidx : (((S[j]'hjl).toNat : Nat) : Int) = x := hx.symm
                have j1 : (j : Int) < S.size := by omega
                have j0 : (0 : Int) ≤ j := by omega
                have hw2 : IntKind.i64.wrap ((j : Int) + 1) = j + 1 := by rw [IntKind.wrap_i64]; omega
                by_cases h10 : x = 10
                · subst h10
                  clear hx
                  go_wp2_with (first
                    | (go_at_call 12; ((with_reducible refine (HAW.out _ GY.out).mono ?_); rintro e vz ⟨rfl, bz⟩)))
                  go_ret
                  exact ⟨by first | rfl | simp, thn BY.out bz⟩
                · have HN10 := Lib.hid (show S[j]'hjl ≠ 10 from fun h => h10 (by rw [hx, h]; rfl))
                  have hb10 : (x == 10) = false := beq_eq_false_iff_ne.2 h10
                  clear h10 hx
                  go_wp2_with fail
                  go_round
                  case rel => exact ⟨j + 1, by omega, by go_num, Lib.hid (fun i h hi => by
                    by_cases e : i = j
                    · subst e; exact HN10.out
                    · exact HT.out i h (by omega))⟩
                  case measure => simp [intOf]; omega
              · obtain rfl : j = S.size := by omega
                have jj : ¬ (S.size : Int) < S.size := by omega
                have HTEN := Lib.hid (show ∀ c ∈ t, c ≠ 10 from fun c hc => by
                  obtain ⟨i, hi, rfl⟩ := List.mem_iff_getElem.1 hc
                  have hi2 : i < S.size := by rw [HSZ.out]; exact hi
                  have := HT.out i hi2 hi2
                  rwa [show S[i]'hi2 = t[i]'hi from HGET.out i hi2 hi] at this)
                clear HT
                have HPL := Lib.hid (HPT.out HTEN.out)
                have hS60 : t.length ≤ 60 := HPL.out.len
                have hkm : IntKind.i64.wrap ((Ls.length : Int) + 1) = (Ls.length : Int) + 1 := by rw [IntKind.wrap_i64]; omega
                have hkm2 : IntKind.i64.wrap ((Ls.length : Int) + 1 + 1) = (Ls.length : Int) + 1 + 1 := by rw [IntKind.wrap_i64]; omega
                have hk64 : (k : Int).tmod 64 = k := by rw [Int.tmod_eq_emod_of_nonneg (by omega)]; omega
                have hku : IntKind.u64.wrap (k : Int) = k := by rw [IntKind.wrap_u64]; omega
                have P1 := Lib.hid (own_on12 PO.out bY.out)
                have bl := Lib.hid (show (flatL Ls).length ≤ 7320 by have := HOK.out.flat; omega)
                have HNL := Lib.hid (show (plnW 0 Ls).length ≤ 120 by have := plnW_len Ls 0; have := HOK.out.many; omega)
                have c13 : cmtL.length = 13 := rfl
                have HC65 := Lib.hid (show (bs (flatL Ls)).size + (⟨#[32, 35, 32, 97, 32, 99, 111, 109, 109, 101, 110, 116, 92, 10]⟩ : ByteArray).size ≤ 4611686018427387904 from by rw [bs_size]; have := bl.out; show _ + 14 ≤ _; omega)
                have HB65 := Lib.hid (show bs (flatL Ls) ++ (⟨#[32, 35, 32, 97, 32, 99, 111, 109, 109, 101, 110, 116, 92, 10]⟩ : ByteArray) = bs (flatL Ls ++ (cmtL ++ [10])) from bs_app _ _)
                have HC70 := Lib.hid (show (bs (flatL Ls)).size + S.size ≤ 4611686018427387904 from by rw [bs_size, HSZ.out]; have := bl.out; omega)
                have HB70 := Lib.hid (show bs (flatL Ls) ++ S = bs (flatL Ls ++ t) from by rw [HSB.out, bs_app])
                have HC75 := Lib.hid (show (bs (flatL Ls ++ (cmtL ++ [10]))).size + S.size ≤ 4611686018427387904 from by rw [bs_size, HSZ.out, List.length_append, List.length_append, c13]; have := bl.out; simp; omega)
                have HB75 := Lib.hid (show bs (flatL Ls ++ (cmtL ++ [10])) ++ S = bs (flatL Ls ++ (cmtL ++ 10 :: t)) from by rw [HSB.out, bs_app]; simp)
                have HC71 := Lib.hid (show (bs (flatL Ls ++ t)).size + (⟨#[10]⟩ : ByteArray).size ≤ 4611686018427387904 from by rw [bs_size, List.length_append]; have := bl.out; show _ + 1 ≤ _; omega)
                have HB71 := Lib.hid (show bs (flatL Ls ++ t) ++ (⟨#[10]⟩ : ByteArray) = bs (flatL Ls ++ (t ++ [10])) from (bs_app (flatL Ls ++ t) [10]).trans (by rw [List.append_assoc]))
                have HC76 := Lib.hid (show (bs (flatL Ls ++ (cmtL ++ 10 :: t))).size + (⟨#[10]⟩ : ByteArray).size ≤ 4611686018427387904 from by rw [bs_size, List.length_append, List.length_append, List.length_cons, c13]; have := bl.out; show _ + 1 ≤ _; omega)
                have HB76 := Lib.hid (show bs (flatL Ls ++ (cmtL ++ 10 :: t)) ++ (⟨#[10]⟩ : ByteArray) = bs (flatL Ls ++ (cmtL ++ 10 :: (t ++ [10]))) from (bs_app (flatL Ls ++ (cmtL ++ 10 :: t)) [10]).trans (by simp))
                have HN1 := Lib.hid (show (Ls.length : Int) + 1 = ((Ls.length + 1 : Nat) : Int) from by omega)
                have HN2 := Lib.hid (show (Ls.length : Int) + 1 + 1 = ((Ls.length + 1 + 1 : Nat) : Int) from by omega)
                have HL1 := Lib.hid (show ((Ls ++ [t]).length : Int) = (Ls.length : Int) + 1 from by rw [List.length_append]; rfl)
                have HL2 := Lib.hid (show ((Ls ++ [cmtL] ++ [t]).length : Int) = (Ls.length : Int) + 1 + 1 from by rw [List.length_append, List.length_append]; simp)
                have HF1 := Lib.hid (show flatL (Ls ++ [t]) = flatL Ls ++ (t ++ [10]) from by rw [flatL_app, flatL_one])
                have HF2 := Lib.hid (show flatL (Ls ++ [cmtL] ++ [t]) = flatL Ls ++ (cmtL ++ 10 :: (t ++ [10])) from by rw [flatL_app, flatL_app, flatL_one, flatL_one]; simp)
                have HP2 := Lib.hid (show (Ls ++ [cmtL]).length + 1 = Ls.length + 1 + 1 from by rw [List.length_append]; rfl)
                clear c13
                by_cases htr : trimL t = []
                · rw [htr] at HTR
                  have hbe : bs [] = ⟨#[]⟩ := rfl
                  rw [hbe] at HTR
                  have HWN := Lib.hid (pln_none (Ls := Ls) HPL.out.com htr)
                  have HWC := Lib.hid ((pln_none (Ls := Ls ++ [cmtL]) HPL.out.com htr).trans (pln_com cmt_com))
                  clear htr hbe
                  go_wp2_with (first
                    | ((with_reducible show wpList _ _ _ (⟨some 65, _, _, _, _, _⟩ :: _) _ _)
                       refine wpList_cat12 (X := bs (flatL Ls)) (z := flatL Ls ++ (cmtL ++ [10])) rfl rfl rfl rfl HC65.out HB65.out ?_)
                    | ((with_reducible show wpList _ _ _ (⟨some 70, _, _, _, _, _⟩ :: _) _ _)
                       first
                         | (refine wpList_cat12 (X := bs (flatL Ls)) (z := flatL Ls ++ t) rfl rfl rfl rfl HC70.out HB70.out ?_)
                         | (refine wpList_cat12 (X := bs (flatL Ls ++ (cmtL ++ [10]))) (z := flatL Ls ++ (cmtL ++ 10 :: t)) rfl rfl rfl rfl HC75.out HB75.out ?_))
                    | ((with_reducible show wpList _ _ _ (⟨some 71, _, _, _, _, _⟩ :: _) _ _)
                       first
                         | (refine wpList_cat12 (X := bs (flatL Ls ++ t)) (z := flatL Ls ++ (t ++ [10])) rfl rfl rfl rfl HC71.out HB71.out ?_)
                         | (refine wpList_cat12 (X := bs (flatL Ls ++ (cmtL ++ 10 :: t))) (z := flatL Ls ++ (cmtL ++ 10 :: (t ++ [10]))) rfl rfl rfl rfl HC76.out HB76.out ?_))
                    | (go_at_call 13; ((with_reducible refine (HTR.out _ GY.out).mono ?_); rintro e vx ⟨rfl, bx⟩); have BX := Lib.hid (thn BY.out bx); have bX := Lib.hid bx; have P2 := Lib.hid (own_on12 P1.out bx)))
                  · go_roundw
                    case rel => exact ⟨k + 1, Ls ++ [cmtL] ++ [t], by omega, by go_num, by rw [HL2.out], by rw [HF2.out], Lib.hid (HOK.out.cmt HPL.out), Lib.hid (by rw [HWC.out]; exact P2.out), Lib.hid (thn PB.out (thn bY.out bX.out))⟩
                    case measure => simp [intOf]; omega
                  · go_roundw
                    case rel => exact ⟨k + 1, Ls ++ [t], by omega, by go_num, by rw [HL1.out], by rw [HF1.out], Lib.hid (HOK.out.more HPL.out), Lib.hid (by rw [HWN.out]; exact P2.out), Lib.hid (thn PB.out (thn bY.out bX.out))⟩
                    case measure => simp [intOf]; omega
                · have e1 : (bs (trimL t)).toList ≠ [] := by rw [bs_toList]; exact htr
                  have e2 : (bs (trimL t)).toList.isEmpty = false := by rw [bs_toList]; cases h : trimL t with | nil => exact absurd h htr | cons a b => rfl
                  have e3 : ((bs (trimL t)).toList != []) = true := by rw [bne_iff_ne]; exact e1
                  have HWN := Lib.hid (pln_some (Ls := Ls) HPL.out.com htr)
                  have HWC := Lib.hid ((pln_some (Ls := Ls ++ [cmtL]) HPL.out.com htr).trans (by rw [pln_com cmt_com]))
                  obtain ⟨tr, htq⟩ : ∃ x, x = trimL t := ⟨_, rfl⟩
                  rw [← htq] at HTR HWN HWC e1 e2 e3
                  clear htr htq
                  go_wp2_with (first
                    | ((with_reducible show wpList _ _ _ (⟨some 65, _, _, _, _, _⟩ :: _) _ _)
                       refine wpList_cat12 (X := bs (flatL Ls)) (z := flatL Ls ++ (cmtL ++ [10])) rfl rfl rfl rfl HC65.out HB65.out ?_)
                    | ((with_reducible show wpList _ _ _ (⟨some 70, _, _, _, _, _⟩ :: _) _ _)
                       first
                         | (refine wpList_cat12 (X := bs (flatL Ls)) (z := flatL Ls ++ t) rfl rfl rfl rfl HC70.out HB70.out ?_)
                         | (refine wpList_cat12 (X := bs (flatL Ls ++ (cmtL ++ [10]))) (z := flatL Ls ++ (cmtL ++ 10 :: t)) rfl rfl rfl rfl HC75.out HB75.out ?_))
                    | ((with_reducible show wpList _ _ _ (⟨some 71, _, _, _, _, _⟩ :: _) _ _)
                       first
                         | (refine wpList_cat12 (X := bs (flatL Ls ++ t)) (z := flatL Ls ++ (t ++ [10])) rfl rfl rfl rfl HC71.out HB71.out ?_)
                         | (refine wpList_cat12 (X := bs (flatL Ls ++ (cmtL ++ 10 :: t))) (z := flatL Ls ++ (cmtL ++ 10 :: (t ++ [10]))) rfl rfl rfl rfl HC76.out HB76.out ?_))
                    | (go_at_call 13; ((with_reducible refine (HTR.out _ GY.out).mono ?_); rintro e vx ⟨rfl, bx⟩); have GX := HON.out _ _ GY.out bx; have hX := bx)
                    | (go_at_call 13; ((with_reducible refine (HTR.out _ GX).mono ?_); rintro e vw ⟨rfl, bw⟩); have hW := thn hX bw)
                    | (go_at_call 17; ((with_reducible refine (of_c _ _ _).mono ?_); rintro e vv ⟨rfl, bv⟩); have BX := Lib.hid (thn BY.out (thn hW bv)); have bX := Lib.hid (thn hW bv); have P2 := Lib.hid (own_on12 P1.out (thn hW bv)); have bXX := (thn PB.out (thn bY.out bX.out)))
                    | (at_builtin
                       first
                         | (refine wpList_append_own _ rfl (.tmp 77) (.tmp 82) 24 rfl w.heap.size 35 i1 _ 2 24 Tryd.underlying24 KI.out KZ0.out KZ1.out KZ2.out rfl (by omega) _ (plnW 0 Ls).length _ rfl (P2.out.alloc _) ⟨vv.heap.size, 0, none⟩ 1 1 (lnC [(Ls.length + 1, tr)]) rfl rfl (news_w vv (Ls.length + 1) ((Ls.length : Int) + 1) HN1.out tr _) (lnC_one _) (by have := HNL.out; unfold maxLen; omega) (by have := HNL.out; omega) (by have := bXX.size; simp; omega) ?_)
                         | (refine wpList_append_own _ rfl (.tmp 77) (.tmp 82) 24 rfl w.heap.size 35 i1 _ 2 24 Tryd.underlying24 KI.out KZ0.out KZ1.out KZ2.out rfl (by omega) _ (plnW 0 Ls).length _ rfl (P2.out.alloc _) ⟨vv.heap.size, 0, none⟩ 1 1 (lnC [(Ls.length + 1 + 1, tr)]) rfl rfl (news_w vv (Ls.length + 1 + 1) ((Ls.length : Int) + 1 + 1) HN2.out tr _) (lnC_one _) (by have := HNL.out; unfold maxLen; omega) (by have := HNL.out; omega) (by have := bXX.size; simp; omega) ?_)
                       intro vA wA oA hA _
                       rw [← lnC_app] at oA
                       have OA := Lib.hid oA
                       have BA := Lib.hid ((bXX.alloc bXX.size _).grown hA (by have := bXX.size; simp; omega) (fun g hg => (P2.out.lt g hg).1))
                       clear oA hA))
                  · go_roundw
                    case rel => exact ⟨k + 1, Ls ++ [cmtL] ++ [t], by omega, by go_num, by rw [HL2.out], by rw [HF2.out], Lib.hid (HOK.out.cmt HPL.out), Lib.hid (by rw [HWC.out, HP2.out, List.length_append]; exact OA.out), BA⟩
                    case measure => simp [intOf]; omega
                  · go_roundw
                    case rel => exact ⟨k + 1, Ls ++ [t], by omega, by go_num, by rw [HL1.out], by rw [HF1.out], Lib.hid (HOK.out.more HPL.out), Lib.hid (by rw [HWN.out, List.length_append]; exact OA.out), BA⟩
                    case measure => simp [intOf]; omega
    · obtain rfl : len0 = k := by omega
      have kk : ¬ (len0 : Int) < len0 := by omega
      have bl : (flatL Ls).length ≤ 7320 := by have := HOK.out.flat; omega
      have hm := HOK.out.many
      obtain ⟨sp1, sp2, sp3⟩ := spl_plain HOK.out.ten HOK.out.pln (by omega) (by omega)
      have HIS := Lib.hid (fun (v : Value) (W : World) (g : G W) (h : LnsAt W v (plnW 0 Ls)) => is_yes HC.out (flatL Ls) (by omega) v (plnW 0 Ls) sp2 sp3 W g h)
      have HCT := Lib.hid (fun (W : World) (p : Option Addr) (c : Nat) (g : G W) (h2 : (flatL Ls).length ≤ c) (h3 : c ≤ maxLen) (h4 : p = none → c = 0) (h5 : RdB W W.heap.size p (flatL Ls)) => HC.out.count p (flatL Ls).length c (flatL Ls) W g rfl (by omega) h2 h3 h4 h5)
      rw [sp1] at HCT
      have LW := Lib.hid (lns_own PO.out)
      have GV := HON.out _ _ HG.out PB.out
      have t1 : ((Ls.length : Int) == (Ls.length : Int)) = true := by simp
      clear sp1 sp2 sp3 PO HC
      go_wp2_with (first
        | (go_at_call 18; ((with_reducible refine (HIS.out _ _ GV LW.out).mono ?_); rintro e v9 ⟨rfl, b9⟩); have G9 := HON.out _ _ GV b9; have B9 := thn PB.out b9)
        | ((with_reducible show wpList _ _ _ (⟨some 89, _, _, _, _, _⟩ :: _) _ _)
           refine wpList_bytes12g (l := flatL Ls) (by first | rfl | simp [Region.wanted, yielded]) rfl rfl (by unfold maxLen; omega) ?_
           intro W1 c1 b1 r1 h1 h2
           have B1 := thn B9 b1
           have R1 := Lib.hid r1
           have G1 := HON.out _ _ G9 b1
           clear r1)
        | (go_at_call 10; ((with_reducible refine (HCT.out _ _ _ G1 h1 h2 (fun h => by cases h) R1.out).mono ?_); rintro e v10 ⟨rfl, b10⟩); have G10 := HON.out _ _ G1 b10; have B10 := thn B1 b10)
        | (go_at_call 12; ((with_reducible refine (HAW.out _ G10).mono ?_); rintro e v11 ⟨rfl, b11⟩)))
      go_ret
      exact ⟨by first | rfl | simp, thn B10 b11⟩

set_option maxRecDepth 100000 in
theorem lifted (HC : LinesC G12) (os : Os) (started : os.Started) (H : Type) (enc : TypeId × Value → H) :
    ReturnsInHanded {} Tryd.checked os 6 .any (fun w args => (Rows.linesPlainSpec.pre enc Tryd.prog Tryd.f6 [] false w args ∧ laidMetH Tryd.prog listed12 w) ∧ sizedMet enc Tryd.prog Tryd.f6 (OpenSpec.ofChange Rows.linesPlainSpec) false w args)
      (Rows.linesPlainSpec.post enc Tryd.prog Tryd.f6 false true false false) := by
  refine returnsInHanded_of_change_and (C := Tryd.checked) (X := fun w _ => laidMetH Tryd.prog listed12 w) (fun _ _ _ hh h => h.of_heap hh) ownKnob_none started (by kernel_rfl) Tryd.func6
    (ChangeSpec.witness_shaped (enc := enc) (C := Tryd.checked) (os := os) (X := fun w _ => laidMetH Tryd.prog listed12 w) false (World.laidAll Tryd.prog os listed12) #[.slice none 0 0, .int .u64 0] 8 (World.laidAll_os _ _ _) (World.shaped_of_ZipB (by kernel_rfl) (by kernel_rfl)) (by kernel_rfl) (by kernel_rfl) (by kernel_rfl) (by rw [MakeChecks.laidMetH_plain _ _ _ (by kernel_rfl)]; exact laidMet_laidAll _ (by kernel_rfl) (by kernel_rfl))) ?_
  intro W base args ds gs before hval0 hW _ _ hL _
  have hG : G12 W := of_laid12 hL
  have hval : ∀ (j : Nat) t v, Tryd.f6.params[j]? = some t → args[j]? = some v → Value.okWide Tryd.prog W .any base t v := hval0
  have hW' := hW
  obtain ⟨p, q, hA0, hV, rfl, hfz, hnd⟩ := hW
  have hA : DataW.TrodAll enc Tryd.prog W 0 (fun _ => true) true Tryd.f6.params.toList args.toList ds p := hA0
  rw [Tryd.params6] at hA hval
  obtain ⟨v0, vs0, d0, ds0, p0, q0, hargs, rfl, rfl, h0, r0⟩ := trodAll_cons hA
  obtain ⟨v1, vs1, d1, ds1, p1, q1, rfl, rfl, rfl, h1, r1⟩ := trodAll_cons r0
  obtain ⟨rfl, rfl, rfl⟩ := trodAll_nil r1
  obtain rfl : args = #[v0, v1] := by cases args; simp_all
  obtain ⟨rfl, rfl⟩ := trodVars_none hV
  obtain ⟨a0, len0, cap0, rfl⟩ := okWide_slice Tryd.underlying32 (hval 0 32 v0 rfl rfl)
  have k0 := h0
  have lt0 : ∀ x ∈ p0, x.block < W.heap.size := by obtain ⟨m, hm⟩ := k0; exact DataW.trod_lt m _ _ _ hm
  obtain ⟨z0, w0⟩ := strs_open h0 lt0
  obtain ⟨a1, rfl, rfl, rfl, w1⟩ := open_int Tryd.underlying23 (hval 1 23 v1 rfl rfl) h1
  clear hA0 hval0
  refine (walk HC a0 len0 cap0 z0 a1 W hG w0 w1).mono fun e W' ⟨he, bel⟩ => ?_
  subst he
  exact ⟨_, rfl, _, _, _, [], _, [], hW', trodAll_mk1 (shut_bool Tryd.underlying4 _), (trodAll_cons_mk (Below.trod laidOut (by kernel_rfl) (of_decide_eq_true (by kernel_rfl)) k0 bel lt0) (trodAll_cons_mk (shut_int Tryd.underlying23 w1) trodAll_mk0)), rfl, bel.frame _, fun h => by cases h⟩

theorem over (HC : LinesC G12) : Rows.linesPlainRow.holds Tryd.pinned (OpenSpec.ofChange Rows.linesPlainSpec) :=
  OpenClaim.holds_of_wide 6 Tryd.f6 rfl rfl rfl rfl rfl rfl rfl ⟨rfl, rfl, rfl, rfl, rfl⟩ rfl rfl rfl rfl rfl (by kernel_rfl) Tryd.func6 (by kernel_rfl)
    (of_decide_eq_true (by kernel_rfl)) (by unfold Func.isWrapper; first | (rw [if_pos (by decide +kernel)]; kernel_rfl) | (rw [if_neg (by decide +kernel)]; exact ⟨rfl, rfl⟩))
    (fun os started H enc _ => lifted HC os started H enc)

/-- The row's statement. -/
theorem row_holds : Rows.LinesPlainSaid := over linesC
/-- The statement: the row, its table tied to the program's text. -/
theorem proved : Rows.LinesPlainCardSaid :=
  Claim7.holds_tied_plain_at .later [] [.data, .pinned] true Rows.linesPlainCard.stood.harness Rows.linesPlainCard.stood.looks
    row_holds (fun _ h => by cases h) (by kernel_rfl) (fun _ h => by cases h) linesPlain_row_tie rfl ⟨rfl, rfl⟩ (by kernel_rfl) rfl
    (fun f fn hf hfn => by
      obtain rfl : f = 6 := Option.some.inj ((show Tryd.prog.funcNamed "vestibule/vestibulelaw12.LinesPlain" = some 6 by kernel_rfl).symm.trans hf) |>.symm
      obtain rfl : fn = Tryd.f6 := (Option.some.inj (Tryd.func6.symm.trans hfn)).symm
      exact ⟨by kernel_rfl, fun j t ht => by
        have hm : t ∈ Tryd.f6.params.toList := by simpa using Array.mem_of_getElem? ht
        have hall : (Tryd.f6.params.toList.all fun u => !Tryd.prog.wantsStandIn u) = true := by kernel_rfl
        exact (show Tryd.prog.wantsStandIn t = false by simpa using List.all_eq_true.1 hall t hm)⟩)
    (by kernel_rfl)
#print axioms proved
end Go.Proofs.YtagmlphhmjdaiaaDoor.linesPlain
