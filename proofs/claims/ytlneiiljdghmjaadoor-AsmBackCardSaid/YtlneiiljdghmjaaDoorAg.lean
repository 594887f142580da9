/- What the document's own Text returns: the text of a program. Condition: a program of at most 4096 instructions. -/
import Derived.Test.YtlneiiljdghmjaaDoorAe
import Derived.Test.YtlneiiljdghmjaaDoorAf
namespace Go.Proofs.YtlneiiljdghmjaaDoor
open Go.RowKit
set_option linter.unusedVariables false
attribute [local go_sem ↓] Go.wp_at_zero Go.wp_at_succ

theorem line_le {i : Ins} (hi : i.Ok) {at_ : Int} (h : at_ ≤ 1099511627776) : (lineI i at_).length ≤ 100 := by
  obtain ⟨c, jt, jf, k⟩ := i
  obtain ⟨c0, c1, t0, t1, f0, f1, k0, k1⟩ := hi
  simp only at t1 f1 k1
  have hn := name_size c
  have hn' : (nameA c).length = (ofL allL c).name.size := rfl
  have d1 := digL_len (n := k.toNat) (by omega)
  have d2 := digL_len (n := (at_ + 1 + k).toNat) (by omega)
  have d3 := digL_len (n := (at_ + 1 + jt).toNat) (by omega)
  have d4 := digL_len (n := (at_ + 1 + jf).toNat) (by omega)
  unfold lineI opsI
  simp only
  split
  · simp
  · rw [List.length_append, List.length_append, List.length_append]
    have e1 : (if shapeI c = 1 ∨ shapeI c = 3 then 32 :: digL k.toNat else []).length ≤ 20 := by
      split
      · simp; omega
      · simp
    have e2 : (if shapeI c = 2 then 32 :: 76 :: digL (at_ + 1 + k).toNat else []).length ≤ 21 := by
      split
      · simp; omega
      · simp
    have e3 : (if 2 < shapeI c then 32 :: 76 :: digL (at_ + 1 + jt).toNat ++ (32 :: 76 :: digL (at_ + 1 + jf).toNat) else []).length ≤ 42 := by
      split
      · simp; omega
      · simp
    omega
theorem piece_at {p : List Ins} {k : Nat} {x : Ins} (hx : p[k]? = some x) : pieceL p k = (if ledB p k = true then labelL k ++ [10] else []) ++ (lineI x k ++ [10]) := by
  unfold pieceL; rw [hx]
theorem piece_le {p : List Ins} (hp : OkL p) {k : Nat} (hk : k ≤ 4096) : (pieceL p k).length ≤ 130 := by
  unfold pieceL labelL
  have d1 := digL_len (n := k) (by omega)
  rw [List.length_append]
  have e1 : (if ledB p k = true then 76 :: digL k ++ [58] ++ [10] else []).length ≤ 22 := by
    split
    · simp; omega
    · simp
  cases hx : p[k]? with
  | none => simp only [List.length_nil]; omega
  | some x =>
    have := line_le (hp x (List.mem_of_getElem? hx)) (at_ := k) (by omega)
    simp only [List.length_append, List.length_cons, List.length_nil] at e1 ⊢; omega
theorem text_le {p : List Ins} (hp : OkL p) : ∀ {k : Nat}, k ≤ 4096 → (textTo p k).length ≤ 130 * k
  | 0, _ => by unfold textTo; simp
  | k + 1, h => by
    unfold textTo
    rw [List.length_append]
    have := text_le hp (k := k) (by omega)
    have := piece_le hp (k := k) (by omega)
    omega
set_option maxRecDepth 100000 in
set_option maxHeartbeats 8000000 in
theorem refText (a0 : Option Addr) (n cap : Nat) (p : List Ins) (w : World) (hl : p.length = n) (hn : n ≤ 4096) (hok : OkL p) (hR : RdI w w.heap.size a0 p) : Calls Tryd.prog 14 #[.slice a0 n cap] w fun e w' => e = .returned (.string (bs (textL p))) ∧ Below w.heap.size w w' := by
  have n5 : (n : Int) ≤ 4096 := by omega
  have HL := Lib.hid hl
  have HP := Lib.hid hok
  have HR := Lib.hid hR
  have HTL := Lib.hid (fun (k : Nat) (h : k ≤ 4096) => text_le hok h)
  clear hl hok hR hn
  go_enter Tryd.func14, Tryd.ntmps14
  go_wp2_with fail
  go_loopw [3, 4] (fun v3 v4 wr => ∃ k : Nat, k ≤ n ∧ v4 = .int .i64 k ∧ v3 = .string (bs (textTo p k)) ∧ Hid (Below w.heap.size w wr)) (fun _ v4 _ => n - (intOf v4).toNat)
  case atStart => exact ⟨0, Nat.zero_le _, rfl, rfl, Lib.hid (Below.refl _ _)⟩
  case round =>
    obtain ⟨k, hk, rfl, rfl, PB⟩ := hrel
    obtain ⟨W, rfl⟩ : ∃ wo : World, wo = wr := ⟨_, rfl⟩
    by_cases hlt : k < n
    · have hkl : k < p.length := by rw [HL.out]; exact hlt
      have i1 : (k : Int) < n := by omega
      have i2 : (0 : Int) ≤ k := by omega
      have HLD := Lib.hid (fun (V : World) (h : Below w.heap.size w V) => refLed a0 n cap p k V HL.out (by omega) (by omega) HP.out (HR.out.on h))
      obtain ⟨b, o, rfl, hbB, hcs⟩ := HR.out (by omega)
      have hat := hcs k hkl
      obtain ⟨x, hx⟩ : ∃ x, x = p[k] := ⟨_, rfl⟩
      have HX := Lib.hid (show textTo p (k + 1) = textTo p k ++ pieceL p k from rfl)
      rw [piece_at (x := x) (show p[k]? = some x from by rw [hx]; exact List.getElem?_eq_getElem hkl)] at HX
      have hxo := HP.out.get hkl
      rw [← hx] at hat hxo
      obtain ⟨q0, q1, q2, q3⟩ := hat.keep (w' := W) fun q hq => PB.out.cell (by omega)
      have HLN := Lib.hid (fun V => refLine x hxo k (by omega) V)
      have HDG := Lib.hid (fun V => refDigits k (by omega) V)
      have l1 := line_le hxo (at_ := k) (by omega)
      have l2 := HTL.out k (by omega)
      have l3 := digL_len (n := k) (by omega)
      unfold labelL at HX
      obtain ⟨t, ht⟩ : ∃ t, t = textTo p k := ⟨_, rfl⟩
      obtain ⟨ln, hln⟩ : ∃ t, t = lineI x k := ⟨_, rfl⟩
      obtain ⟨dg, hdg⟩ : ∃ t, t = digL k := ⟨_, rfl⟩
      obtain ⟨ld, hld⟩ : ∃ t, t = ledB p k := ⟨_, rfl⟩
      rw [← ht] at l2 HX ⊢
      rw [← hln] at l1 HX HLN
      rw [← hdg] at l3 HX HDG
      rw [← hld] at HX HLD
      have l4 : t.length ≤ 1000000 := by omega
      clear hat hx hxo hkl hbB hcs ht hln hdg hld l2
      obtain ⟨c, jt, jf, kk⟩ := x
      simp only at q0 q1 q2 q3
      cases ld with
      | true =>
        have hr := Lib.hid (show textTo p (k + 1) = t ++ [76] ++ dg ++ [58, 10] ++ ln ++ [10] from HX.out.trans (by simp))
        clear HX
        go_wp2_with (first
          | ((with_reducible show wpList _ _ _ (⟨_, .binOp .add 9 _ _ _, _, _, _, _⟩ :: _) _ _)
             refine wpList_cat rfl rfl rfl rfl (by (try simp only [List.length_append, List.length_cons, List.length_nil]); omega) ?_)
          | (go_at_call 28; ((with_reducible refine (HLD.out _ PB.out).mono ?_); rintro e w1 ⟨rfl, b1⟩); have p0 := (b1.cell (World.block_lt_of_cell? _ _ q0)).trans q0; have p1 := (b1.cell (World.block_lt_of_cell? _ _ q1)).trans q1; have p2 := (b1.cell (World.block_lt_of_cell? _ _ q2)).trans q2; have p3 := (b1.cell (World.block_lt_of_cell? _ _ q3)).trans q3)
          | (go_at_call 29; ((with_reducible refine (HDG.out _).mono ?_); rintro e w2 ⟨rfl, b2⟩); have r0 := (b2.cell (World.block_lt_of_cell? _ _ p0)).trans p0; have r1 := (b2.cell (World.block_lt_of_cell? _ _ p1)).trans p1; have r2 := (b2.cell (World.block_lt_of_cell? _ _ p2)).trans p2; have r3 := (b2.cell (World.block_lt_of_cell? _ _ p3)).trans p3)
          | (go_at_call 16; ((with_reducible refine (HLN.out _).mono ?_); rintro e w3 ⟨rfl, b3⟩)))
        go_roundw
        case rel => exact ⟨k + 1, by omega, by go_num, by rw [hr.out]; simp, Lib.hid (thn (thn PB.out b1) (b2.trans (b3.mono b2.size)))⟩
        case measure => simp [intOf]; omega
      | false =>
        have hr := Lib.hid (show textTo p (k + 1) = t ++ ln ++ [10] from HX.out.trans (by simp))
        clear HX HDG
        go_wp2_with (first
          | ((with_reducible show wpList _ _ _ (⟨_, .binOp .add 9 _ _ _, _, _, _, _⟩ :: _) _ _)
             refine wpList_cat rfl rfl rfl rfl (by (try simp only [List.length_append, List.length_cons, List.length_nil]); omega) ?_)
          | (go_at_call 28; ((with_reducible refine (HLD.out _ PB.out).mono ?_); rintro e w1 ⟨rfl, b1⟩); have p0 := (b1.cell (World.block_lt_of_cell? _ _ q0)).trans q0; have p1 := (b1.cell (World.block_lt_of_cell? _ _ q1)).trans q1; have p2 := (b1.cell (World.block_lt_of_cell? _ _ q2)).trans q2; have p3 := (b1.cell (World.block_lt_of_cell? _ _ q3)).trans q3)
          | (go_at_call 16; ((with_reducible refine (HLN.out _).mono ?_); rintro e w3 ⟨rfl, b3⟩)))
        go_roundw
        case rel => exact ⟨k + 1, by omega, by go_num, by rw [hr.out]; simp, Lib.hid (thn (thn PB.out b1) b3)⟩
        case measure => simp [intOf]; omega
    · obtain rfl : k = n := by omega
      have hr := Lib.hid (show textTo p k = textL p from by unfold textL; rw [HL.out])
      go_wp2_with fail
      go_ret
      exact ⟨by rw [← hr.out]; rfl, PB.out⟩
end Go.Proofs.YtlneiiljdghmjaaDoor
