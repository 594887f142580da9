/- The statement DropinMerges holds, over what the calls have to return: what files come to. -/
import Derived.Test.YtgigdhincpcdbaaGreatDoorPi
import Derived.Deep.DeepCutAuto
namespace Go.Proofs.YtgigdhincpcdbaaGreatDoor
open Go.RowKit
/-- What the chapter's rows come to when they are asked. -/
abbrev AwakeC14 (G : World → Prop) : Prop := ∀ (W : World), G W → Calls Tryz.prog 15 #[] W fun e w' => e = .returned (.bool true) ∧ Below W.heap.size W w'
end Go.Proofs.YtgigdhincpcdbaaGreatDoor
namespace Go.Proofs.YtgigdhincpcdbaaGreatDoor.dropinMerges
open Go.RowKit
set_option linter.unusedVariables false
set_option linter.unusedSimpArgs false
attribute [local go_sem ↓] Go.wp_at_zero Go.wp_at_succ
set_option maxRecDepth 100000 in
set_option maxHeartbeats 16000000 in
theorem walk {G : World → Prop} (HC : DropinC G) (HAW : AwakeC14 G) (m : Fle) (D : List Fle) (a : Option Addr) (n cap : Nat) (w : World) (hG : G w) (hm : FleAt w.heap.size w m) (h : FsAt w a n cap D) :
    Calls Tryz.prog 4 #[.agg #[.string m.name, .int .i64 m.dir, .slice m.ptr m.len m.cap], .slice a n cap] w fun e w' => e = .returned (.bool true) ∧ Below w.heap.size w w' := by
  have HON := Lib.hid (fun (w w' : World) => HC.on (w := w) (w' := w'))
  have HG := Lib.hid hG
  have HGT := Lib.hid (fun (W : World) (b : Below w.heap.size w W) => great14 m D a n cap W (h.on b))
  have HH := Lib.hid h
  have HM := Lib.hid hm
  have HCO := Lib.hid (fun (W : World) (b : Below w.heap.size w W) (s : SmallAll n m D) => copied_c D a n cap W (h.on b) (by have := s.1; omega) (fun f hf => by have := (s.2 f (List.mem_cons_of_mem _ hf)).1; omega))
  have HRM := Lib.hid (fun (W : World) (b : Below w.heap.size w W) (s : SmallAll n m D) => refMerge m D a n cap W (hm.on b) (h.on b) (fun f hf => by have := (s.2 f hf).1; omega))
  have HW := Lib.hid HAW
  have HME := Lib.hid (fun (L : List Fle) (a : Option Addr) (n cap : Nat) (W : World) (g : G W) (f1 : FleAt W.heap.size W m) (f2 : FsAt W a n cap L) (hb : ∀ f ∈ m :: L, f.len ≤ 1000000 ∧ f.name.size ≤ 1000000) (hn : n ≤ 1000) => HC.merge m L a n cap W g f1 f2 hb hn)
  have HLA := Lib.hid (Nat.le_trans (mrgA_len m D) (show 17000 ≤ 1000000 by decide))
  have HLA2 := Lib.hid (Nat.le_trans (mrgN_len m D) (show 17000 ≤ 1000000 by decide))
  have B0 := Lib.hid ((Below.refl w.heap.size w).alloc (Nat.le_refl _) (.cells #[.string m.name, .int .i64 m.dir, .slice m.ptr m.len m.cap] 24))
  have HBX := Lib.hid (heap_alloc_new w (.cells #[.string m.name, .int .i64 m.dir, .slice m.ptr m.len m.cap] 24))
  have HDN := Lib.hid h.len
  clear HC HAW hG hm h
  go_enter Tryz.func4, Tryz.ntmps4
  go_upto_if 12 with (first
    | (go_at_call 8
       with_reducible refine (HGT.out _ B0.out).mono ?_
       rintro e W1 ⟨b, rfl, hs, b1⟩
       have HS := Lib.hid hs
       have B1 := Lib.hid (B0.out.trans (b1.mono B0.out.size))
       have HB1 := Lib.hid b1
       have xb := (b1.block w.heap.size (by rw [World.size_alloc]; exact Nat.lt_succ_self _)).trans HBX.out
       have x0 := (cell_of_row W1 w.heap.size 0 _ _ (0, 0) xb).trans (show _ = some (Value.string m.name) from rfl)
       have x1 := (cell_of_row W1 w.heap.size 1 _ _ (0, 0) xb).trans (show _ = some (Value.int .i64 m.dir) from rfl)
       have x2 := (cell_of_row W1 w.heap.size 2 _ _ (0, 0) xb).trans (show _ = some (Value.slice m.ptr m.len m.cap) from rfl)
       clear b1 hs xb))
  cases b with
  | true =>
    go_wp2_with fail
    go_ret
    exact ⟨rfl, B1.out⟩
  | false =>
    have HSM := Lib.hid (HS.out rfl)
    clear HS
    go_wp2_with (first
      | (go_at_call 9
         with_reducible refine (HCO.out _ B1.out HSM.out).mono ?_
         rintro e W2 ⟨v2, L, rfl, nf, hl, b2⟩
         obtain ⟨q2, c2, rfl, fs2⟩ := nf.fs
         have HL := Lib.hid hl
         have FS2 := Lib.hid fs2
         have B2 := Lib.hid (B1.out.trans (b2.mono B1.out.size))
         have HB2 := Lib.hid (HB1.out.trans (b2.mono HB1.out.size))
         have HLN := Lib.hid (show L.length = n from (fil_len hl).trans HDN.out)
         have HLK := Lib.hid (show L.length ≤ 1000 ∧ L.length ≤ 1000000 from by have := HLN.out; have := HSM.out.1; exact ⟨by omega, by omega⟩)
         have HSB := Lib.hid (show ∀ f ∈ m :: L, f.len ≤ 1000000 ∧ f.name.size ≤ 1000000 from (by
           intro f hf
           rcases List.mem_cons.1 hf with e | e
           · rw [e]; have := HSM.out.2 m List.mem_cons_self; exact ⟨by have := this.1; omega, by have := this.2; omega⟩
           · obtain ⟨k, hk, e2⟩ := List.mem_iff_getElem.1 e
             have hg := fil_getD hl k
             have hkD : k < D.length := by rw [← fil_len hl]; exact hk
             have hD := HSM.out.2 _ (List.mem_cons_of_mem _ (getD_memF hkD))
             rw [List.getD_eq_getElem?_getD, List.getElem?_eq_getElem hk, Option.getD_some, e2] at hg
             obtain ⟨g1, _, g3⟩ := fil_parts hg
             have l1 := (fs2.each f e).len
             have l2 := (HH.out.each _ (getD_memF hkD)).len
             refine ⟨?_, by rw [g1]; have := hD.2; omega⟩
             rw [← l1, g3, l2]; have := hD.1; omega))
         have xb := (HB2.out.block w.heap.size (by rw [World.size_alloc]; exact Nat.lt_succ_self _)).trans HBX.out
         have x0 := (cell_of_row W2 w.heap.size 0 _ _ (0, 0) xb).trans (show _ = some (Value.string m.name) from rfl)
         have x1 := (cell_of_row W2 w.heap.size 1 _ _ (0, 0) xb).trans (show _ = some (Value.int .i64 m.dir) from rfl)
         have x2 := (cell_of_row W2 w.heap.size 2 _ _ (0, 0) xb).trans (show _ = some (Value.slice m.ptr m.len m.cap) from rfl)
         clear b2 nf fs2 hl xb)
      | (go_at_call 16
         go_loud (with_reducible refine (HME.out L q2 L.length c2 _ (HON.out _ _ HG.out B2.out) (HM.out.on B2.out) FS2.out HSB.out HLK.out.1).mono ?_)
         rintro e W3 ⟨va, vn, rfl, ra, rn, b3⟩
         rw [mrgA_fil HL.out] at ra
         rw [mrgN_fil HL.out] at rn
         have RA := Lib.hid ra
         have RN := Lib.hid rn
         have FR3 := Lib.hid (FS2.out.fr.on b3)
         have B3 := Lib.hid (B2.out.trans (b3.mono B2.out.size))
         have HB3 := Lib.hid (HB2.out.trans (b3.mono HB2.out.size))
         have xb := (HB3.out.block w.heap.size (by rw [World.size_alloc]; exact Nat.lt_succ_self _)).trans HBX.out
         have x0 := (cell_of_row W3 w.heap.size 0 _ _ (0, 0) xb).trans (show _ = some (Value.string m.name) from rfl)
         have x1 := (cell_of_row W3 w.heap.size 1 _ _ (0, 0) xb).trans (show _ = some (Value.int .i64 m.dir) from rfl)
         have x2 := (cell_of_row W3 w.heap.size 2 _ _ (0, 0) xb).trans (show _ = some (Value.slice m.ptr m.len m.cap) from rfl)
         clear b3 ra rn xb)
      | (go_at_call 17
         with_reducible refine (HRM.out _ B3.out HSM.out).mono ?_
         rintro e W4 ⟨ua, un, rfl, ra, rn, b4⟩
         have UA := Lib.hid ra
         have UN := Lib.hid rn
         have RA4 := Lib.hid (RA.out.on b4)
         have RN4 := Lib.hid (RN.out.on b4)
         have FR4 := Lib.hid (FR3.out.on b4)
         have B4 := Lib.hid (B3.out.trans (b4.mono B3.out.size))
         clear b4 ra rn)
      | (go_at_call 18
         with_reducible refine (sameA14 _ _ _ _ RA4.out UA.out HLA.out).mono ?_
         rintro e W5 ⟨rfl, b5⟩
         have RN5 := Lib.hid (RN4.out.on b5)
         have UN5 := Lib.hid (UN.out.on b5)
         have FR5 := Lib.hid (FR4.out.on b5)
         have B5 := Lib.hid (B4.out.trans (b5.mono B4.out.size))
         clear b5)
      | (go_at_call 19
         with_reducible refine (sameN_yes _ _ _ _ RN5.out UN5.out HLA2.out).mono ?_
         rintro e W6 ⟨rfl, b6⟩
         have FR6 := Lib.hid (FR5.out.on b6)
         have B6 := Lib.hid (B5.out.trans (b6.mono B5.out.size))
         clear b6)
      | (go_at_call 12
         with_reducible refine (sameF _ _ _ _ _ FR6.out (HH.out.on B6.out).fr HLK.out.2 HL.out).mono ?_
         rintro e W7 ⟨rfl, b7⟩
         have B7 := Lib.hid (B6.out.trans (b7.mono B6.out.size))
         clear b7)
      | (go_at_call 15
         with_reducible refine (HW.out _ (HON.out _ _ HG.out B7.out)).mono ?_
         rintro e W8 ⟨rfl, b8⟩
         have B8 := Lib.hid (B7.out.trans (b8.mono B7.out.size))
         clear b8))
    go_ret
    exact ⟨rfl, B8.out⟩
end Go.Proofs.YtgigdhincpcdbaaGreatDoor.dropinMerges
