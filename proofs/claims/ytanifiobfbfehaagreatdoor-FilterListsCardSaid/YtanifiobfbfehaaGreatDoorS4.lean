/- The statement FilterLists holds: a row of assignments comes to what the folds of the values of each list's key come to, and what the last error number says. Conditions: the library's table of powers of ten, its two errors, and the names' table of errnos lie in their variables, as the program's text lays them. -/
import Derived.Test.YtanifiobfbfehaaGreatDoorRows
import Derived.Test.YtanifiobfbfehaaGreatDoorCards
import Derived.Test.YtanifiobfbfehaaGreatDoorTie
import Derived.SevenTiedAt
import Derived.Test.YtanifiobfbfehaaGreatDoorWd
import Derived.Test.YtanifiobfbfehaaGreatDoorTz
import Derived.Test.YtanifiobfbfehaaGreatDoorQ7
import Derived.Test.YtanifiobfbfehaaGreatDoorQ8
import Derived.Test.YtanifiobfbfehaaGreatDoorPd
import Derived.Test.YtanifiobfbfehaaGreatDoorQ9
import Derived.Test.YtanifiobfbfehaaGreatDoorPb
import Derived.Test.YtanifiobfbfehaaGreatDoorLr
import Derived.Deep.RegionHeld3
import Derived.Deep.AppendLies
import Derived.BigQuiet
import Derived.Deep.QuietTactic
namespace Go.Proofs.YtanifiobfbfehaaGreatDoor.filterLists
open Go.ChangeShapes Go.WideShapes Go.ChangeAt Go.RowKit
open Go.ChangeMaps (open_string shut_string)
set_option linter.unusedVariables false
set_option linter.unusedSimpArgs false

attribute [local go_sem ↓] Go.wp_at_zero Go.wp_at_succ

theorem key18 {F R : World → Nat → Nat → Nat → Prop} {T : Prop} (h1 : (∀ X g c d, F X g c d → R X g c d) → T) (h2 : ∀ X g c d, F X g c d → R X g c d) : T := h1 h2
theorem badK_le17 (l : List (Nat × ByteArray)) (k : Nat) : badK l k ≤ k := by
  unfold badK
  exact Nat.le_trans (List.length_filter_le _ _) (by rw [List.length_take]; omega)
theorem itm_at {z0 : List ByteArray} {z1 : List Int} {L : List (Nat × ByteArray)} (hL : L = itm z0 z1) {i : Nat} {x : Nat × ByteArray} (h : L[i]? = some x) : ∃ s b, z0[i]? = some s ∧ z1[i]? = some b ∧ x = (b.toNat % 4, s) := by
  subst hL
  unfold itm at h
  rw [List.getElem?_map] at h
  obtain ⟨e, he, rfl⟩ := Option.map_eq_some_iff.1 h
  obtain ⟨h1, h2⟩ := List.getElem?_zip_eq_some.1 he
  exact ⟨e.1, e.2, h1, h2, rfl⟩
set_option maxRecDepth 100000 in
set_option maxHeartbeats 64000000 in
theorem walk {G : World → Prop} (HC : FilterC G) (a0 : Option Addr) (len0 cap0 : Nat) (z0 : List ByteArray) (a1 : Option Addr) (len1 cap1 : Nat) (z1 : List Int) (w : World) (hG : G w) (w0 : IsStrs w a0 len0 cap0 z0) (w1 : IsBytes w a1 len1 cap1 z1) :
    Calls Tryz.prog 6 #[.slice a0 len0 cap0, .slice a1 len1 cap1] w fun e w' => e = .returned (.bool true) ∧ Below w.heap.size w w' := by
  have HON := Lib.hid (fun (w w' : World) => HC.on (w := w) (w' := w'))
  have HG := Lib.hid hG
  have HAW := Lib.hid (fun (W : World) (g : G W) => awake17_any HC W g)
  by_cases hg1 : (20 : Int) < len0
  · clear w0 w1 hG HC
    go_enter Tryz.func6, Tryz.ntmps6
    go_wp2_with (first
      | (go_at_call 14
         ((with_reducible refine (HAW.out _ (HON.out _ _ HG.out (Below.refl _ _))).mono ?_); rintro e v9 ⟨rfl, b9⟩)))
    go_ret
    exact ⟨rfl, b9⟩
  by_cases hg2 : (len1 : Int) < len0
  · clear w0 w1 hG HC
    go_enter Tryz.func6, Tryz.ntmps6
    go_wp2_with (first
      | (go_at_call 14
         ((with_reducible refine (HAW.out _ (HON.out _ _ HG.out (Below.refl _ _))).mono ?_); rintro e v9 ⟨rfl, b9⟩)))
    go_ret
    exact ⟨rfl, b9⟩
  have hl20 : len0 ≤ 20 := by omega
  have hle : len0 ≤ len1 := by omega
  obtain ⟨L, hL⟩ : ∃ L, L = itm z0 z1 := ⟨_, rfl⟩
  have HLL := Lib.hid hL
  have HLT := Lib.hid (show ∀ x ∈ L, x.1 < 4 from hL ▸ itm_lt z0 z1)
  have HZ0 := Lib.hid w0.size
  have HZ1 := Lib.hid w1.size
  have HA0 := Lib.hid w0.rd
  have HA1 := Lib.hid (show 0 < len1 → ∃ b o, a1 = some ⟨b, o, none⟩ ∧ b < w.heap.size ∧ ∀ i, i < z1.length → w.cell? ⟨b, o + i, none⟩ = some (.int .u8 (z1.getD i 0)) from fun h => w1.rd (by rw [w1.size]; exact h))
  have HBY := Lib.hid w1.byt
  obtain ⟨j0, hj0, hy0, hy1, hy2⟩ := info_parts nte_info
  have JI := Lib.hid hj0
  have JZ0 := Lib.hid hy0
  have JZ1 := Lib.hid hy1
  have JZ2 := Lib.hid hy2
  clear hj0 hy0 hy1 hy2
  obtain ⟨t0, ht0, hs0, hs1, hs2⟩ := info_parts (show (Tryz.prog.info? 9).map (fun i => (i.zero, i.size, i.bytes)) = some (some (.string ⟨#[]⟩), 1, 16) by kernel_rfl)
  have TI := Lib.hid ht0
  have TZ0 := Lib.hid hs0
  have TZ1 := Lib.hid hs1
  have TZ2 := Lib.hid hs2
  clear ht0 hs0 hs1 hs2
  obtain ⟨W, hW⟩ : ∃ W, W = ((w.alloc (.cells #[.string ⟨#[83, 121, 115, 116, 101, 109, 67, 97, 108, 108, 70, 105, 108, 116, 101, 114]⟩, .string ⟨#[83, 121, 115, 116, 101, 109, 67, 97, 108, 108, 76, 111, 103]⟩, .string ⟨#[83, 121, 115, 116, 101, 109, 67, 97, 108, 108, 69, 114, 114, 111, 114, 78, 117, 109, 98, 101, 114]⟩, .string ⟨#[79, 116, 104, 101, 114]⟩] 9)).alloc (.cells #[.slice none 0 0, .int .u8 0, .slice none 0 0, .int .u32 2147483648, .int .u8 0, .slice none 0 0, .slice none 0 0, .int .u8 0, .int .u64 0, .bool false, .bool false, .bool false, .bool false] 30)).alloc (.cells #[.slice none 0 0, .slice none 0 0] 54) := ⟨_, rfl⟩
  have sz1 : (w.alloc (.cells #[.string ⟨#[83, 121, 115, 116, 101, 109, 67, 97, 108, 108, 70, 105, 108, 116, 101, 114]⟩, .string ⟨#[83, 121, 115, 116, 101, 109, 67, 97, 108, 108, 76, 111, 103]⟩, .string ⟨#[83, 121, 115, 116, 101, 109, 67, 97, 108, 108, 69, 114, 114, 111, 114, 78, 117, 109, 98, 101, 114]⟩, .string ⟨#[79, 116, 104, 101, 114]⟩] 9)).heap.size = w.heap.size + 1 := World.size_alloc _ _
  have sz2 : ((w.alloc (.cells #[.string ⟨#[83, 121, 115, 116, 101, 109, 67, 97, 108, 108, 70, 105, 108, 116, 101, 114]⟩, .string ⟨#[83, 121, 115, 116, 101, 109, 67, 97, 108, 108, 76, 111, 103]⟩, .string ⟨#[83, 121, 115, 116, 101, 109, 67, 97, 108, 108, 69, 114, 114, 111, 114, 78, 117, 109, 98, 101, 114]⟩, .string ⟨#[79, 116, 104, 101, 114]⟩] 9)).alloc (.cells #[.slice none 0 0, .int .u8 0, .slice none 0 0, .int .u32 2147483648, .int .u8 0, .slice none 0 0, .slice none 0 0, .int .u8 0, .int .u64 0, .bool false, .bool false, .bool false, .bool false] 30)).heap.size = w.heap.size + 1 + 1 := by rw [World.size_alloc, sz1]
  have rw1 : W.heap[w.heap.size]? = some (.cells #[.string kFil, .string kLog, .string kErr, .string kOth] 9 (0, 0)) := by rw [hW]; exact ((below16 _ _).block _ (by rw [sz2]; omega)).trans (((below16 _ _).block _ (by rw [sz1]; omega)).trans (heap_alloc_new w _))
  have rw2 : W.heap[w.heap.size + 1]? = some (.cells (plC pz17 P0).toArray 30 (0, 0)) := by rw [hW]; exact ((below16 _ _).block _ (by rw [sz2]; omega)).trans (by rw [← sz1]; exact heap_alloc_new _ _)
  have rw3 : W.heap[w.heap.size + 1 + 1]? = some (.cells #[.slice none 0 0, .slice none 0 0] 54 (0, 0)) := by rw [hW, ← sz2]; exact heap_alloc_new _ _
  have FV0 := Lib.hid (show FV w w.heap.size (w.heap.size + 1 + 1) (w.heap.size + 3) (valsK 0 L (0)) (valsK 1 L (0)) (runK L (0)).2.length (.slice none 0 0) none 0 0 none 0 0 W from
    ⟨hW ▸ (((Below.refl _ _).alloc (Nat.le_refl _) _).alloc (by rw [sz1]; omega) _).alloc (by rw [sz2]; omega) _, by rw [hW, World.size_alloc, sz2]; exact Nat.le_refl _, rw1, rw3, rfl, rfl, World.ownsRow_nil _ _ _ _, World.ownsRow_nil _ _ _ _, fun g h => (by cases h), ⟨[], World.ownsRow_nil _ _ _ _⟩⟩)
  have PX0 := Lib.hid rw2
  have OX0 := Lib.hid (show OwnP (w.heap.size + 3) W pz17 P0 from ⟨rfl, rfl, rfl, rfl, World.ownsRow_nil _ _ _ _, World.ownsRow_nil _ _ _ _, World.ownsRow_nil _ _ _ _, World.ownsRow_nil _ _ _ _⟩)
  clear hL rw1 rw2 rw3 sz1 sz2 hG
  go_enter Tryz.func6, Tryz.ntmps6
  go_wp2_with fail
  rw [← hW]
  clear hW w0 w1
  go_loopw [7, 9, 10] (fun v7 v9 v10 wr => ∃ (k : Nat) (q : Pls) (q0 : Option Addr) (n0 c0 : Nat) (q1 : Option Addr) (n1 c1 : Nat), k ≤ len0 ∧ v7 = .int .u32 (denyK L k : Nat) ∧ v10 = .int .i64 k ∧ Hid (FV w w.heap.size (w.heap.size + 1 + 1) (w.heap.size + 3) (valsK 0 L (k)) (valsK 1 L (k)) (runK L (k)).2.length v9 q0 n0 c0 q1 n1 c1 wr) ∧ Hid (wr.heap[(w.heap.size + 1)]? = some (.cells (plC q (runK L k).1).toArray 30 (0, 0))) ∧ Hid (OwnP (w.heap.size + 3) wr q (runK L k).1) ∧ Hid (∀ i s, i < k → z0[i]? = some s → s.size ≤ 300)) (fun _ _ v10 _ => len0 - (intOf v10).toNat)
  case atStart => exact ⟨0, pz17, none, 0, 0, none, 0, 0, Nat.zero_le _, rfl, rfl, FV0, PX0, OX0, Lib.hid (fun i s hi => absurd hi (Nat.not_lt_zero _))⟩
  case round =>
    clear FV0 PX0 OX0
    obtain ⟨k, q, q0, n0, c0, q1, n1, c1, hk, rfl, rfl, FR, PR, OR_, HLN⟩ := hrel
    obtain ⟨V, rfl⟩ : ∃ wo : World, wo = wr := ⟨_, rfl⟩
    by_cases hlt : k < len0
    · have hx : z0[k]? = some (z0[k]'(by rw [HZ0.out]; exact hlt)) := List.getElem?_eq_getElem _
      obtain ⟨x, hxe⟩ : ∃ e, e = z0[k]'(by rw [HZ0.out]; exact hlt) := ⟨_, rfl⟩
      rw [← hxe] at hx
      obtain ⟨ga, oa, rfl, hga, hca⟩ := HA0.out (by omega)
      have hcx := hca k x hx
      obtain ⟨gb, ob, rfl, hgb, hcb⟩ := HA1.out (by omega)
      have hy : z1[k]? = some (z1[k]'(by have := HZ1.out; omega)) := List.getElem?_eq_getElem _
      obtain ⟨y, hye⟩ : ∃ e, e = z1[k]'(by have := HZ1.out; omega) := ⟨_, rfl⟩
      rw [← hye] at hy
      have hcy : w.cell? ⟨gb, ob + k, none⟩ = some (.int .u8 y) := by
        rw [hcb k (by have := HZ1.out; omega)]
        rw [show z1.getD k 0 = y by rw [List.getD_eq_getElem?_getD, hy]; rfl]
      have hyr := HBY.out y (List.mem_of_getElem? hy)
      have HGA := Lib.hid hga
      have CX0 := Lib.hid hcx
      have cxa := (FR.out.bel.cell hga).trans hcx
      have cya := (FR.out.bel.cell hgb).trans hcy
      have k1 : (k : Int) < len0 := by omega
      have k2 : (k : Int) < len1 := by omega
      have k0 : (0 : Int) ≤ k := by omega
      have HLX := Lib.hid (show L[k]? = some (y.toNat % 4, x) from by rw [HLL.out]; exact itm_get hx hy)
      by_cases hlong : (300 : Int) < x.size
      · clear hx hxe hca hcx hcb hy hye hcy hyr hga hgb
        go_wp2_with (first
          | (go_at_call 14
             ((with_reducible refine (HAW.out _ (HON.out _ _ HG.out FR.out.bel)).mono ?_); rintro e v9 ⟨rfl, b9⟩)))
        go_ret
        exact ⟨rfl, thn16 FR.out.bel b9⟩
      have hxs : x.size ≤ 300 := by omega
      have HLN1 := Lib.hid (show ∀ i s, i < k + 1 → z0[i]? = some s → s.size ≤ 300 from fun i s hi hs => by
        by_cases h : i < k
        · exact HLN.out i s h hs
        · obtain rfl : i = k := by omega
          rw [hx] at hs; injection hs with hs; rw [← hs]; exact hxs)
      obtain ⟨jn, hjn⟩ : ∃ j, j = y.toNat % 4 := ⟨_, rfl⟩
      have hj4 : jn < 4 := by rw [hjn]; exact Nat.mod_lt _ (by decide)
      have htm : y.tmod 4 = (jn : Nat) := by rw [hjn, Int.tmod_eq_emod_of_nonneg hyr.1]; omega
      rw [← hjn] at HLX
      have hj1 : (jn : Int) < 4 := by omega
      have hj0 : (0 : Int) ≤ jn := by omega
      obtain ⟨gd1, gd2, gd3, gd4, gd5⟩ := run_good L HLT.out k
      have hns := run_nts L HLT.out k (fun i x hi hx => by
        obtain ⟨s, b, hs, _, rfl⟩ := itm_at HLL.out hx
        have := HLN.out i s hi hs
        show s.size ≤ 1000
        omega)
      obtain ⟨P, hP⟩ : ∃ P, P = (runK L k).1 := ⟨_, rfl⟩
      obtain ⟨kj, hkj⟩ : ∃ s, s = keyAt jn := ⟨_, rfl⟩
      have hks : kj.size ≤ 200 := by rw [hkj]; exact keyAt_size hj4
      obtain ⟨P', hP'⟩ : ∃ Q, Q = (setF P kj x).1 := ⟨_, rfl⟩
      obtain ⟨NN, hNN⟩ : ∃ N, N = (setF P kj x).2.map (nteP ⟨⟨#[102]⟩, 3, ⟨#[83, 101, 114, 118, 105, 99, 101]⟩, kj, x⟩) := ⟨_, rfl⟩
      have HRP := Lib.hid (show (runK L (k + 1)).1 = P' by rw [runK_step HLX.out, hP', hkj, hP])
      obtain ⟨nN, hnN⟩ : ∃ n, n = (runK L k).2.length := ⟨_, rfl⟩
      obtain ⟨nM, hnM⟩ : ∃ n, n = NN.length := ⟨_, rfl⟩
      have HRN := Lib.hid (show (runK L (k + 1)).2.length = nN + nM by rw [runK_step HLX.out, hnN, hnM, hNN, List.length_map, ← hkj, ← hP]; exact List.length_append)
      have hnm : nM ≤ 1000 := by rw [hnM, hNN, List.length_map, hP]; exact (setF_len (runK L k).1 kj x (by omega) gd4 gd5).2.2.2.2
      rw [← hnN] at hns FR
      rw [← hP] at gd1 gd2 gd3 gd4 gd5 PR OR_
      have HNM := Lib.hid hnM.symm
      have HST9 := Lib.hid (fun (X : World) (g : G X) (q : Pls) (h : PolAt X q P) => (show Calls Tryz.prog 9 #[.agg #[.slice q.aq q.an q.ac, .int .u8 (P.fl.1 : Nat), .slice q.fq q.fn q.fc, .int .u32 (P.dn : Nat), .int .u8 (P.lg.1 : Nat), .slice q.lq q.ln q.lc, .slice q.mq q.mn q.mc, .int .u8 (P.fm : Nat), .int .u64 (P.sp : Nat), .bool P.b1, .bool P.b2, .bool P.b3, .bool P.b4], .agg #[.string ⟨#[102]⟩, .int .i64 3, .string ⟨#[83, 101, 114, 118, 105, 99, 101]⟩, .string kj, .string x]] X fun e w' => ∃ p' u, e = .returned (.tuple #[plV p' P', u]) ∧ OwnP X.heap.size w' p' P' ∧ w'.ownsRow X.heap.size 51 4 u NN.length (rowC encN NN) ∧ Below X.heap.size X w' from set_is17 HC P P' kj x NN (setF P kj x).2 gd1 (by rw [hP']) hNN.symm hks (by omega) (by rw [gd2]; decide) (by rw [gd3]; decide) gd4 gd5 q X g h))
      have HOF9 := Lib.hid (fun (X : World) => of17 kj x X)
      unfold asV at HOF9
      simp only at HOF9
      have HER := Lib.hid (fun (X : World) (g : G X) => HC.errno x X g (by omega))
      have HPV := Lib.hid (fun (p9 : Pls) (X : World) (h : X.heap[(w.heap.size + 1)]? = some (.cells (plC p9 P').toArray 30 (0, 0))) => (show X.heap[(w.heap.size + 1)]? = some (.cells (plC p9 (runK L (k + 1)).1).toArray 30 (0, 0)) from by rw [HRP.out]; exact h))
      have HOV := Lib.hid (fun (p9 : Pls) (X : World) (h : OwnP (w.heap.size + 3) X p9 P') => (show OwnP (w.heap.size + 3) X p9 (runK L (k + 1)).1 from by rw [HRP.out]; exact h))
      have cka := (cell_of_row V w.heap.size jn _ _ (0, 0) FR.out.keys).trans (show _ = some (Value.string kj) from by rw [hkj]; match jn, hj4 with | 0, _ => rfl | 1, _ => rfl | 2, _ => rfl | 3, _ => rfl)
      have HBX9 := PR
      have HPA9 := Lib.hid OR_.out.pol
      have BV9 := Lib.hid FR.out.bel
      have CXA := Lib.hid cxa
      have CKA := Lib.hid cka
      obtain ⟨xs9, hxs9⟩ := FR.out.nts
      clear hx hxe hca hcx hcb hy hye hcy hyr hga hgb hP hkj hP' hNN hnN hnM gd1 gd2 gd3 gd4 gd5 hjn hxs9 xs9 cka
      go_upto_region 14 with fail
      go_wp2_with fail
      have SK := Lib.hid (fun (Y : World) (b : Below V.heap.size V Y) => (show (fun w' => w'.cell? ⟨(w.heap.size + 1), 0, none⟩ = some (.slice q.aq q.an q.ac) ∧ w'.cell? ⟨(w.heap.size + 1), 1, none⟩ = some (.int .u8 (P.fl.1 : Nat)) ∧ w'.cell? ⟨(w.heap.size + 1), 2, none⟩ = some (.slice q.fq q.fn q.fc) ∧ w'.cell? ⟨(w.heap.size + 1), 3, none⟩ = some (.int .u32 (P.dn : Nat)) ∧ w'.cell? ⟨(w.heap.size + 1), 4, none⟩ = some (.int .u8 (P.lg.1 : Nat)) ∧ w'.cell? ⟨(w.heap.size + 1), 5, none⟩ = some (.slice q.lq q.ln q.lc) ∧ w'.cell? ⟨(w.heap.size + 1), 6, none⟩ = some (.slice q.mq q.mn q.mc) ∧ w'.cell? ⟨(w.heap.size + 1), 7, none⟩ = some (.int .u8 (P.fm : Nat)) ∧ w'.cell? ⟨(w.heap.size + 1), 8, none⟩ = some (.int .u64 (P.sp : Nat)) ∧ w'.cell? ⟨(w.heap.size + 1), 9, none⟩ = some (.bool P.b1) ∧ w'.cell? ⟨(w.heap.size + 1), 10, none⟩ = some (.bool P.b2) ∧ w'.cell? ⟨(w.heap.size + 1), 11, none⟩ = some (.bool P.b3) ∧ w'.cell? ⟨(w.heap.size + 1), 12, none⟩ = some (.bool P.b4) ∧ w'.cell? ⟨w.heap.size, jn, none⟩ = some (.string kj) ∧ w'.cell? ⟨ga, oa + k, none⟩ = some (.string x)) Y from have hh := pcells17 (blk_on HBX9.out b); ⟨hh.1, hh.2.1, hh.2.2.1, hh.2.2.2.1, hh.2.2.2.2.1, hh.2.2.2.2.2.1, hh.2.2.2.2.2.2.1, hh.2.2.2.2.2.2.2.1, hh.2.2.2.2.2.2.2.2.1, hh.2.2.2.2.2.2.2.2.2.1, hh.2.2.2.2.2.2.2.2.2.2.1, hh.2.2.2.2.2.2.2.2.2.2.2.1, hh.2.2.2.2.2.2.2.2.2.2.2.2, (b.cell (World.block_lt_of_cell? _ _ CKA.out)).trans CKA.out, (b.cell (World.block_lt_of_cell? _ _ CXA.out)).trans CXA.out⟩))
      refine key17 (F := F18 V P' NN) (R := ?R9) ?h19 ?h29
      case h19 =>
        intro KEY
        refine wp_region_held_drew (S := (fun w' => w'.cell? ⟨(w.heap.size + 1), 0, none⟩ = some (.slice q.aq q.an q.ac) ∧ w'.cell? ⟨(w.heap.size + 1), 1, none⟩ = some (.int .u8 (P.fl.1 : Nat)) ∧ w'.cell? ⟨(w.heap.size + 1), 2, none⟩ = some (.slice q.fq q.fn q.fc) ∧ w'.cell? ⟨(w.heap.size + 1), 3, none⟩ = some (.int .u32 (P.dn : Nat)) ∧ w'.cell? ⟨(w.heap.size + 1), 4, none⟩ = some (.int .u8 (P.lg.1 : Nat)) ∧ w'.cell? ⟨(w.heap.size + 1), 5, none⟩ = some (.slice q.lq q.ln q.lc) ∧ w'.cell? ⟨(w.heap.size + 1), 6, none⟩ = some (.slice q.mq q.mn q.mc) ∧ w'.cell? ⟨(w.heap.size + 1), 7, none⟩ = some (.int .u8 (P.fm : Nat)) ∧ w'.cell? ⟨(w.heap.size + 1), 8, none⟩ = some (.int .u64 (P.sp : Nat)) ∧ w'.cell? ⟨(w.heap.size + 1), 9, none⟩ = some (.bool P.b1) ∧ w'.cell? ⟨(w.heap.size + 1), 10, none⟩ = some (.bool P.b2) ∧ w'.cell? ⟨(w.heap.size + 1), 11, none⟩ = some (.bool P.b3) ∧ w'.cell? ⟨(w.heap.size + 1), 12, none⟩ = some (.bool P.b4) ∧ w'.cell? ⟨w.heap.size, jn, none⟩ = some (.string kj) ∧ w'.cell? ⟨ga, oa + k, none⟩ = some (.string x))) (by kernel_rfl) ?_ (fun hHeld => ?_)
        · exact SK.out _ (Below.refl _ _).drew
        obtain ⟨Y0, hY0⟩ : ∃ Y, Y = V.drew := ⟨_, rfl⟩
        have B := Lib.hid (show Below V.heap.size V Y0 from hY0 ▸ (Below.refl _ _).drew)
        rw [← hY0] at hHeld ⊢
        clear hY0
        refine take_op2 (i := 0) (v := ?_) rfl (by kernel_rfl) (by kernel_rfl) (by kernel_rfl) (fun _ _ _ h => h) (Or.inl ⟨wanted_plain rfl, ?_⟩) (by assumption) ?_
        rotate_left
        · (intro w hSw; (try dsimp only at hSw); go_simp; try with_reducible rfl)
        intro act_ hact_; simp only [Act.put, List.setIfInBounds_toArray, List.set_cons_zero, List.set_cons_succ] at hact_; subst hact_
        refine take_op2 (i := 1) (v := ?_) rfl (by kernel_rfl) (by kernel_rfl) (by kernel_rfl) (fun _ _ _ h => h) (Or.inl ⟨wanted_plain rfl, ?_⟩) (by assumption) ?_
        rotate_left
        · (intro w hSw; (try dsimp only at hSw); go_simp; try with_reducible rfl)
        intro act_ hact_; simp only [Act.put, List.setIfInBounds_toArray, List.set_cons_zero, List.set_cons_succ] at hact_; subst hact_
        refine take_op2 (i := 2) (v := ?_) rfl (by kernel_rfl) (by kernel_rfl) (by kernel_rfl) (fun _ _ _ h => h) (Or.inl ⟨wanted_plain rfl, ?_⟩) (by assumption) ?_
        rotate_left
        · (intro w hSw; (try dsimp only at hSw); go_simp; try with_reducible rfl)
        intro act_ hact_; simp only [Act.put, List.setIfInBounds_toArray, List.set_cons_zero, List.set_cons_succ] at hact_; subst hact_
        refine take_op2 (i := 3) (v := ?_) rfl (by kernel_rfl) (by kernel_rfl) (by kernel_rfl) (fun _ _ _ h => h) (Or.inl ⟨wanted_plain rfl, ?_⟩) (by assumption) ?_
        rotate_left
        · (intro w hSw; (try dsimp only at hSw); go_simp; try with_reducible rfl)
        intro act_ hact_; simp only [Act.put, List.setIfInBounds_toArray, List.set_cons_zero, List.set_cons_succ] at hact_; subst hact_
        refine take_op2 (i := 4) (v := ?_) rfl (by kernel_rfl) (by kernel_rfl) (by kernel_rfl) (fun _ _ _ h => h) (Or.inl ⟨wanted_plain rfl, ?_⟩) (by assumption) ?_
        rotate_left
        · (intro w hSw; (try dsimp only at hSw); go_simp; try with_reducible rfl)
        intro act_ hact_; simp only [Act.put, List.setIfInBounds_toArray, List.set_cons_zero, List.set_cons_succ] at hact_; subst hact_
        refine take_op2 (i := 5) (v := ?_) rfl (by kernel_rfl) (by kernel_rfl) (by kernel_rfl) (fun _ _ _ h => h) (Or.inl ⟨wanted_plain rfl, ?_⟩) (by assumption) ?_
        rotate_left
        · (intro w hSw; (try dsimp only at hSw); go_simp; try with_reducible rfl)
        intro act_ hact_; simp only [Act.put, List.setIfInBounds_toArray, List.set_cons_zero, List.set_cons_succ] at hact_; subst hact_
        refine take_op2 (i := 6) (v := ?_) rfl (by kernel_rfl) (by kernel_rfl) (by kernel_rfl) (fun _ _ _ h => h) (Or.inl ⟨wanted_plain rfl, ?_⟩) (by assumption) ?_
        rotate_left
        · (intro w hSw; (try dsimp only at hSw); go_simp; try with_reducible rfl)
        intro act_ hact_; simp only [Act.put, List.setIfInBounds_toArray, List.set_cons_zero, List.set_cons_succ] at hact_; subst hact_
        refine take_op2 (i := 7) (v := ?_) rfl (by kernel_rfl) (by kernel_rfl) (by kernel_rfl) (fun _ _ _ h => h) (Or.inl ⟨wanted_plain rfl, ?_⟩) (by assumption) ?_
        rotate_left
        · (intro w hSw; (try dsimp only at hSw); go_simp; try with_reducible rfl)
        intro act_ hact_; simp only [Act.put, List.setIfInBounds_toArray, List.set_cons_zero, List.set_cons_succ] at hact_; subst hact_
        refine take_op2 (i := 8) (v := ?_) rfl (by kernel_rfl) (by kernel_rfl) (by kernel_rfl) (fun _ _ _ h => h) (Or.inl ⟨wanted_plain rfl, ?_⟩) (by assumption) ?_
        rotate_left
        · (intro w hSw; (try dsimp only at hSw); go_simp; try with_reducible rfl)
        intro act_ hact_; simp only [Act.put, List.setIfInBounds_toArray, List.set_cons_zero, List.set_cons_succ] at hact_; subst hact_
        refine wpAnyH_ready (rs := [9, 14]) (by kernel_rfl) (List.cons_ne_nil _ _) ?_
        refine AllReadyH.cons rfl (fun K hK => ?_) ?_
        · go_simp
          go_wp2_with (go_at_call 20; ((with_reducible refine (HOF9.out _).mono ?_); rintro e Y1 ⟨rfl, b⟩))
          have B := Lib.hid (thn16 B.out b)
          clear b
          refine hK.out _ _ ?_ (fun hHeld2 => ?_)
          · exact SK.out _ B.out
          clear hK K
          have hHeld := hHeld2
          clear hHeld2
          refine wpAnyH_ready (rs := [10, 14]) (by kernel_rfl) (List.cons_ne_nil _ _) ?_
          refine AllReadyH.cons rfl (fun K hK => ?_) ?_
          · go_simp
            go_wp2_with (go_at_call 9; ((with_reducible refine (HST9.out Y1 (HON.out _ _ HG.out (thn16 BV9.out B.out)) q (HPA9.out.on B.out)).mono ?_); rintro e Y2 ⟨p3, u3, rfl, own3, r3, b⟩))
            have OW1 := Lib.hid (own_low17 own3 B.out.size)
            have RN1 := Lib.hid (owns_low16 r3 B.out.size)
            have B := Lib.hid (thn16 B.out b)
            have OW := OW1
            have RN := RN1
            clear own3 r3 b OW1 RN1
            refine hK.out _ _ ?_ (fun hHeld2 => ?_)
            · exact SK.out _ B.out
            clear hK K
            have hHeld := hHeld2
            clear hHeld2
            refine take_op2 (i := 11) (v := ?_) rfl (by kernel_rfl) (by kernel_rfl) (by kernel_rfl) (fun _ _ _ h => h) (Or.inl ⟨wanted_plain rfl, ?_⟩) (by assumption) ?_
            rotate_left
            · (intro w hSw; (try dsimp only at hSw); go_simp; try with_reducible rfl)
            intro act_ hact_; simp only [Act.put, List.setIfInBounds_toArray, List.set_cons_zero, List.set_cons_succ] at hact_; subst hact_
            refine take_op2 (i := 12) (v := ?_) rfl (by kernel_rfl) (by kernel_rfl) (by kernel_rfl) (fun _ _ _ h => h) (Or.inl ⟨wanted_plain rfl, ?_⟩) (by assumption) ?_
            rotate_left
            · (intro w hSw; (try dsimp only at hSw); go_simp; try with_reducible rfl)
            intro act_ hact_; simp only [Act.put, List.setIfInBounds_toArray, List.set_cons_zero, List.set_cons_succ] at hact_; subst hact_
            refine take_op2 (i := 13) (v := ?_) rfl (by kernel_rfl) (by kernel_rfl) (by kernel_rfl) (fun _ _ _ h => h) (Or.inl ⟨wanted_plain rfl, ?_⟩) (by assumption) ?_
            rotate_left
            · (intro w hSw; (try dsimp only at hSw); go_simp; try with_reducible rfl)
            intro act_ hact_; simp only [Act.put, List.setIfInBounds_toArray, List.set_cons_zero, List.set_cons_succ] at hact_; subst hact_
            refine wpAnyH_ready (rs := [14]) (by kernel_rfl) (List.cons_ne_nil _ _) ?_
            refine AllReadyH.cons rfl (fun K hK => ?_) AllReadyH.nil
            go_simp
            refine hK.out _ _ ?_ (fun hHeld2 => ?_)
            · exact SK.out _ (B.out.alloc B.out.size _)
            clear hK K
            obtain ⟨Y3, hN⟩ : ∃ X, X = World.alloc Y2 (.cells #[.slice none 0 0, .int .u8 0, .slice none 0 0, .int .u32 0, .int .u8 0, .slice none 0 0, .slice none 0 0, .int .u8 0, .int .u64 0, .bool false, .bool false, .bool false, .bool false] 30) := ⟨_, rfl⟩
            have b : Below Y2.heap.size Y2 Y3 := hN ▸ below16 Y2 (.cells #[.slice none 0 0, .int .u8 0, .slice none 0 0, .int .u32 0, .int .u8 0, .slice none 0 0, .slice none 0 0, .int .u8 0, .int .u64 0, .bool false, .bool false, .bool false, .bool false] 30)
            have ZA := Lib.hid (show Y3.heap[Y2.heap.size]? = some (.cells ([.slice none 0 0, .int .u8 0, .slice none 0 0, .int .u32 0, .int .u8 0, .slice none 0 0, .slice none 0 0, .int .u8 0, .int .u64 0, .bool false, .bool false, .bool false, .bool false] : List Value).toArray 30 (0, 0)) from hN ▸ heap_alloc_new Y2 _)
            have GA := Lib.hid (show V.heap.size ≤ Y2.heap.size from B.out.size)
            rw [← hN] at hHeld2 ⊢
            have B := Lib.hid (thn16 B.out b)
            have OW := Lib.hid (OW.out.on b)
            have RN := Lib.hid (owns_on16 RN.out b)
            obtain ⟨gA, hg⟩ : ∃ g, g = Y2.heap.size := ⟨_, rfl⟩
            rw [← hg] at ZA GA ⊢
            clear b hN hg
            have hHeld := hHeld2
            clear hHeld2
            refine wpAnyH_ready (rs := [15]) (by kernel_rfl) (List.cons_ne_nil _ _) ?_
            refine AllReadyH.cons rfl (fun K hK => ?_) AllReadyH.nil
            refine step_storeL17 rfl 30 (.tmp 12) (.tmp 67) (by rfl) gA 0 (plC p3 P') (by rfl) (by rfl) (there_row17 ZA.out (show 0 + 13 ≤ 13 by decide)) pl_info (plC_one _ _) ?_
            change K (Act.put _ none _) _
            simp only [Act.put]
            refine hK.out _ _ ?_ (fun hHeld2 => ?_)
            · exact SK.out _ (below_setCells16 GA.out (plC p3 P') 0 _ B.out)
            clear hK K
            have hHeld := hHeld2
            clear hHeld2
            refine take_op2 (i := 16) (v := ?_) rfl (by kernel_rfl) (by kernel_rfl) (by kernel_rfl) (fun _ _ _ h => h) (Or.inl ⟨wanted_plain rfl, ?_⟩) (by assumption) ?_
            rotate_left
            · (intro w hSw; (try dsimp only at hSw); go_simp; try with_reducible rfl)
            intro act_ hact_; simp only [Act.put, List.setIfInBounds_toArray, List.set_cons_zero, List.set_cons_succ] at hact_; subst hact_
            refine wpAnyH_done (by kernel_rfl) ?_ _
            have FIN := Lib.hid (fin18 B.out GA.out ZA.out rfl OW.out RN.out)
            generalize Y3.setCells gA 0 (plC p3 P') = Z at FIN ⊢
            exact KEY Z gA p3 u3 FIN.out
          refine AllReadyH.cons rfl (fun K hK => ?_) ?_
          · go_simp
            refine hK.out _ _ ?_ (fun hHeld2 => ?_)
            · exact SK.out _ (B.out.alloc B.out.size _)
            clear hK K
            obtain ⟨Y2, hN⟩ : ∃ X, X = World.alloc Y1 (.cells #[.slice none 0 0, .int .u8 0, .slice none 0 0, .int .u32 0, .int .u8 0, .slice none 0 0, .slice none 0 0, .int .u8 0, .int .u64 0, .bool false, .bool false, .bool false, .bool false] 30) := ⟨_, rfl⟩
            have b : Below Y1.heap.size Y1 Y2 := hN ▸ below16 Y1 (.cells #[.slice none 0 0, .int .u8 0, .slice none 0 0, .int .u32 0, .int .u8 0, .slice none 0 0, .slice none 0 0, .int .u8 0, .int .u64 0, .bool false, .bool false, .bool false, .bool false] 30)
            have ZA := Lib.hid (show Y2.heap[Y1.heap.size]? = some (.cells ([.slice none 0 0, .int .u8 0, .slice none 0 0, .int .u32 0, .int .u8 0, .slice none 0 0, .slice none 0 0, .int .u8 0, .int .u64 0, .bool false, .bool false, .bool false, .bool false] : List Value).toArray 30 (0, 0)) from hN ▸ heap_alloc_new Y1 _)
            have GA := Lib.hid (show V.heap.size ≤ Y1.heap.size from B.out.size)
            rw [← hN] at hHeld2 ⊢
            have B := Lib.hid (thn16 B.out b)
            obtain ⟨gA, hg⟩ : ∃ g, g = Y1.heap.size := ⟨_, rfl⟩
            rw [← hg] at ZA GA ⊢
            clear b hN hg
            have hHeld := hHeld2
            clear hHeld2
            refine wpAnyH_ready (rs := [10]) (by kernel_rfl) (List.cons_ne_nil _ _) ?_
            refine AllReadyH.cons rfl (fun K hK => ?_) AllReadyH.nil
            go_simp
            go_wp2_with (go_at_call 9; ((with_reducible refine (HST9.out Y2 (HON.out _ _ HG.out (thn16 BV9.out B.out)) q (HPA9.out.on B.out)).mono ?_); rintro e Y3 ⟨p3, u3, rfl, own3, r3, b⟩))
            have OW1 := Lib.hid (own_low17 own3 B.out.size)
            have RN1 := Lib.hid (owns_low16 r3 B.out.size)
            have B := Lib.hid (thn16 B.out b)
            have ZA := Lib.hid (blk_on ZA.out b)
            have OW := OW1
            have RN := RN1
            clear own3 r3 b OW1 RN1
            refine hK.out _ _ ?_ (fun hHeld2 => ?_)
            · exact SK.out _ B.out
            clear hK K
            have hHeld := hHeld2
            clear hHeld2
            refine take_op2 (i := 11) (v := ?_) rfl (by kernel_rfl) (by kernel_rfl) (by kernel_rfl) (fun _ _ _ h => h) (Or.inl ⟨wanted_plain rfl, ?_⟩) (by assumption) ?_
            rotate_left
            · (intro w hSw; (try dsimp only at hSw); go_simp; try with_reducible rfl)
            intro act_ hact_; simp only [Act.put, List.setIfInBounds_toArray, List.set_cons_zero, List.set_cons_succ] at hact_; subst hact_
            refine take_op2 (i := 12) (v := ?_) rfl (by kernel_rfl) (by kernel_rfl) (by kernel_rfl) (fun _ _ _ h => h) (Or.inl ⟨wanted_plain rfl, ?_⟩) (by assumption) ?_
            rotate_left
            · (intro w hSw; (try dsimp only at hSw); go_simp; try with_reducible rfl)
            intro act_ hact_; simp only [Act.put, List.setIfInBounds_toArray, List.set_cons_zero, List.set_cons_succ] at hact_; subst hact_
            refine take_op2 (i := 13) (v := ?_) rfl (by kernel_rfl) (by kernel_rfl) (by kernel_rfl) (fun _ _ _ h => h) (Or.inl ⟨wanted_plain rfl, ?_⟩) (by assumption) ?_
            rotate_left
            · (intro w hSw; (try dsimp only at hSw); go_simp; try with_reducible rfl)
            intro act_ hact_; simp only [Act.put, List.setIfInBounds_toArray, List.set_cons_zero, List.set_cons_succ] at hact_; subst hact_
            refine wpAnyH_ready (rs := [15]) (by kernel_rfl) (List.cons_ne_nil _ _) ?_
            refine AllReadyH.cons rfl (fun K hK => ?_) AllReadyH.nil
            refine step_storeL17 rfl 30 (.tmp 12) (.tmp 67) (by rfl) gA 0 (plC p3 P') (by rfl) (by rfl) (there_row17 ZA.out (show 0 + 13 ≤ 13 by decide)) pl_info (plC_one _ _) ?_
            change K (Act.put _ none _) _
            simp only [Act.put]
            refine hK.out _ _ ?_ (fun hHeld2 => ?_)
            · exact SK.out _ (below_setCells16 GA.out (plC p3 P') 0 _ B.out)
            clear hK K
            have hHeld := hHeld2
            clear hHeld2
            refine take_op2 (i := 16) (v := ?_) rfl (by kernel_rfl) (by kernel_rfl) (by kernel_rfl) (fun _ _ _ h => h) (Or.inl ⟨wanted_plain rfl, ?_⟩) (by assumption) ?_
            rotate_left
            · (intro w hSw; (try dsimp only at hSw); go_simp; try with_reducible rfl)
            intro act_ hact_; simp only [Act.put, List.setIfInBounds_toArray, List.set_cons_zero, List.set_cons_succ] at hact_; subst hact_
            refine wpAnyH_done (by kernel_rfl) ?_ _
            have FIN := Lib.hid (fin18 B.out GA.out ZA.out rfl OW.out RN.out)
            generalize Y3.setCells gA 0 (plC p3 P') = Z at FIN ⊢
            exact KEY Z gA p3 u3 FIN.out
          exact AllReadyH.nil
        refine AllReadyH.cons rfl (fun K hK => ?_) ?_
        · go_simp
          refine hK.out _ _ ?_ (fun hHeld2 => ?_)
          · exact SK.out _ (B.out.alloc B.out.size _)
          clear hK K
          obtain ⟨Y1, hN⟩ : ∃ X, X = World.alloc Y0 (.cells #[.slice none 0 0, .int .u8 0, .slice none 0 0, .int .u32 0, .int .u8 0, .slice none 0 0, .slice none 0 0, .int .u8 0, .int .u64 0, .bool false, .bool false, .bool false, .bool false] 30) := ⟨_, rfl⟩
          have b : Below Y0.heap.size Y0 Y1 := hN ▸ below16 Y0 (.cells #[.slice none 0 0, .int .u8 0, .slice none 0 0, .int .u32 0, .int .u8 0, .slice none 0 0, .slice none 0 0, .int .u8 0, .int .u64 0, .bool false, .bool false, .bool false, .bool false] 30)
          have ZA := Lib.hid (show Y1.heap[Y0.heap.size]? = some (.cells ([.slice none 0 0, .int .u8 0, .slice none 0 0, .int .u32 0, .int .u8 0, .slice none 0 0, .slice none 0 0, .int .u8 0, .int .u64 0, .bool false, .bool false, .bool false, .bool false] : List Value).toArray 30 (0, 0)) from hN ▸ heap_alloc_new Y0 _)
          have GA := Lib.hid (show V.heap.size ≤ Y0.heap.size from B.out.size)
          rw [← hN] at hHeld2 ⊢
          have B := Lib.hid (thn16 B.out b)
          obtain ⟨gA, hg⟩ : ∃ g, g = Y0.heap.size := ⟨_, rfl⟩
          rw [← hg] at ZA GA ⊢
          clear b hN hg
          have hHeld := hHeld2
          clear hHeld2
          refine wpAnyH_ready (rs := [9]) (by kernel_rfl) (List.cons_ne_nil _ _) ?_
          refine AllReadyH.cons rfl (fun K hK => ?_) AllReadyH.nil
          go_simp
          go_wp2_with (go_at_call 20; ((with_reducible refine (HOF9.out _).mono ?_); rintro e Y2 ⟨rfl, b⟩))
          have B := Lib.hid (thn16 B.out b)
          have ZA := Lib.hid (blk_on ZA.out b)
          clear b
          refine hK.out _ _ ?_ (fun hHeld2 => ?_)
          · exact SK.out _ B.out
          clear hK K
          have hHeld := hHeld2
          clear hHeld2
          refine wpAnyH_ready (rs := [10]) (by kernel_rfl) (List.cons_ne_nil _ _) ?_
          refine AllReadyH.cons rfl (fun K hK => ?_) AllReadyH.nil
          go_simp
          go_wp2_with (go_at_call 9; ((with_reducible refine (HST9.out Y2 (HON.out _ _ HG.out (thn16 BV9.out B.out)) q (HPA9.out.on B.out)).mono ?_); rintro e Y3 ⟨p3, u3, rfl, own3, r3, b⟩))
          have OW1 := Lib.hid (own_low17 own3 B.out.size)
          have RN1 := Lib.hid (owns_low16 r3 B.out.size)
          have B := Lib.hid (thn16 B.out b)
          have ZA := Lib.hid (blk_on ZA.out b)
          have OW := OW1
          have RN := RN1
          clear own3 r3 b OW1 RN1
          refine hK.out _ _ ?_ (fun hHeld2 => ?_)
          · exact SK.out _ B.out
          clear hK K
          have hHeld := hHeld2
          clear hHeld2
          refine take_op2 (i := 11) (v := ?_) rfl (by kernel_rfl) (by kernel_rfl) (by kernel_rfl) (fun _ _ _ h => h) (Or.inl ⟨wanted_plain rfl, ?_⟩) (by assumption) ?_
          rotate_left
          · (intro w hSw; (try dsimp only at hSw); go_simp; try with_reducible rfl)
          intro act_ hact_; simp only [Act.put, List.setIfInBounds_toArray, List.set_cons_zero, List.set_cons_succ] at hact_; subst hact_
          refine take_op2 (i := 12) (v := ?_) rfl (by kernel_rfl) (by kernel_rfl) (by kernel_rfl) (fun _ _ _ h => h) (Or.inl ⟨wanted_plain rfl, ?_⟩) (by assumption) ?_
          rotate_left
          · (intro w hSw; (try dsimp only at hSw); go_simp; try with_reducible rfl)
          intro act_ hact_; simp only [Act.put, List.setIfInBounds_toArray, List.set_cons_zero, List.set_cons_succ] at hact_; subst hact_
          refine take_op2 (i := 13) (v := ?_) rfl (by kernel_rfl) (by kernel_rfl) (by kernel_rfl) (fun _ _ _ h => h) (Or.inl ⟨wanted_plain rfl, ?_⟩) (by assumption) ?_
          rotate_left
          · (intro w hSw; (try dsimp only at hSw); go_simp; try with_reducible rfl)
          intro act_ hact_; simp only [Act.put, List.setIfInBounds_toArray, List.set_cons_zero, List.set_cons_succ] at hact_; subst hact_
          refine wpAnyH_ready (rs := [15]) (by kernel_rfl) (List.cons_ne_nil _ _) ?_
          refine AllReadyH.cons rfl (fun K hK => ?_) AllReadyH.nil
          refine step_storeL17 rfl 30 (.tmp 12) (.tmp 67) (by rfl) gA 0 (plC p3 P') (by rfl) (by rfl) (there_row17 ZA.out (show 0 + 13 ≤ 13 by decide)) pl_info (plC_one _ _) ?_
          change K (Act.put _ none _) _
          simp only [Act.put]
          refine hK.out _ _ ?_ (fun hHeld2 => ?_)
          · exact SK.out _ (below_setCells16 GA.out (plC p3 P') 0 _ B.out)
          clear hK K
          have hHeld := hHeld2
          clear hHeld2
          refine take_op2 (i := 16) (v := ?_) rfl (by kernel_rfl) (by kernel_rfl) (by kernel_rfl) (fun _ _ _ h => h) (Or.inl ⟨wanted_plain rfl, ?_⟩) (by assumption) ?_
          rotate_left
          · (intro w hSw; (try dsimp only at hSw); go_simp; try with_reducible rfl)
          intro act_ hact_; simp only [Act.put, List.setIfInBounds_toArray, List.set_cons_zero, List.set_cons_succ] at hact_; subst hact_
          refine wpAnyH_done (by kernel_rfl) ?_ _
          have FIN := Lib.hid (fin18 B.out GA.out ZA.out rfl OW.out RN.out)
          generalize Y3.setCells gA 0 (plC p3 P') = Z at FIN ⊢
          exact KEY Z gA p3 u3 FIN.out
        exact AllReadyH.nil
      case h29 =>
        intro X9 g9 p9 u9n hF
        obtain ⟨bF, gF, xF, oF, rF⟩ := hF
        obtain ⟨qu, cu, hu⟩ := own_form16 rF
        rw [HNM.out] at hu
        subst hu
        have FX9 := Lib.hid (FR.out.on bF)
        have PX9 := Lib.hid (blk_on PR.out bF)
        have OF9 := Lib.hid (own_low17 oF FR.out.hi)
        have RF9 := Lib.hid rF
        have HNE9 := Lib.hid (show NN.length = nM from HNM.out)
        obtain ⟨f0, f1, f2, f3, f4, f5, f6, f7, f8, f9, f10, f11, f12⟩ := (show X9.cell? ⟨g9, 0, none⟩ = some (.slice p9.aq p9.an p9.ac) ∧ X9.cell? ⟨g9, 1, none⟩ = some (.int .u8 (P'.fl.1 : Nat)) ∧ X9.cell? ⟨g9, 2, none⟩ = some (.slice p9.fq p9.fn p9.fc) ∧ X9.cell? ⟨g9, 3, none⟩ = some (.int .u32 (P'.dn : Nat)) ∧ X9.cell? ⟨g9, 4, none⟩ = some (.int .u8 (P'.lg.1 : Nat)) ∧ X9.cell? ⟨g9, 5, none⟩ = some (.slice p9.lq p9.ln p9.lc) ∧ X9.cell? ⟨g9, 6, none⟩ = some (.slice p9.mq p9.mn p9.mc) ∧ X9.cell? ⟨g9, 7, none⟩ = some (.int .u8 (P'.fm : Nat)) ∧ X9.cell? ⟨g9, 8, none⟩ = some (.int .u64 (P'.sp : Nat)) ∧ X9.cell? ⟨g9, 9, none⟩ = some (.bool P'.b1) ∧ X9.cell? ⟨g9, 10, none⟩ = some (.bool P'.b2) ∧ X9.cell? ⟨g9, 11, none⟩ = some (.bool P'.b3) ∧ X9.cell? ⟨g9, 12, none⟩ = some (.bool P'.b4) from pcells17 xF)
        clear bF gF xF oF rF cxa cya
        go_upto_region 17 with (first
          | ((with_reducible show wpList _ _ _ (⟨none, .store 30 (.tmp 6) (.tmp 69), _, _, _, _⟩ :: _) _ _)
             refine wpList_store_mid rfl 30 (.tmp 6) (.tmp 69) rfl (w.heap.size + 1) 0 (plC p9 P').toArray (by rfl) (by rfl) (there_row17 PX9.out (show 0 + 13 ≤ 13 by decide)) pl_info (plC_one _ _) ?_
             show wpList _ _ _ _ _ (X9.setCells (w.heap.size + 1) 0 (plC p9 P'))
             have PY := Lib.hid (set_fresh17 (p := p9) (P := P') PX9.out rfl)
             have OY := Lib.hid (own_box17 OF9.out PX9.out 0 (plC p9 P'))
             have FY := Lib.hid (FX9.out.box PX9.out (by omega) 0 (plC p9 P'))
             have RNY := Lib.hid (rows_box17 (i := 0) PX9.out (by decide) RF9.out (plC p9 P'))
             generalize X9.setCells (w.heap.size + 1) 0 (plC p9 P') = Y1 at PY OY FY RNY ⊢
             obtain ⟨xs9, hxs9⟩ := FY.out.nts
             have RXS := Lib.hid hxs9
             clear hxs9)
          | (at_builtin
             refine wpList_app16 rfl (.tmp 70) (.tmp 71) 35 rfl (w.heap.size + 3) 51 j0 _ 4 48 Tryz.underlying35 JI.out JZ0.out JZ1.out JZ2.out rfl (by omega) u9 nN xs9 (by rfl) RXS.out qu nM cu (rowC encN NN) (by rfl) (by rw [rowC_length encN_len, HNM.out]) (fun h0 => rows_flat (rows_own encN_len RNY.out) (by rw [HNM.out]; exact h0)) (rowC_oneCell encN_one _) (by unfold maxLen; omega) (by omega) FY.out.hi ?_
             intro v9' Y2 o9 hg9
             have FZ := Lib.hid (FY.out.note (by omega) hg9 o9)
             have PZ := Lib.hid (FY.out.note_keep hg9 (by decide) PY.out)
             have OZ := Lib.hid (own_typ17 OY.out (fun k cs t fz h1 h2 h3 hk => FY.out.note_keep hg9 h1 hk))
             clear o9 hg9))
        clear RXS f0 f1 f2 f3 f4 f5 f6 f7 f8 f9 f10 f11 f12
        have CXY := Lib.hid ((FZ.out.bel.cell HGA.out).trans CX0.out)
        have hjs : jn = 0 ∨ jn = 1 ∨ jn = 2 ∨ jn = 3 := by omega
        have hq0 := FZ.out.l0
        have hq1 := FZ.out.l1
        have hm0 := vals_len 0 L k
        have hm1 := vals_len 1 L k
        rw [← hq0] at hm0
        rw [← hq1] at hm1
        have hm0 : n0 ≤ 20 := by omega
        have hm1 : n1 ≤ 20 := by omega
        clear hq0 hq1
        rcases hjs with rfl | rfl | rfl | rfl
        · have HV0 := Lib.hid (show valsK 0 L (k + 1) = valsK 0 L k ++ [x] by rw [valsK_step HLX.out]; simp)
          have HV1 := Lib.hid (show valsK 1 L (k + 1) = valsK 1 L k by rw [valsK_step HLX.out]; simp)
          go_wp2_with fail
          have SK := Lib.hid (fun (Y : World) (b : Below Y2.heap.size Y2 Y) => (show (fun w' => w'.cell? ⟨ga, oa + k, none⟩ = some (.string x)) Y from (b.cell (World.block_lt_of_cell? _ _ CXY.out)).trans CXY.out))
          refine key18 (F := fun X g c _ => FV w w.heap.size (w.heap.size + 1 + 1) (w.heap.size + 3) ((valsK 0 L k) ++ [x]) (valsK 1 L k) (nN + nM) v9' (some ⟨g, 0, none⟩) (n0 + 1) c q1 n1 c1 X ∧ X.heap[(w.heap.size + 1)]? = some (.cells (plC p9 P').toArray 30 (0, 0)) ∧ OwnP (w.heap.size + 3) X p9 P') (R := ?R180) ?h180 ?k180
          case h180 =>
            intro KEY
            refine wp_region_held_drew (S := (fun w' => w'.cell? ⟨ga, oa + k, none⟩ = some (.string x))) (by kernel_rfl) ?_ (fun hHeld => ?_)
            · exact SK.out _ (Below.refl _ _).drew
            obtain ⟨Y2d, hY⟩ : ∃ Y, Y = Y2.drew := ⟨_, rfl⟩
            have BC := Lib.hid (show Below Y2.heap.size Y2 Y2d from hY ▸ (Below.refl _ _).drew)
            have FC := Lib.hid (FZ.out.on BC.out)
            have PC := Lib.hid (blk_on PZ.out BC.out)
            have OC := Lib.hid (OZ.out.on BC.out)
            rw [← hY] at hHeld ⊢
            clear hY
            refine take_op2 (i := 0) (v := ?_) rfl (by kernel_rfl) (by kernel_rfl) (by kernel_rfl) (fun _ _ _ h => h) (Or.inl ⟨wanted_plain rfl, ?_⟩) (by assumption) ?_
            rotate_left
            · (intro w hSw; (try dsimp only at hSw); go_simp; try with_reducible rfl)
            intro act_ hact_; simp only [Act.put, List.setIfInBounds_toArray, List.set_cons_zero, List.set_cons_succ] at hact_; subst hact_
            refine take_op2 (i := 1) (v := ?_) rfl (by kernel_rfl) (by kernel_rfl) (by kernel_rfl) (fun _ _ _ h => h) (Or.inl ⟨wanted_plain rfl, ?_⟩) (by assumption) ?_
            rotate_left
            · (intro w hSw; (try dsimp only at hSw); go_simp; try with_reducible rfl)
            intro act_ hact_; simp only [Act.put, List.setIfInBounds_toArray, List.set_cons_zero, List.set_cons_succ] at hact_; subst hact_
            refine take_op2 (i := 2) (v := ?_) rfl (by kernel_rfl) (by kernel_rfl) (by kernel_rfl) (fun _ _ _ h => h) (Or.inl ⟨wanted_plain rfl, ?_⟩) (by assumption) ?_
            rotate_left
            · (intro w hSw; (try dsimp only at hSw); go_simp; try with_reducible rfl)
            intro act_ hact_; simp only [Act.put, List.setIfInBounds_toArray, List.set_cons_zero, List.set_cons_succ] at hact_; subst hact_
            refine take_op2 (i := 4) (v := ?_) rfl (by kernel_rfl) (by kernel_rfl) (by kernel_rfl) (fun _ _ _ h => h) (Or.inl ⟨wanted_plain rfl, ?_⟩) (by assumption) ?_
            rotate_left
            · (intro w hSw; (try dsimp only at hSw); go_simp; try with_reducible rfl)
            intro act_ hact_; simp only [Act.put, List.setIfInBounds_toArray, List.set_cons_zero, List.set_cons_succ] at hact_; subst hact_
            refine take_op2 (i := 5) (v := ?_) rfl (by kernel_rfl) (by kernel_rfl) (by kernel_rfl) (fun _ _ _ h => h) (Or.inl ⟨wanted_plain rfl, ?_⟩) (by assumption) ?_
            rotate_left
            · (intro w hSw; (try dsimp only at hSw); go_simp; try with_reducible rfl)
            intro act_ hact_; simp only [Act.put, List.setIfInBounds_toArray, List.set_cons_zero, List.set_cons_succ] at hact_; subst hact_
            refine take_op2 (i := 6) (v := ?_) rfl (by kernel_rfl) (by kernel_rfl) (by kernel_rfl) (fun _ _ _ h => h) (Or.inl ⟨wanted_plain rfl, ?_⟩) (by assumption) ?_
            rotate_left
            · (intro w hSw; (try dsimp only at hSw); go_simp; try with_reducible rfl)
            intro act_ hact_; simp only [Act.put, List.setIfInBounds_toArray, List.set_cons_zero, List.set_cons_succ] at hact_; subst hact_
            refine take_op2 (i := 7) (v := ?_) rfl (by kernel_rfl) (by kernel_rfl) (by kernel_rfl) (fun _ _ _ h => h) (Or.inl ⟨wanted_plain rfl, ?_⟩) (by assumption) ?_
            rotate_left
            · (intro w hSw; (try dsimp only at hSw); go_simp; try with_reducible rfl)
            intro act_ hact_; simp only [Act.put, List.setIfInBounds_toArray, List.set_cons_zero, List.set_cons_succ] at hact_; subst hact_
            refine wpAnyH_ready (rs := [3, 8]) (by kernel_rfl) (List.cons_ne_nil _ _) ?_
            refine AllReadyH.cons rfl (fun K hK => ?_) ?_
            · have cv := (cell_of_row Y2d (w.heap.size + 1 + 1) 0 _ _ (0, 0) FC.out.vals).trans (show _ = some (Value.slice q0 n0 c0) from rfl)
              go_simp
              refine hK.out _ _ ?_ (fun hHeld2 => ?_)
              · exact SK.out _ BC.out
              clear hK K
              clear cv
              have hHeld := hHeld2
              clear hHeld2
              refine wpAnyH_ready (rs := [8]) (by kernel_rfl) (List.cons_ne_nil _ _) ?_
              refine AllReadyH.cons rfl (fun K hK => ?_) AllReadyH.nil
              go_simp
              refine hK.out _ _ ?_ (fun hHeld2 => ?_)
              · exact SK.out _ (BC.out.alloc BC.out.size _)
              clear hK K
              obtain ⟨Y3, hN⟩ : ∃ X, X = World.alloc Y2d (.cells #[.string x] 9) := ⟨_, rfl⟩
              have GN1 := Lib.hid (show Y3.heap[Y2d.heap.size]? = some (.cells #[.string x] 9 (0, 0)) from hN ▸ heap_alloc_new Y2d _)
              have SZ3 := Lib.hid (show Y3.heap.size = Y2d.heap.size + 1 by rw [hN, World.size_alloc])
              have BC := Lib.hid (show Below Y2.heap.size Y2 Y3 from hN ▸ BC.out.alloc BC.out.size _)
              have FC := Lib.hid (FZ.out.on BC.out)
              have PC := Lib.hid (blk_on PZ.out BC.out)
              have OC := Lib.hid (OZ.out.on BC.out)
              rw [← hN] at hHeld2 ⊢
              obtain ⟨gB, hgB⟩ : ∃ g, g = Y2d.heap.size := ⟨_, rfl⟩
              rw [← hgB] at GN1 ⊢
              clear hN hgB
              have hHeld := hHeld2
              clear hHeld2
              refine wpAnyH_ready (rs := [9]) (by kernel_rfl) (List.cons_ne_nil _ _) ?_
              refine AllReadyH.cons rfl (fun K hK => ?_) AllReadyH.nil
              refine step_append_lies _ (by rfl) (.tmp 78) (.tmp 83) 52 (by rfl) (w.heap.size + 3) 9 t0 _ 1 16 Tryz.underlying52 TI.out TZ0.out TZ1.out TZ2.out rfl (by omega) (.slice q0 n0 c0) n0 (sG (valsK 0 L k)) (by rfl) FC.out.r0 ⟨gB, 0, none⟩ 1 1 [.string x] (by rfl) rfl (World.news_of_block GN1.out) (fun u hu => by simp at hu; subst hu; rfl) (by omega) (by unfold maxLen; omega) (by omega) FC.out.hi Y3.heap.size rfl ?_
              intro g6 c6 Y4 o6 h6 l6 m6
              change K (Act.put _ (some 84) _) _
              simp only [Act.put, List.setIfInBounds_toArray, List.set_cons_zero, List.set_cons_succ]
              have F6 := Lib.hid (FC.out.val0 (m := n0 + 1) (VA' := (valsK 0 L k) ++ [x]) (by omega) (by omega) (by omega) h6 (by rw [sG_app]; exact o6) (by rw [List.length_append, FC.out.l0]; rfl) l6)
              have V6 := Lib.hid (row_keep17 FC.out.r0 h6 (by decide) FC.out.vals)
              have P6 := Lib.hid (row_keep17 FC.out.r0 h6 (by decide) PC.out)
              have O6 := Lib.hid (own_typ17 OC.out (fun k cs t fz h1 h2 h3 hk => row_keep17 FC.out.r0 h6 h2 hk))
              have B6 := Lib.hid (fun (gg : Nat) (hgg : gg < w.heap.size) (cs : Nat) (v : Value) (hc : Y3.cell? ⟨gg, cs, none⟩ = some v) => (show Y4.cell? ⟨gg, cs, none⟩ = some v from (World.cell?_of_block (a := ⟨gg, cs, none⟩) (h6.block gg (by have := FC.out.hi; omega) (fun e => by have := (FC.out.r0.lt gg e.symm).1; omega))).trans hc))
              clear o6 h6 l6 m6
              refine hK.out _ _ ?_ (fun hHeld2 => ?_)
              · exact B6.out ga HGA.out _ _ (SK.out _ BC.out)
              clear hK K
              have hHeld := hHeld2
              clear hHeld2
              refine take_op2 (i := 10) (v := ?_) rfl (by kernel_rfl) (by kernel_rfl) (by kernel_rfl) (fun _ _ _ h => h) (Or.inl ⟨wanted_plain rfl, ?_⟩) (by assumption) ?_
              rotate_left
              · (intro w hSw; (try dsimp only at hSw); go_simp; try with_reducible rfl)
              intro act_ hact_; simp only [Act.put, List.setIfInBounds_toArray, List.set_cons_zero, List.set_cons_succ] at hact_; subst hact_
              refine wpAnyH_ready (rs := [11]) (by kernel_rfl) (List.cons_ne_nil _ _) ?_
              refine AllReadyH.cons rfl (fun K hK => ?_) AllReadyH.nil
              have cw := (cell_of_row Y4 (w.heap.size + 1 + 1) 0 _ _ (0, 0) V6.out).trans (show _ = some (Value.slice q0 n0 c0) from rfl)
              have cf := frozen_of_row Y4 (w.heap.size + 1 + 1) 0 _ _ V6.out
              go_simp
              refine hK.out _ _ ?_ (fun hHeld2 => ?_)
              · exact (World.cell?_of_block (a := ⟨ga, oa + k, none⟩) (heap_setCell_other Y4 ⟨(w.heap.size + 1 + 1), 0, none⟩ ga _ (by show ga ≠ w.heap.size + 1 + 1; have := HGA.out; omega))).trans (B6.out ga HGA.out _ _ (SK.out _ BC.out))
              clear hK K
              clear cw cf
              have hHeld := hHeld2
              clear hHeld2
              refine wpAnyH_done (by kernel_rfl) ?_ _
              have F7 := F6
              have P7 := Lib.hid ((heap_setCell_other Y4 ⟨(w.heap.size + 1 + 1), 0, none⟩ (w.heap.size + 1) (.slice (some ⟨g6, 0, none⟩) (n0 + 1) c6) (by show w.heap.size + 1 ≠ w.heap.size + 1 + 1; omega)).trans P6.out)
              have O7 := Lib.hid (own_typ17 O6.out (fun k cs t fz h1 h2 h3 hk => (heap_setCell_other Y4 ⟨(w.heap.size + 1 + 1), 0, none⟩ k (.slice (some ⟨g6, 0, none⟩) (n0 + 1) c6) (ne_type16 hk V6.out h3)).trans hk))
              generalize Y4.setCell ⟨(w.heap.size + 1 + 1), 0, none⟩ (.slice (some ⟨g6, 0, none⟩) (n0 + 1) c6) = Z at F7 P7 O7 ⊢
              exact KEY Z g6 c6 gB ⟨F7.out, P7.out, O7.out⟩
            refine AllReadyH.cons rfl (fun K hK => ?_) ?_
            · go_simp
              refine hK.out _ _ ?_ (fun hHeld2 => ?_)
              · exact SK.out _ (BC.out.alloc BC.out.size _)
              clear hK K
              obtain ⟨Y3, hN⟩ : ∃ X, X = World.alloc Y2d (.cells #[.string x] 9) := ⟨_, rfl⟩
              have GN1 := Lib.hid (show Y3.heap[Y2d.heap.size]? = some (.cells #[.string x] 9 (0, 0)) from hN ▸ heap_alloc_new Y2d _)
              have SZ3 := Lib.hid (show Y3.heap.size = Y2d.heap.size + 1 by rw [hN, World.size_alloc])
              have BC := Lib.hid (show Below Y2.heap.size Y2 Y3 from hN ▸ BC.out.alloc BC.out.size _)
              have FC := Lib.hid (FZ.out.on BC.out)
              have PC := Lib.hid (blk_on PZ.out BC.out)
              have OC := Lib.hid (OZ.out.on BC.out)
              rw [← hN] at hHeld2 ⊢
              obtain ⟨gB, hgB⟩ : ∃ g, g = Y2d.heap.size := ⟨_, rfl⟩
              rw [← hgB] at GN1 ⊢
              clear hN hgB
              have hHeld := hHeld2
              clear hHeld2
              refine wpAnyH_ready (rs := [3]) (by kernel_rfl) (List.cons_ne_nil _ _) ?_
              refine AllReadyH.cons rfl (fun K hK => ?_) AllReadyH.nil
              have cv := (cell_of_row Y3 (w.heap.size + 1 + 1) 0 _ _ (0, 0) FC.out.vals).trans (show _ = some (Value.slice q0 n0 c0) from rfl)
              go_simp
              refine hK.out _ _ ?_ (fun hHeld2 => ?_)
              · exact SK.out _ BC.out
              clear hK K
              clear cv
              have hHeld := hHeld2
              clear hHeld2
              refine wpAnyH_ready (rs := [9]) (by kernel_rfl) (List.cons_ne_nil _ _) ?_
              refine AllReadyH.cons rfl (fun K hK => ?_) AllReadyH.nil
              refine step_append_lies _ (by rfl) (.tmp 78) (.tmp 83) 52 (by rfl) (w.heap.size + 3) 9 t0 _ 1 16 Tryz.underlying52 TI.out TZ0.out TZ1.out TZ2.out rfl (by omega) (.slice q0 n0 c0) n0 (sG (valsK 0 L k)) (by rfl) FC.out.r0 ⟨gB, 0, none⟩ 1 1 [.string x] (by rfl) rfl (World.news_of_block GN1.out) (fun u hu => by simp at hu; subst hu; rfl) (by omega) (by unfold maxLen; omega) (by omega) FC.out.hi Y3.heap.size rfl ?_
              intro g6 c6 Y4 o6 h6 l6 m6
              change K (Act.put _ (some 84) _) _
              simp only [Act.put, List.setIfInBounds_toArray, List.set_cons_zero, List.set_cons_succ]
              have F6 := Lib.hid (FC.out.val0 (m := n0 + 1) (VA' := (valsK 0 L k) ++ [x]) (by omega) (by omega) (by omega) h6 (by rw [sG_app]; exact o6) (by rw [List.length_append, FC.out.l0]; rfl) l6)
              have V6 := Lib.hid (row_keep17 FC.out.r0 h6 (by decide) FC.out.vals)
              have P6 := Lib.hid (row_keep17 FC.out.r0 h6 (by decide) PC.out)
              have O6 := Lib.hid (own_typ17 OC.out (fun k cs t fz h1 h2 h3 hk => row_keep17 FC.out.r0 h6 h2 hk))
              have B6 := Lib.hid (fun (gg : Nat) (hgg : gg < w.heap.size) (cs : Nat) (v : Value) (hc : Y3.cell? ⟨gg, cs, none⟩ = some v) => (show Y4.cell? ⟨gg, cs, none⟩ = some v from (World.cell?_of_block (a := ⟨gg, cs, none⟩) (h6.block gg (by have := FC.out.hi; omega) (fun e => by have := (FC.out.r0.lt gg e.symm).1; omega))).trans hc))
              clear o6 h6 l6 m6
              refine hK.out _ _ ?_ (fun hHeld2 => ?_)
              · exact B6.out ga HGA.out _ _ (SK.out _ BC.out)
              clear hK K
              have hHeld := hHeld2
              clear hHeld2
              refine take_op2 (i := 10) (v := ?_) rfl (by kernel_rfl) (by kernel_rfl) (by kernel_rfl) (fun _ _ _ h => h) (Or.inl ⟨wanted_plain rfl, ?_⟩) (by assumption) ?_
              rotate_left
              · (intro w hSw; (try dsimp only at hSw); go_simp; try with_reducible rfl)
              intro act_ hact_; simp only [Act.put, List.setIfInBounds_toArray, List.set_cons_zero, List.set_cons_succ] at hact_; subst hact_
              refine wpAnyH_ready (rs := [11]) (by kernel_rfl) (List.cons_ne_nil _ _) ?_
              refine AllReadyH.cons rfl (fun K hK => ?_) AllReadyH.nil
              have cw := (cell_of_row Y4 (w.heap.size + 1 + 1) 0 _ _ (0, 0) V6.out).trans (show _ = some (Value.slice q0 n0 c0) from rfl)
              have cf := frozen_of_row Y4 (w.heap.size + 1 + 1) 0 _ _ V6.out
              go_simp
              refine hK.out _ _ ?_ (fun hHeld2 => ?_)
              · exact (World.cell?_of_block (a := ⟨ga, oa + k, none⟩) (heap_setCell_other Y4 ⟨(w.heap.size + 1 + 1), 0, none⟩ ga _ (by show ga ≠ w.heap.size + 1 + 1; have := HGA.out; omega))).trans (B6.out ga HGA.out _ _ (SK.out _ BC.out))
              clear hK K
              clear cw cf
              have hHeld := hHeld2
              clear hHeld2
              refine wpAnyH_done (by kernel_rfl) ?_ _
              have F7 := F6
              have P7 := Lib.hid ((heap_setCell_other Y4 ⟨(w.heap.size + 1 + 1), 0, none⟩ (w.heap.size + 1) (.slice (some ⟨g6, 0, none⟩) (n0 + 1) c6) (by show w.heap.size + 1 ≠ w.heap.size + 1 + 1; omega)).trans P6.out)
              have O7 := Lib.hid (own_typ17 O6.out (fun k cs t fz h1 h2 h3 hk => (heap_setCell_other Y4 ⟨(w.heap.size + 1 + 1), 0, none⟩ k (.slice (some ⟨g6, 0, none⟩) (n0 + 1) c6) (ne_type16 hk V6.out h3)).trans hk))
              generalize Y4.setCell ⟨(w.heap.size + 1 + 1), 0, none⟩ (.slice (some ⟨g6, 0, none⟩) (n0 + 1) c6) = Z at F7 P7 O7 ⊢
              exact KEY Z g6 c6 gB ⟨F7.out, P7.out, O7.out⟩
            exact AllReadyH.nil
          case k180 =>
            intro Z gz cz gBz hF
            obtain ⟨fz, pz, oz⟩ := hF
            have FW := Lib.hid fz
            have PW := Lib.hid pz
            have OW := Lib.hid oz
            have CXZ := Lib.hid ((FW.out.bel.cell HGA.out).trans CX0.out)
            clear fz pz oz
            have cxz := CXZ.out
            have HFV := Lib.hid (fun (X : World) (h : FV w w.heap.size (w.heap.size + 1 + 1) (w.heap.size + 3) (valsK 0 L k ++ [x]) (valsK 1 L k) (nN + nM) v9' (some ⟨gz, 0, none⟩) (n0 + 1) cz q1 n1 c1 X) => (show FV w w.heap.size (w.heap.size + 1 + 1) (w.heap.size + 3) (valsK 0 L (k + 1)) (valsK 1 L (k + 1)) (runK L (k + 1)).2.length v9' (some ⟨gz, 0, none⟩) (n0 + 1) cz q1 n1 c1 X from by rw [HV0.out, HV1.out, HRN.out]; simpa using h))
            have HDN := Lib.hid (show denyK L (k + 1) = denyK L k by rw [denyK_step HLX.out]; exact if_neg (fun h => by have h1 := h.1; simp at h1))
            go_wp2_with (first
                | (go_at_call 15
                   ((with_reducible refine (HER.out Z (HON.out _ _ HG.out FW.out.bel)).mono ?_); rintro e Z9 ⟨rfl, b9⟩)
                   have F9 := Lib.hid (FW.out.on b9)
                   have P9 := Lib.hid (blk_on PW.out b9)
                   have O9 := Lib.hid (OW.out.on b9)
                   clear b9))
            go_roundw
            case rel => exact ⟨k + 1, p9, some ⟨gz, 0, none⟩, n0 + 1, cz, q1, n1, c1, by omega, by rw [HDN.out], by go_num, HFV.out _ F9.out, HPV.out _ _ P9.out, HOV.out _ _ O9.out, HLN1.out⟩
            case measure => first | (simp [intOf]; done) | (simp [intOf]; omega)
        · have HV0 := Lib.hid (show valsK 0 L (k + 1) = valsK 0 L k by rw [valsK_step HLX.out]; simp)
          have HV1 := Lib.hid (show valsK 1 L (k + 1) = valsK 1 L k ++ [x] by rw [valsK_step HLX.out]; simp)
          go_wp2_with fail
          have SK := Lib.hid (fun (Y : World) (b : Below Y2.heap.size Y2 Y) => (show (fun w' => w'.cell? ⟨ga, oa + k, none⟩ = some (.string x)) Y from (b.cell (World.block_lt_of_cell? _ _ CXY.out)).trans CXY.out))
          refine key18 (F := fun X g c _ => FV w w.heap.size (w.heap.size + 1 + 1) (w.heap.size + 3) (valsK 0 L k) ((valsK 1 L k) ++ [x]) (nN + nM) v9' q0 n0 c0 (some ⟨g, 0, none⟩) (n1 + 1) c X ∧ X.heap[(w.heap.size + 1)]? = some (.cells (plC p9 P').toArray 30 (0, 0)) ∧ OwnP (w.heap.size + 3) X p9 P') (R := ?R181) ?h181 ?k181
          case h181 =>
            intro KEY
            refine wp_region_held_drew (S := (fun w' => w'.cell? ⟨ga, oa + k, none⟩ = some (.string x))) (by kernel_rfl) ?_ (fun hHeld => ?_)
            · exact SK.out _ (Below.refl _ _).drew
            obtain ⟨Y2d, hY⟩ : ∃ Y, Y = Y2.drew := ⟨_, rfl⟩
            have BC := Lib.hid (show Below Y2.heap.size Y2 Y2d from hY ▸ (Below.refl _ _).drew)
            have FC := Lib.hid (FZ.out.on BC.out)
            have PC := Lib.hid (blk_on PZ.out BC.out)
            have OC := Lib.hid (OZ.out.on BC.out)
            rw [← hY] at hHeld ⊢
            clear hY
            refine take_op2 (i := 0) (v := ?_) rfl (by kernel_rfl) (by kernel_rfl) (by kernel_rfl) (fun _ _ _ h => h) (Or.inl ⟨wanted_plain rfl, ?_⟩) (by assumption) ?_
            rotate_left
            · (intro w hSw; (try dsimp only at hSw); go_simp; try with_reducible rfl)
            intro act_ hact_; simp only [Act.put, List.setIfInBounds_toArray, List.set_cons_zero, List.set_cons_succ] at hact_; subst hact_
            refine take_op2 (i := 1) (v := ?_) rfl (by kernel_rfl) (by kernel_rfl) (by kernel_rfl) (fun _ _ _ h => h) (Or.inl ⟨wanted_plain rfl, ?_⟩) (by assumption) ?_
            rotate_left
            · (intro w hSw; (try dsimp only at hSw); go_simp; try with_reducible rfl)
            intro act_ hact_; simp only [Act.put, List.setIfInBounds_toArray, List.set_cons_zero, List.set_cons_succ] at hact_; subst hact_
            refine take_op2 (i := 2) (v := ?_) rfl (by kernel_rfl) (by kernel_rfl) (by kernel_rfl) (fun _ _ _ h => h) (Or.inl ⟨wanted_plain rfl, ?_⟩) (by assumption) ?_
            rotate_left
            · (intro w hSw; (try dsimp only at hSw); go_simp; try with_reducible rfl)
            intro act_ hact_; simp only [Act.put, List.setIfInBounds_toArray, List.set_cons_zero, List.set_cons_succ] at hact_; subst hact_
            refine take_op2 (i := 4) (v := ?_) rfl (by kernel_rfl) (by kernel_rfl) (by kernel_rfl) (fun _ _ _ h => h) (Or.inl ⟨wanted_plain rfl, ?_⟩) (by assumption) ?_
            rotate_left
            · (intro w hSw; (try dsimp only at hSw); go_simp; try with_reducible rfl)
            intro act_ hact_; simp only [Act.put, List.setIfInBounds_toArray, List.set_cons_zero, List.set_cons_succ] at hact_; subst hact_
            refine take_op2 (i := 5) (v := ?_) rfl (by kernel_rfl) (by kernel_rfl) (by kernel_rfl) (fun _ _ _ h => h) (Or.inl ⟨wanted_plain rfl, ?_⟩) (by assumption) ?_
            rotate_left
            · (intro w hSw; (try dsimp only at hSw); go_simp; try with_reducible rfl)
            intro act_ hact_; simp only [Act.put, List.setIfInBounds_toArray, List.set_cons_zero, List.set_cons_succ] at hact_; subst hact_
            refine take_op2 (i := 6) (v := ?_) rfl (by kernel_rfl) (by kernel_rfl) (by kernel_rfl) (fun _ _ _ h => h) (Or.inl ⟨wanted_plain rfl, ?_⟩) (by assumption) ?_
            rotate_left
            · (intro w hSw; (try dsimp only at hSw); go_simp; try with_reducible rfl)
            intro act_ hact_; simp only [Act.put, List.setIfInBounds_toArray, List.set_cons_zero, List.set_cons_succ] at hact_; subst hact_
            refine take_op2 (i := 7) (v := ?_) rfl (by kernel_rfl) (by kernel_rfl) (by kernel_rfl) (fun _ _ _ h => h) (Or.inl ⟨wanted_plain rfl, ?_⟩) (by assumption) ?_
            rotate_left
            · (intro w hSw; (try dsimp only at hSw); go_simp; try with_reducible rfl)
            intro act_ hact_; simp only [Act.put, List.setIfInBounds_toArray, List.set_cons_zero, List.set_cons_succ] at hact_; subst hact_
            refine wpAnyH_ready (rs := [3, 8]) (by kernel_rfl) (List.cons_ne_nil _ _) ?_
            refine AllReadyH.cons rfl (fun K hK => ?_) ?_
            · have cv := (cell_of_row Y2d (w.heap.size + 1 + 1) 1 _ _ (0, 0) FC.out.vals).trans (show _ = some (Value.slice q1 n1 c1) from rfl)
              go_simp
              refine hK.out _ _ ?_ (fun hHeld2 => ?_)
              · exact SK.out _ BC.out
              clear hK K
              clear cv
              have hHeld := hHeld2
              clear hHeld2
              refine wpAnyH_ready (rs := [8]) (by kernel_rfl) (List.cons_ne_nil _ _) ?_
              refine AllReadyH.cons rfl (fun K hK => ?_) AllReadyH.nil
              go_simp
              refine hK.out _ _ ?_ (fun hHeld2 => ?_)
              · exact SK.out _ (BC.out.alloc BC.out.size _)
              clear hK K
              obtain ⟨Y3, hN⟩ : ∃ X, X = World.alloc Y2d (.cells #[.string x] 9) := ⟨_, rfl⟩
              have GN1 := Lib.hid (show Y3.heap[Y2d.heap.size]? = some (.cells #[.string x] 9 (0, 0)) from hN ▸ heap_alloc_new Y2d _)
              have SZ3 := Lib.hid (show Y3.heap.size = Y2d.heap.size + 1 by rw [hN, World.size_alloc])
              have BC := Lib.hid (show Below Y2.heap.size Y2 Y3 from hN ▸ BC.out.alloc BC.out.size _)
              have FC := Lib.hid (FZ.out.on BC.out)
              have PC := Lib.hid (blk_on PZ.out BC.out)
              have OC := Lib.hid (OZ.out.on BC.out)
              rw [← hN] at hHeld2 ⊢
              obtain ⟨gB, hgB⟩ : ∃ g, g = Y2d.heap.size := ⟨_, rfl⟩
              rw [← hgB] at GN1 ⊢
              clear hN hgB
              have hHeld := hHeld2
              clear hHeld2
              refine wpAnyH_ready (rs := [9]) (by kernel_rfl) (List.cons_ne_nil _ _) ?_
              refine AllReadyH.cons rfl (fun K hK => ?_) AllReadyH.nil
              refine step_append_lies _ (by rfl) (.tmp 78) (.tmp 83) 52 (by rfl) (w.heap.size + 3) 9 t0 _ 1 16 Tryz.underlying52 TI.out TZ0.out TZ1.out TZ2.out rfl (by omega) (.slice q1 n1 c1) n1 (sG (valsK 1 L k)) (by rfl) FC.out.r1 ⟨gB, 0, none⟩ 1 1 [.string x] (by rfl) rfl (World.news_of_block GN1.out) (fun u hu => by simp at hu; subst hu; rfl) (by omega) (by unfold maxLen; omega) (by omega) FC.out.hi Y3.heap.size rfl ?_
              intro g6 c6 Y4 o6 h6 l6 m6
              change K (Act.put _ (some 84) _) _
              simp only [Act.put, List.setIfInBounds_toArray, List.set_cons_zero, List.set_cons_succ]
              have F6 := Lib.hid (FC.out.val1 (m := n1 + 1) (VB' := (valsK 1 L k) ++ [x]) (by omega) (by omega) (by omega) h6 (by rw [sG_app]; exact o6) (by rw [List.length_append, FC.out.l1]; rfl) l6)
              have V6 := Lib.hid (row_keep17 FC.out.r1 h6 (by decide) FC.out.vals)
              have P6 := Lib.hid (row_keep17 FC.out.r1 h6 (by decide) PC.out)
              have O6 := Lib.hid (own_typ17 OC.out (fun k cs t fz h1 h2 h3 hk => row_keep17 FC.out.r1 h6 h2 hk))
              have B6 := Lib.hid (fun (gg : Nat) (hgg : gg < w.heap.size) (cs : Nat) (v : Value) (hc : Y3.cell? ⟨gg, cs, none⟩ = some v) => (show Y4.cell? ⟨gg, cs, none⟩ = some v from (World.cell?_of_block (a := ⟨gg, cs, none⟩) (h6.block gg (by have := FC.out.hi; omega) (fun e => by have := (FC.out.r1.lt gg e.symm).1; omega))).trans hc))
              clear o6 h6 l6 m6
              refine hK.out _ _ ?_ (fun hHeld2 => ?_)
              · exact B6.out ga HGA.out _ _ (SK.out _ BC.out)
              clear hK K
              have hHeld := hHeld2
              clear hHeld2
              refine take_op2 (i := 10) (v := ?_) rfl (by kernel_rfl) (by kernel_rfl) (by kernel_rfl) (fun _ _ _ h => h) (Or.inl ⟨wanted_plain rfl, ?_⟩) (by assumption) ?_
              rotate_left
              · (intro w hSw; (try dsimp only at hSw); go_simp; try with_reducible rfl)
              intro act_ hact_; simp only [Act.put, List.setIfInBounds_toArray, List.set_cons_zero, List.set_cons_succ] at hact_; subst hact_
              refine wpAnyH_ready (rs := [11]) (by kernel_rfl) (List.cons_ne_nil _ _) ?_
              refine AllReadyH.cons rfl (fun K hK => ?_) AllReadyH.nil
              have cw := (cell_of_row Y4 (w.heap.size + 1 + 1) 1 _ _ (0, 0) V6.out).trans (show _ = some (Value.slice q1 n1 c1) from rfl)
              have cf := frozen_of_row Y4 (w.heap.size + 1 + 1) 1 _ _ V6.out
              go_simp
              refine hK.out _ _ ?_ (fun hHeld2 => ?_)
              · exact (World.cell?_of_block (a := ⟨ga, oa + k, none⟩) (heap_setCell_other Y4 ⟨(w.heap.size + 1 + 1), 1, none⟩ ga _ (by show ga ≠ w.heap.size + 1 + 1; have := HGA.out; omega))).trans (B6.out ga HGA.out _ _ (SK.out _ BC.out))
              clear hK K
              clear cw cf
              have hHeld := hHeld2
              clear hHeld2
              refine wpAnyH_done (by kernel_rfl) ?_ _
              have F7 := F6
              have P7 := Lib.hid ((heap_setCell_other Y4 ⟨(w.heap.size + 1 + 1), 1, none⟩ (w.heap.size + 1) (.slice (some ⟨g6, 0, none⟩) (n1 + 1) c6) (by show w.heap.size + 1 ≠ w.heap.size + 1 + 1; omega)).trans P6.out)
              have O7 := Lib.hid (own_typ17 O6.out (fun k cs t fz h1 h2 h3 hk => (heap_setCell_other Y4 ⟨(w.heap.size + 1 + 1), 1, none⟩ k (.slice (some ⟨g6, 0, none⟩) (n1 + 1) c6) (ne_type16 hk V6.out h3)).trans hk))
              generalize Y4.setCell ⟨(w.heap.size + 1 + 1), 1, none⟩ (.slice (some ⟨g6, 0, none⟩) (n1 + 1) c6) = Z at F7 P7 O7 ⊢
              exact KEY Z g6 c6 gB ⟨F7.out, P7.out, O7.out⟩
            refine AllReadyH.cons rfl (fun K hK => ?_) ?_
            · go_simp
              refine hK.out _ _ ?_ (fun hHeld2 => ?_)
              · exact SK.out _ (BC.out.alloc BC.out.size _)
              clear hK K
              obtain ⟨Y3, hN⟩ : ∃ X, X = World.alloc Y2d (.cells #[.string x] 9) := ⟨_, rfl⟩
              have GN1 := Lib.hid (show Y3.heap[Y2d.heap.size]? = some (.cells #[.string x] 9 (0, 0)) from hN ▸ heap_alloc_new Y2d _)
              have SZ3 := Lib.hid (show Y3.heap.size = Y2d.heap.size + 1 by rw [hN, World.size_alloc])
              have BC := Lib.hid (show Below Y2.heap.size Y2 Y3 from hN ▸ BC.out.alloc BC.out.size _)
              have FC := Lib.hid (FZ.out.on BC.out)
              have PC := Lib.hid (blk_on PZ.out BC.out)
              have OC := Lib.hid (OZ.out.on BC.out)
              rw [← hN] at hHeld2 ⊢
              obtain ⟨gB, hgB⟩ : ∃ g, g = Y2d.heap.size := ⟨_, rfl⟩
              rw [← hgB] at GN1 ⊢
              clear hN hgB
              have hHeld := hHeld2
              clear hHeld2
              refine wpAnyH_ready (rs := [3]) (by kernel_rfl) (List.cons_ne_nil _ _) ?_
              refine AllReadyH.cons rfl (fun K hK => ?_) AllReadyH.nil
              have cv := (cell_of_row Y3 (w.heap.size + 1 + 1) 1 _ _ (0, 0) FC.out.vals).trans (show _ = some (Value.slice q1 n1 c1) from rfl)
              go_simp
              refine hK.out _ _ ?_ (fun hHeld2 => ?_)
              · exact SK.out _ BC.out
              clear hK K
              clear cv
              have hHeld := hHeld2
              clear hHeld2
              refine wpAnyH_ready (rs := [9]) (by kernel_rfl) (List.cons_ne_nil _ _) ?_
              refine AllReadyH.cons rfl (fun K hK => ?_) AllReadyH.nil
              refine step_append_lies _ (by rfl) (.tmp 78) (.tmp 83) 52 (by rfl) (w.heap.size + 3) 9 t0 _ 1 16 Tryz.underlying52 TI.out TZ0.out TZ1.out TZ2.out rfl (by omega) (.slice q1 n1 c1) n1 (sG (valsK 1 L k)) (by rfl) FC.out.r1 ⟨gB, 0, none⟩ 1 1 [.string x] (by rfl) rfl (World.news_of_block GN1.out) (fun u hu => by simp at hu; subst hu; rfl) (by omega) (by unfold maxLen; omega) (by omega) FC.out.hi Y3.heap.size rfl ?_
              intro g6 c6 Y4 o6 h6 l6 m6
              change K (Act.put _ (some 84) _) _
              simp only [Act.put, List.setIfInBounds_toArray, List.set_cons_zero, List.set_cons_succ]
              have F6 := Lib.hid (FC.out.val1 (m := n1 + 1) (VB' := (valsK 1 L k) ++ [x]) (by omega) (by omega) (by omega) h6 (by rw [sG_app]; exact o6) (by rw [List.length_append, FC.out.l1]; rfl) l6)
              have V6 := Lib.hid (row_keep17 FC.out.r1 h6 (by decide) FC.out.vals)
              have P6 := Lib.hid (row_keep17 FC.out.r1 h6 (by decide) PC.out)
              have O6 := Lib.hid (own_typ17 OC.out (fun k cs t fz h1 h2 h3 hk => row_keep17 FC.out.r1 h6 h2 hk))
              have B6 := Lib.hid (fun (gg : Nat) (hgg : gg < w.heap.size) (cs : Nat) (v : Value) (hc : Y3.cell? ⟨gg, cs, none⟩ = some v) => (show Y4.cell? ⟨gg, cs, none⟩ = some v from (World.cell?_of_block (a := ⟨gg, cs, none⟩) (h6.block gg (by have := FC.out.hi; omega) (fun e => by have := (FC.out.r1.lt gg e.symm).1; omega))).trans hc))
              clear o6 h6 l6 m6
              refine hK.out _ _ ?_ (fun hHeld2 => ?_)
              · exact B6.out ga HGA.out _ _ (SK.out _ BC.out)
              clear hK K
              have hHeld := hHeld2
              clear hHeld2
              refine take_op2 (i := 10) (v := ?_) rfl (by kernel_rfl) (by kernel_rfl) (by kernel_rfl) (fun _ _ _ h => h) (Or.inl ⟨wanted_plain rfl, ?_⟩) (by assumption) ?_
              rotate_left
              · (intro w hSw; (try dsimp only at hSw); go_simp; try with_reducible rfl)
              intro act_ hact_; simp only [Act.put, List.setIfInBounds_toArray, List.set_cons_zero, List.set_cons_succ] at hact_; subst hact_
              refine wpAnyH_ready (rs := [11]) (by kernel_rfl) (List.cons_ne_nil _ _) ?_
              refine AllReadyH.cons rfl (fun K hK => ?_) AllReadyH.nil
              have cw := (cell_of_row Y4 (w.heap.size + 1 + 1) 1 _ _ (0, 0) V6.out).trans (show _ = some (Value.slice q1 n1 c1) from rfl)
              have cf := frozen_of_row Y4 (w.heap.size + 1 + 1) 1 _ _ V6.out
              go_simp
              refine hK.out _ _ ?_ (fun hHeld2 => ?_)
              · exact (World.cell?_of_block (a := ⟨ga, oa + k, none⟩) (heap_setCell_other Y4 ⟨(w.heap.size + 1 + 1), 1, none⟩ ga _ (by show ga ≠ w.heap.size + 1 + 1; have := HGA.out; omega))).trans (B6.out ga HGA.out _ _ (SK.out _ BC.out))
              clear hK K
              clear cw cf
              have hHeld := hHeld2
              clear hHeld2
              refine wpAnyH_done (by kernel_rfl) ?_ _
              have F7 := F6
              have P7 := Lib.hid ((heap_setCell_other Y4 ⟨(w.heap.size + 1 + 1), 1, none⟩ (w.heap.size + 1) (.slice (some ⟨g6, 0, none⟩) (n1 + 1) c6) (by show w.heap.size + 1 ≠ w.heap.size + 1 + 1; omega)).trans P6.out)
              have O7 := Lib.hid (own_typ17 O6.out (fun k cs t fz h1 h2 h3 hk => (heap_setCell_other Y4 ⟨(w.heap.size + 1 + 1), 1, none⟩ k (.slice (some ⟨g6, 0, none⟩) (n1 + 1) c6) (ne_type16 hk V6.out h3)).trans hk))
              generalize Y4.setCell ⟨(w.heap.size + 1 + 1), 1, none⟩ (.slice (some ⟨g6, 0, none⟩) (n1 + 1) c6) = Z at F7 P7 O7 ⊢
              exact KEY Z g6 c6 gB ⟨F7.out, P7.out, O7.out⟩
            exact AllReadyH.nil
          case k181 =>
            intro Z gz cz gBz hF
            obtain ⟨fz, pz, oz⟩ := hF
            have FW := Lib.hid fz
            have PW := Lib.hid pz
            have OW := Lib.hid oz
            have CXZ := Lib.hid ((FW.out.bel.cell HGA.out).trans CX0.out)
            clear fz pz oz
            have cxz := CXZ.out
            have HFV := Lib.hid (fun (X : World) (h : FV w w.heap.size (w.heap.size + 1 + 1) (w.heap.size + 3) (valsK 0 L k) (valsK 1 L k ++ [x]) (nN + nM) v9' q0 n0 c0 (some ⟨gz, 0, none⟩) (n1 + 1) cz X) => (show FV w w.heap.size (w.heap.size + 1 + 1) (w.heap.size + 3) (valsK 0 L (k + 1)) (valsK 1 L (k + 1)) (runK L (k + 1)).2.length v9' q0 n0 c0 (some ⟨gz, 0, none⟩) (n1 + 1) cz X from by rw [HV0.out, HV1.out, HRN.out]; simpa using h))
            have HDN := Lib.hid (show denyK L (k + 1) = denyK L k by rw [denyK_step HLX.out]; exact if_neg (fun h => by have h1 := h.1; simp at h1))
            go_wp2_with (first
                | (go_at_call 15
                   ((with_reducible refine (HER.out Z (HON.out _ _ HG.out FW.out.bel)).mono ?_); rintro e Z9 ⟨rfl, b9⟩)
                   have F9 := Lib.hid (FW.out.on b9)
                   have P9 := Lib.hid (blk_on PW.out b9)
                   have O9 := Lib.hid (OW.out.on b9)
                   clear b9))
            go_roundw
            case rel => exact ⟨k + 1, p9, q0, n0, c0, some ⟨gz, 0, none⟩, n1 + 1, cz, by omega, by rw [HDN.out], by go_num, HFV.out _ F9.out, HPV.out _ _ P9.out, HOV.out _ _ O9.out, HLN1.out⟩
            case measure => first | (simp [intOf]; done) | (simp [intOf]; omega)
        · have HV0 := Lib.hid (show valsK 0 L (k + 1) = valsK 0 L k by rw [valsK_step HLX.out]; simp)
          have HV1 := Lib.hid (show valsK 1 L (k + 1) = valsK 1 L k by rw [valsK_step HLX.out]; simp)
          obtain ⟨Z, hZ⟩ : ∃ Z, Z = Y2 := ⟨_, rfl⟩
          have FW := Lib.hid (show FV w w.heap.size (w.heap.size + 1 + 1) (w.heap.size + 3) (valsK 0 L k) (valsK 1 L k) (nN + nM) v9' q0 n0 c0 q1 n1 c1 Z from hZ ▸ FZ.out)
          have PW := Lib.hid (show Z.heap[(w.heap.size + 1)]? = some (.cells (plC p9 P').toArray 30 (0, 0)) from hZ ▸ PZ.out)
          have OW := Lib.hid (show OwnP (w.heap.size + 3) Z p9 P' from hZ ▸ OZ.out)
          have CXZ := Lib.hid ((FW.out.bel.cell HGA.out).trans CX0.out)
          rw [← hZ]
          clear hZ
          have cxz := CXZ.out
          have HFV := Lib.hid (fun (X : World) (h : FV w w.heap.size (w.heap.size + 1 + 1) (w.heap.size + 3) (valsK 0 L k) (valsK 1 L k) (nN + nM) v9' q0 n0 c0 q1 n1 c1 X) => (show FV w w.heap.size (w.heap.size + 1 + 1) (w.heap.size + 3) (valsK 0 L (k + 1)) (valsK 1 L (k + 1)) (runK L (k + 1)).2.length v9' q0 n0 c0 q1 n1 c1 X from by rw [HV0.out, HV1.out, HRN.out]; simpa using h))
          by_cases he0 : (errnoF x).2 = 0
          · have ee := Lib.hid he0
            have HDN := Lib.hid (show denyK L (k + 1) = (errnoF x).1 by rw [denyK_step HLX.out]; exact if_pos ⟨rfl, he0⟩)
            rw [he0] at HER
            clear he0
            go_wp2_with (first
                | (go_at_call 15
                   ((with_reducible refine (HER.out Z (HON.out _ _ HG.out FW.out.bel)).mono ?_); rintro e Z9 ⟨rfl, b9⟩)
                   have F9 := Lib.hid (FW.out.on b9)
                   have P9 := Lib.hid (blk_on PW.out b9)
                   have O9 := Lib.hid (OW.out.on b9)
                   clear b9))
            go_roundw
            case rel => exact ⟨k + 1, p9, q0, n0, c0, q1, n1, c1, by omega, by rw [HDN.out], by go_num, HFV.out _ F9.out, HPV.out _ _ P9.out, HOV.out _ _ O9.out, HLN1.out⟩
            case measure => first | (simp [intOf]; done) | (simp [intOf]; omega)
          · have e0 : ((errnoF x).2 == 0) = false := beq_eq_false_iff_ne.2 he0
            have HDN := Lib.hid (show denyK L (k + 1) = denyK L k by rw [denyK_step HLX.out]; exact if_neg (fun h => he0 h.2))
            obtain ⟨ev, hev⟩ : ∃ ev, ev = (errnoF x).2 := ⟨_, rfl⟩
            rw [← hev] at e0 HER
            clear he0 hev
            go_wp2_with (first
                | (go_at_call 15
                   ((with_reducible refine (HER.out Z (HON.out _ _ HG.out FW.out.bel)).mono ?_); rintro e Z9 ⟨rfl, b9⟩)
                   have F9 := Lib.hid (FW.out.on b9)
                   have P9 := Lib.hid (blk_on PW.out b9)
                   have O9 := Lib.hid (OW.out.on b9)
                   clear b9))
            go_roundw
            case rel => exact ⟨k + 1, p9, q0, n0, c0, q1, n1, c1, by omega, by rw [HDN.out], by go_num, HFV.out _ F9.out, HPV.out _ _ P9.out, HOV.out _ _ O9.out, HLN1.out⟩
            case measure => first | (simp [intOf]; done) | (simp [intOf]; omega)
        · have HV0 := Lib.hid (show valsK 0 L (k + 1) = valsK 0 L k by rw [valsK_step HLX.out]; simp)
          have HV1 := Lib.hid (show valsK 1 L (k + 1) = valsK 1 L k by rw [valsK_step HLX.out]; simp)
          obtain ⟨Z, hZ⟩ : ∃ Z, Z = Y2 := ⟨_, rfl⟩
          have FW := Lib.hid (show FV w w.heap.size (w.heap.size + 1 + 1) (w.heap.size + 3) (valsK 0 L k) (valsK 1 L k) (nN + nM) v9' q0 n0 c0 q1 n1 c1 Z from hZ ▸ FZ.out)
          have PW := Lib.hid (show Z.heap[(w.heap.size + 1)]? = some (.cells (plC p9 P').toArray 30 (0, 0)) from hZ ▸ PZ.out)
          have OW := Lib.hid (show OwnP (w.heap.size + 3) Z p9 P' from hZ ▸ OZ.out)
          have CXZ := Lib.hid ((FW.out.bel.cell HGA.out).trans CX0.out)
          rw [← hZ]
          clear hZ
          have cxz := CXZ.out
          have HFV := Lib.hid (fun (X : World) (h : FV w w.heap.size (w.heap.size + 1 + 1) (w.heap.size + 3) (valsK 0 L k) (valsK 1 L k) (nN + nM) v9' q0 n0 c0 q1 n1 c1 X) => (show FV w w.heap.size (w.heap.size + 1 + 1) (w.heap.size + 3) (valsK 0 L (k + 1)) (valsK 1 L (k + 1)) (runK L (k + 1)).2.length v9' q0 n0 c0 q1 n1 c1 X from by rw [HV0.out, HV1.out, HRN.out]; simpa using h))
          have HDN := Lib.hid (show denyK L (k + 1) = denyK L k by rw [denyK_step HLX.out]; exact if_neg (fun h => by have h1 := h.1; simp at h1))
          go_wp2_with (first
              | (go_at_call 15
                 ((with_reducible refine (HER.out Z (HON.out _ _ HG.out FW.out.bel)).mono ?_); rintro e Z9 ⟨rfl, b9⟩)
                 have F9 := Lib.hid (FW.out.on b9)
                 have P9 := Lib.hid (blk_on PW.out b9)
                 have O9 := Lib.hid (OW.out.on b9)
                 clear b9))
          go_roundw
          case rel => exact ⟨k + 1, p9, q0, n0, c0, q1, n1, c1, by omega, by rw [HDN.out], by go_num, HFV.out _ F9.out, HPV.out _ _ P9.out, HOV.out _ _ O9.out, HLN1.out⟩
          case measure => first | (simp [intOf]; done) | (simp [intOf]; omega)
    · obtain rfl : len0 = k := by omega
      have kk : ¬ (len0 : Int) < len0 := by omega
      have cv0 := (cell_of_row V (w.heap.size + 1 + 1) 0 _ _ (0, 0) FR.out.vals).trans (show _ = some (Value.slice q0 n0 c0) from rfl)
      have hru := run_is L HLT.out len0
      have hsz : ∀ (j : Nat) (v : ByteArray), v ∈ valsK j L len0 → v.size ≤ 1000 := fun j v hv => by
        obtain ⟨i, x, hi, hx, rfl⟩ := vals_mem hv
        obtain ⟨s, b, hs, _, rfl⟩ := itm_at HLL.out hx
        have := HLN.out i s hi hs
        show s.size ≤ 1000
        omega
      have HFA := Lib.hid (fun (X : World) (r : X.ownsRow (w.heap.size + 3) 9 1 (.slice q0 n0 c0) n0 (sG (valsK 0 L len0))) (g : G X) => HC.fold (.slice q0 n0 c0) (valsK 0 L len0) true X g (strs_of_own17 r FR.out.l0) (Nat.le_trans (vals_len 0 L len0) (by omega)) (hsz 0))
      have HFB := Lib.hid (fun (X : World) (r : X.ownsRow (w.heap.size + 3) 9 1 (.slice q1 n1 c1) n1 (sG (valsK 1 L len0))) (g : G X) => HC.fold (.slice q1 n1 c1) (valsK 1 L len0) false X g (strs_of_own17 r FR.out.l1) (Nat.le_trans (vals_len 1 L len0) (by omega)) (hsz 1))
      obtain ⟨A, hA⟩ : ∃ A, A = foldT true (valsK 0 L len0) := ⟨_, rfl⟩
      obtain ⟨Bb, hBb⟩ : ∃ A, A = foldT false (valsK 1 L len0) := ⟨_, rfl⟩
      have okA : Okl knownR A.1.1 A.1.2 := by rw [hA]; exact foldK_ok _ _ _
      have okB : Okl knownR Bb.1.1 Bb.1.2 := by rw [hBb]; exact foldK_ok _ _ _
      have lenA := okl_le okA
      have lenB := okl_le okB
      have hns := run_nts L HLT.out len0 (fun i x hi hx => by
        obtain ⟨s, b, hs, _, rfl⟩ := itm_at HLL.out hx
        have := HLN.out i s hi hs
        show s.size ≤ 1000
        omega)
      have hbk := badK_le17 L len0
      rw [← hA, ← hBb] at hru
      rw [show foldK true (valsK 0 L len0) (valsK 0 L len0).length = A from hA.symm] at HFA
      rw [show foldK false (valsK 1 L len0) (valsK 1 L len0).length = Bb from hBb.symm] at HFB
      unfold lsV at HFA HFB
      obtain ⟨mA, hmA⟩ : ∃ a : Int, a = (A.1.1 : Nat) := ⟨_, rfl⟩
      obtain ⟨mB, hmB⟩ : ∃ a : Int, a = (Bb.1.1 : Nat) := ⟨_, rfl⟩
      rw [← hmA] at HFA
      rw [← hmB] at HFB
      obtain ⟨P, hP⟩ : ∃ P, P = (runK L len0).1 := ⟨_, rfl⟩
      rw [← hP] at hru PR OR_
      have HMA := Lib.hid (show mA = (P.fl.1 : Nat) by rw [hru.1]; exact hmA)
      have HMB := Lib.hid (show mB = (P.lg.1 : Nat) by rw [hru.1]; exact hmB)
      obtain ⟨dn, hdn⟩ : ∃ d : Int, d = (denyK L len0 : Nat) := ⟨_, rfl⟩
      rw [← hdn]
      have HDN := Lib.hid (show dn = (P.dn : Nat) by rw [hru.1]; exact hdn)
      have HFL1 := Lib.hid (show P.fl.1 = A.1.1 by rw [hru.1])
      have HLG1 := Lib.hid (show P.lg.1 = Bb.1.1 by rw [hru.1])
      have HFL := Lib.hid (show P.fl.2 = A.1.2 by rw [hru.1])
      have HLG := Lib.hid (show P.lg.2 = Bb.1.2 by rw [hru.1])
      obtain ⟨n9, hn9⟩ : ∃ n, n = (runK L len0).2.length := ⟨_, rfl⟩
      rw [← hn9] at hru hns FR
      obtain ⟨nAn, hnAn⟩ : ∃ n, n = A.2.length := ⟨_, rfl⟩
      obtain ⟨nBn, hnBn⟩ : ∃ n, n = Bb.2.length := ⟨_, rfl⟩
      have HSUM := Lib.hid (show n9 = nAn + nBn + badK L len0 from by rw [hnAn, hnBn]; exact hru.2)
      have HNA9 := Lib.hid hnAn
      have HNB9 := Lib.hid hnBn
      have hs9 : nAn + nBn + badK L len0 ≤ 20000 := by have := HSUM.out; omega
      obtain ⟨xs9, hxs9⟩ := FR.out.nts
      obtain ⟨q9, c9, hq9⟩ := own_form16 hxs9
      subst hq9
      clear hru hsz hA hBb okA okB hmA hmB hP hdn hn9 hnAn hnBn hxs9
      go_wp2_with (first
        | (go_at_call 21
           ((with_reducible refine (HFA.out V FR.out.r0 (HON.out _ _ HG.out FR.out.bel)).mono ?_); rintro e X1 ⟨qA, nA, cA, vA, rfl, hnA, lA, rA, b⟩)
           obtain ⟨qnA, cnA, hqA, _⟩ := rA
           rw [List.length_map] at hqA
           subst hqA
           have HNA := Lib.hid hnA
           have LSA := Lib.hid lA
           have B1 := Lib.hid (show Below V.heap.size V (World.alloc X1 (.cells #[.int .u8 mA, .slice qA nA cA] 25)) from b.alloc b.size _)
           have F1 := Lib.hid (FR.out.on B1.out)
           have BA1 := Lib.hid (heap_alloc_new X1 (.cells #[.int .u8 mA, .slice qA nA cA] 25))
           have cv1 := (cell_of_row (World.alloc X1 (.cells #[.int .u8 mA, .slice qA nA cA] 25)) (w.heap.size + 1 + 1) 1 _ _ (0, 0) F1.out.vals).trans (show _ = some (Value.slice q1 n1 c1) from rfl)
           have SA1 := Lib.hid (show V.heap.size ≤ X1.heap.size from b.size)
           clear b hnA lA)
        | (go_at_call 21
           ((with_reducible refine (HFB.out (World.alloc X1 (.cells #[.int .u8 mA, .slice qA nA cA] 25)) F1.out.r1 (HON.out _ _ HG.out F1.out.bel)).mono ?_); rintro e X3 ⟨qB, nB, cB, vB, rfl, hnB, lB, rB, b⟩)
           obtain ⟨qnB, cnB, hqB, _⟩ := rB
           rw [List.length_map] at hqB
           subst hqB
           have HNB := Lib.hid hnB
           have LSB := Lib.hid lB
           have B3 := Lib.hid (show Below V.heap.size V (World.alloc X3 (.cells #[.int .u8 mB, .slice qB nB cB] 25)) from (B1.out.trans ((b.alloc b.size _).mono B1.out.size)))
           have BA3 := Lib.hid (blk_on BA1.out (b.alloc b.size (.cells #[.int .u8 mB, .slice qB nB cB] 25)))
           have LA3 := Lib.hid (LSA.out.on ((below16 X1 (.cells #[.int .u8 mA, .slice qA nA cA] 25)).trans ((b.alloc b.size (.cells #[.int .u8 mB, .slice qB nB cB] 25)).mono (by rw [World.size_alloc]; exact Nat.le_succ _))))
           have BB3 := Lib.hid (heap_alloc_new X3 (.cells #[.int .u8 mB, .slice qB nB cB] 25))
           have LB3 := Lib.hid (LSB.out.on (below16 X3 (.cells #[.int .u8 mB, .slice qB nB cB] 25)))
           clear b hnB lB cv1))
      rw [← HNA9.out, ← HNB9.out]
      obtain ⟨gA, hgA⟩ : ∃ g, g = X1.heap.size := ⟨_, rfl⟩
      obtain ⟨gB, hgB⟩ : ∃ g, g = X3.heap.size := ⟨_, rfl⟩
      rw [← hgB] at BB3 ⊢
      rw [← hgA] at BA3 ⊢
      obtain ⟨W2, hW2⟩ : ∃ W, W = (World.alloc X3 (.cells #[.int .u8 mB, .slice qB nB cB] 25)) := ⟨_, rfl⟩
      rw [← hW2] at B3 BA3 LA3 BB3 LB3 ⊢
      have BV2 := Lib.hid (thn16 FR.out.bel B3.out)
      have PW2 := Lib.hid (blk_on PR.out B3.out)
      have OW2 := Lib.hid (OR_.out.on B3.out)
      have BA2 := BA3
      have BB2 := BB3
      have LA2 := LA3
      have LB2 := LB3
      have HQF := Lib.hid (show q.fn = nA by rw [OR_.out.fl, HFL.out]; exact HNA.out.symm)
      have HQG := Lib.hid (show q.ln = nB by rw [OR_.out.ll, HLG.out]; exact HNB.out.symm)
      have HSA := Lib.hid (fun (X : World) (h : LsAt X q.fq P.fl.2) (h' : LsAt X qA A.1.2) => sameLists17 A.1.1 q.fq qA nA q.fc cA A.1.2 X HNA.out.symm (by have := HNA.out; omega) (HFL.out ▸ h) h')
      have HSB := Lib.hid (fun (X : World) (h : LsAt X q.lq P.lg.2) (h' : LsAt X qB Bb.1.2) => sameLists17 Bb.1.1 q.lq qB nB q.lc cB Bb.1.2 X HNB.out.symm (by have := HNB.out; omega) (HLG.out ▸ h) h')
      unfold lsV at HSA HSB
      rw [show ((A.1.1 : Nat) : Int) = mA by rw [HMA.out, ← HFL1.out]] at HSA
      rw [show ((Bb.1.1 : Nat) : Int) = mB by rw [HMB.out, ← HLG1.out]] at HSB
      clear hW2 hgA hgB cv0
      go_wp2_with fail
      have BZ0 := Lib.hid (Below.refl W2.heap.size W2)
      go_loopw [20, 21] (fun v20 v21 wr => ∃ k : Nat, k ≤ len0 ∧ v20 = .int .i64 (badK L k : Nat) ∧ v21 = .int .i64 k ∧ Hid (Below W2.heap.size W2 wr)) (fun _ v21 _ => len0 - (intOf v21).toNat)
      case atStart => exact ⟨0, Nat.zero_le _, rfl, rfl, BZ0⟩
      case round =>
        clear BZ0
        obtain ⟨k, hk, rfl, rfl, BZ⟩ := hrel
        obtain ⟨V2, rfl⟩ : ∃ wo : World, wo = wr := ⟨_, rfl⟩
        by_cases hlt : k < len0
        · have hx : z0[k]? = some (z0[k]'(by rw [HZ0.out]; exact hlt)) := List.getElem?_eq_getElem _
          obtain ⟨x, hxe⟩ : ∃ e, e = z0[k]'(by rw [HZ0.out]; exact hlt) := ⟨_, rfl⟩
          rw [← hxe] at hx
          obtain ⟨ga, oa, rfl, hga, hca⟩ := HA0.out (by omega)
          have hcx := hca k x hx
          obtain ⟨gb, ob, rfl, hgb, hcb⟩ := HA1.out (by omega)
          have hy : z1[k]? = some (z1[k]'(by have := HZ1.out; omega)) := List.getElem?_eq_getElem _
          obtain ⟨y, hye⟩ : ∃ e, e = z1[k]'(by have := HZ1.out; omega) := ⟨_, rfl⟩
          rw [← hye] at hy
          have hcy : w.cell? ⟨gb, ob + k, none⟩ = some (.int .u8 y) := by
            rw [hcb k (by have := HZ1.out; omega)]
            rw [show z1.getD k 0 = y by rw [List.getD_eq_getElem?_getD, hy]; rfl]
          have hyr := HBY.out y (List.mem_of_getElem? hy)
          have CY2 := Lib.hid ((BV2.out.cell hgb).trans hcy)
          have cxa := ((thn16 BV2.out BZ.out).cell hga).trans hcx
          have k1 : (k : Int) < len0 := by omega
          have k2 : (k : Int) < len1 := by omega
          have k0 : (0 : Int) ≤ k := by omega
          have HLX := Lib.hid (show L[k]? = some (y.toNat % 4, x) from by rw [HLL.out]; exact itm_get hx hy)
          have hxs : x.size ≤ 300 := HLN.out k x hlt hx
          obtain ⟨jn, hjn⟩ : ∃ j, j = y.toNat % 4 := ⟨_, rfl⟩
          have htm : y.tmod 4 = (jn : Nat) := by rw [hjn, Int.tmod_eq_emod_of_nonneg hyr.1]; omega
          rw [← hjn] at HLX
          have HER := Lib.hid (fun (X : World) (g : G X) => HC.errno x X g (by omega))
          have hbd := badK_le17 L k
          have HBK := Lib.hid (badK_step HLX.out)
          obtain ⟨ev, hev⟩ : ∃ ev, ev = (errnoF x).2 := ⟨_, rfl⟩
          rw [← hev] at HER HBK
          obtain ⟨bd, hbde⟩ : ∃ b, b = badK L k := ⟨_, rfl⟩
          rw [← hbde] at hbd HBK ⊢
          clear hx hxe hca hcx hcb hy hye hcy hyr hga hgb hjn hev hbde hxs
          by_cases h2 : jn = 2
          · have tb : ((jn : Int) == 2) = true := by rw [h2]; rfl
            by_cases he : ev = 0
            · have te : (ev != 0) = false := by rw [he]; rfl
              have HB2 := Lib.hid (show badK L (k + 1) = bd by rw [HBK.out, if_neg (fun h => h.2 he), Nat.add_zero])
              clear h2 he
              go_wp2_with (first
                  | (go_at_call 15
                     ((with_reducible refine (HER.out V2 (HON.out _ _ HG.out (thn16 BV2.out BZ.out))).mono ?_); rintro e Z9 ⟨rfl, b9⟩)
                     have BZ9 := Lib.hid (thn16 BZ.out b9)
                     have cyb := (BZ9.out.cell (World.block_lt_of_cell? _ _ CY2.out)).trans CY2.out
                     clear b9))
              go_roundw
              case rel => exact ⟨k + 1, by omega, by rw [HB2.out], by go_num, BZ9⟩
              case measure => first | (simp [intOf]; done) | (simp [intOf]; omega)
            · have te : (ev != 0) = true := bne_iff_ne.2 he
              have HB2 := Lib.hid (show badK L (k + 1) = bd + 1 by rw [HBK.out, if_pos ⟨h2, he⟩])
              clear h2 he
              go_wp2_with (first
                  | (go_at_call 15
                     ((with_reducible refine (HER.out V2 (HON.out _ _ HG.out (thn16 BV2.out BZ.out))).mono ?_); rintro e Z9 ⟨rfl, b9⟩)
                     have BZ9 := Lib.hid (thn16 BZ.out b9)
                     have cyb := (BZ9.out.cell (World.block_lt_of_cell? _ _ CY2.out)).trans CY2.out
                     clear b9))
              go_roundw
              case rel => exact ⟨k + 1, by omega, by rw [HB2.out]; go_num, by go_num, BZ9⟩
              case measure => first | (simp [intOf]; done) | (simp [intOf]; omega)
          · have tb : ((jn : Int) == 2) = false := beq_eq_false_iff_ne.2 (by omega)
            have HB2 := Lib.hid (show badK L (k + 1) = bd by rw [HBK.out, if_neg (fun h => h2 h.1), Nat.add_zero])
            clear h2
            go_wp2_with (first
                | (go_at_call 15
                   ((with_reducible refine (HER.out V2 (HON.out _ _ HG.out (thn16 BV2.out BZ.out))).mono ?_); rintro e Z9 ⟨rfl, b9⟩)
                   have BZ9 := Lib.hid (thn16 BZ.out b9)
                   have cyb := (BZ9.out.cell (World.block_lt_of_cell? _ _ CY2.out)).trans CY2.out
                   clear b9))
            go_roundw
            case rel => exact ⟨k + 1, by omega, by rw [HB2.out], by go_num, BZ9⟩
            case measure => first | (simp [intOf]; done) | (simp [intOf]; omega)
        · obtain rfl : len0 = k := by omega
          have kk : ¬ (len0 : Int) < len0 := by omega
          obtain ⟨bd, hbd⟩ : ∃ b, b = badK L len0 := ⟨_, rfl⟩
          rw [← hbd] at HSUM hs9 hbk ⊢
          obtain ⟨nAB, hnAB⟩ : ∃ n, n = nAn + nBn := ⟨_, rfl⟩
          have hw1 : IntKind.i64.wrap ((nAn : Int) + nBn) = (nAB : Nat) := by rw [IntKind.wrap_i64]; omega
          have hw2 : IntKind.i64.wrap ((nAB : Int) + bd) = (n9 : Nat) := by have := HSUM.out; rw [IntKind.wrap_i64]; omega
          have t1 : ((n9 : Int) == n9) = true := by simp
          have t2 : (dn == dn) = true := by simp
          clear hnAB hbd hs9 hbk
          have f1 := (cell_of_row V2 (w.heap.size + 1) 1 _ _ (0, 0) (blk_on PW2.out BZ.out)).trans (show _ = some (Value.int .u8 mA) from by rw [HMA.out]; rfl)
          have f2 := (cell_of_row V2 (w.heap.size + 1) 2 _ _ (0, 0) (blk_on PW2.out BZ.out)).trans (show _ = some (Value.slice q.fq nA q.fc) from by rw [← HQF.out]; rfl)
          have f3 := (cell_of_row V2 (w.heap.size + 1) 3 _ _ (0, 0) (blk_on PW2.out BZ.out)).trans (show _ = some (Value.int .u32 dn) from by rw [HDN.out]; rfl)
          have f4 := (cell_of_row V2 (w.heap.size + 1) 4 _ _ (0, 0) (blk_on PW2.out BZ.out)).trans (show _ = some (Value.int .u8 mB) from by rw [HMB.out]; rfl)
          have f5 := (cell_of_row V2 (w.heap.size + 1) 5 _ _ (0, 0) (blk_on PW2.out BZ.out)).trans (show _ = some (Value.slice q.lq nB q.lc) from by rw [← HQG.out]; rfl)
          have ga0 := (cell_of_row V2 gA 0 _ _ (0, 0) (blk_on BA2.out BZ.out)).trans (show _ = some (Value.int .u8 mA) from rfl)
          have ga1 := (cell_of_row V2 gA 1 _ _ (0, 0) (blk_on BA2.out BZ.out)).trans (show _ = some (Value.slice qA nA cA) from rfl)
          have gb0 := (cell_of_row V2 gB 0 _ _ (0, 0) (blk_on BB2.out BZ.out)).trans (show _ = some (Value.int .u8 mB) from rfl)
          have gb1 := (cell_of_row V2 gB 1 _ _ (0, 0) (blk_on BB2.out BZ.out)).trans (show _ = some (Value.slice qB nB cB) from rfl)
          go_wp2_with (first
            | (go_at_call 19
               ((with_reducible refine (HSA.out _ (OW2.out.pol.on BZ.out).fi (LA2.out.on BZ.out)).mono ?_); rintro e Z1 ⟨rfl, b⟩)
               have BZ := Lib.hid (thn16 BZ.out b)
               clear f1 f2 f3 f4 f5 ga0 ga1 gb0 gb1
               have f1 := (cell_of_row Z1 (w.heap.size + 1) 1 _ _ (0, 0) (blk_on PW2.out BZ.out)).trans (show _ = some (Value.int .u8 mA) from by rw [HMA.out]; rfl)
               have f2 := (cell_of_row Z1 (w.heap.size + 1) 2 _ _ (0, 0) (blk_on PW2.out BZ.out)).trans (show _ = some (Value.slice q.fq nA q.fc) from by rw [← HQF.out]; rfl)
               have f3 := (cell_of_row Z1 (w.heap.size + 1) 3 _ _ (0, 0) (blk_on PW2.out BZ.out)).trans (show _ = some (Value.int .u32 dn) from by rw [HDN.out]; rfl)
               have f4 := (cell_of_row Z1 (w.heap.size + 1) 4 _ _ (0, 0) (blk_on PW2.out BZ.out)).trans (show _ = some (Value.int .u8 mB) from by rw [HMB.out]; rfl)
               have f5 := (cell_of_row Z1 (w.heap.size + 1) 5 _ _ (0, 0) (blk_on PW2.out BZ.out)).trans (show _ = some (Value.slice q.lq nB q.lc) from by rw [← HQG.out]; rfl)
               have ga0 := (cell_of_row Z1 gA 0 _ _ (0, 0) (blk_on BA2.out BZ.out)).trans (show _ = some (Value.int .u8 mA) from rfl)
               have ga1 := (cell_of_row Z1 gA 1 _ _ (0, 0) (blk_on BA2.out BZ.out)).trans (show _ = some (Value.slice qA nA cA) from rfl)
               have gb0 := (cell_of_row Z1 gB 0 _ _ (0, 0) (blk_on BB2.out BZ.out)).trans (show _ = some (Value.int .u8 mB) from rfl)
               have gb1 := (cell_of_row Z1 gB 1 _ _ (0, 0) (blk_on BB2.out BZ.out)).trans (show _ = some (Value.slice qB nB cB) from rfl)
               clear b)
            | (go_at_call 19
               ((with_reducible refine (HSB.out _ (OW2.out.pol.on BZ.out).lo (LB2.out.on BZ.out)).mono ?_); rintro e Z2 ⟨rfl, b⟩)
               have BZ := Lib.hid (thn16 BZ.out b)
               clear f1 f2 f3 f4 f5 ga0 ga1 gb0 gb1
               have f1 := (cell_of_row Z2 (w.heap.size + 1) 1 _ _ (0, 0) (blk_on PW2.out BZ.out)).trans (show _ = some (Value.int .u8 mA) from by rw [HMA.out]; rfl)
               have f2 := (cell_of_row Z2 (w.heap.size + 1) 2 _ _ (0, 0) (blk_on PW2.out BZ.out)).trans (show _ = some (Value.slice q.fq nA q.fc) from by rw [← HQF.out]; rfl)
               have f3 := (cell_of_row Z2 (w.heap.size + 1) 3 _ _ (0, 0) (blk_on PW2.out BZ.out)).trans (show _ = some (Value.int .u32 dn) from by rw [HDN.out]; rfl)
               have f4 := (cell_of_row Z2 (w.heap.size + 1) 4 _ _ (0, 0) (blk_on PW2.out BZ.out)).trans (show _ = some (Value.int .u8 mB) from by rw [HMB.out]; rfl)
               have f5 := (cell_of_row Z2 (w.heap.size + 1) 5 _ _ (0, 0) (blk_on PW2.out BZ.out)).trans (show _ = some (Value.slice q.lq nB q.lc) from by rw [← HQG.out]; rfl)
               have ga0 := (cell_of_row Z2 gA 0 _ _ (0, 0) (blk_on BA2.out BZ.out)).trans (show _ = some (Value.int .u8 mA) from rfl)
               have ga1 := (cell_of_row Z2 gA 1 _ _ (0, 0) (blk_on BA2.out BZ.out)).trans (show _ = some (Value.slice qA nA cA) from rfl)
               have gb0 := (cell_of_row Z2 gB 0 _ _ (0, 0) (blk_on BB2.out BZ.out)).trans (show _ = some (Value.int .u8 mB) from rfl)
               have gb1 := (cell_of_row Z2 gB 1 _ _ (0, 0) (blk_on BB2.out BZ.out)).trans (show _ = some (Value.slice qB nB cB) from rfl)
               clear b)
            | (go_at_call 14
               ((with_reducible refine (HAW.out _ (HON.out _ _ HG.out (thn16 BV2.out BZ.out))).mono ?_); rintro e v9 ⟨rfl, b9⟩)))
          go_ret
          exact ⟨by first | rfl | simp, thn16 (thn16 BV2.out BZ.out) b9⟩

set_option maxRecDepth 100000 in
theorem lifted (HC : FilterC GN) (os : Os) (started : os.Started) (H : Type) (enc : TypeId × Value → H) :
    ReturnsInHanded {} Tryz.checked os 6 .any (fun w args => (Rows.filterListsSpec.pre enc Tryz.prog Tryz.f6 [] false w args ∧ laidMetH Tryz.prog listed16 w) ∧ sizedMet enc Tryz.prog Tryz.f6 (OpenSpec.ofChange Rows.filterListsSpec) false w args)
      (Rows.filterListsSpec.post enc Tryz.prog Tryz.f6 false true false false) := by
  refine returnsInHanded_of_change_and (C := Tryz.checked) (X := fun w _ => laidMetH Tryz.prog listed16 w) (fun _ _ _ hh h => h.of_heap hh) ownKnob_none started (by kernel_rfl) Tryz.func6
    (ChangeSpec.witness_shaped (enc := enc) (C := Tryz.checked) (os := os) (X := fun w _ => laidMetH Tryz.prog listed16 w) false (World.doorLaid Tryz.prog 4000 os) #[.slice none 0 0, .slice none 0 0] 8 rfl (World.shaped_of_RefB (by kernel_rfl) (by kernel_rfl)) (by kernel_rfl) (by kernel_rfl) (by kernel_rfl) (door_met16 os _)) ?_
  intro W base args ds gs before hval0 hW _ _ hL _
  have hG : GN W := of_laid16 hL
  have hval : ∀ (j : Nat) t v, Tryz.f6.params[j]? = some t → args[j]? = some v → Value.okWide Tryz.prog W .any base t v := hval0
  have hW' := hW
  obtain ⟨p, q, hA0, hV, rfl, hfz, hnd⟩ := hW
  have hA : DataW.TrodAll enc Tryz.prog W 0 (fun _ => true) true Tryz.f6.params.toList args.toList ds p := hA0
  rw [Tryz.params6] at hA hval
  obtain ⟨v0, vs0, d0, ds0, p0, q0, hargs, rfl, rfl, h0, r0⟩ := trodAll_cons hA
  obtain ⟨v1, vs1, d1, ds1, p1, q1, rfl, rfl, rfl, h1, r1⟩ := trodAll_cons r0
  obtain ⟨rfl, rfl, rfl⟩ := trodAll_nil r1
  obtain rfl : args = #[v0, v1] := by cases args; simp_all
  obtain ⟨rfl, rfl⟩ := trodVars_none hV
  obtain ⟨a0, len0, cap0, rfl⟩ := okWide_slice Tryz.underlying52 (hval 0 52 v0 rfl rfl)
  have k0 := h0
  have lt0 : ∀ x ∈ p0, x.block < W.heap.size := by obtain ⟨m, hm⟩ := k0; exact DataW.trod_lt m _ _ _ hm
  obtain ⟨z0, w0⟩ := strs_open h0 lt0
  obtain ⟨a1, len1, cap1, rfl⟩ := okWide_slice Tryz.underlying53 (hval 1 53 v1 rfl rfl)
  have k1 := h1
  have lt1 : ∀ x ∈ p1, x.block < W.heap.size := by obtain ⟨m, hm⟩ := k1; exact DataW.trod_lt m _ _ _ hm
  obtain ⟨z1, w1⟩ := bytes_open h1 lt1
  clear hA0 hval0
  refine (walk HC a0 len0 cap0 z0 a1 len1 cap1 z1 W hG w0 w1).mono fun e W' ⟨he, bel⟩ => ?_
  subst he
  exact ⟨_, rfl, _, _, _, [], _, [], hW', trodAll_mk1 (shut_bool Tryz.underlying4 _), (trodAll_cons_mk (Below.trod laidOut (by kernel_rfl) (of_decide_eq_true (by kernel_rfl)) k0 bel lt0) (trodAll_cons_mk (Below.trod laidOut (by kernel_rfl) (of_decide_eq_true (by kernel_rfl)) k1 bel lt1) trodAll_mk0)), rfl, bel.frame _, fun h => by cases h⟩

theorem over (HC : FilterC GN) : Rows.filterListsRow.holds Tryz.pinned (OpenSpec.ofChange Rows.filterListsSpec) :=
  OpenClaim.holds_of_wide 6 Tryz.f6 rfl rfl rfl rfl rfl rfl rfl ⟨rfl, rfl, rfl, rfl, rfl⟩ rfl rfl rfl rfl rfl (by kernel_rfl) Tryz.func6 (by kernel_rfl)
    (of_decide_eq_true (by kernel_rfl)) (by unfold Func.isWrapper; first | (rw [if_pos (by decide +kernel)]; kernel_rfl) | (rw [if_neg (by decide +kernel)]; exact ⟨rfl, rfl⟩))
    (fun os started H enc _ => lifted HC os started H enc)

/-- The row's statement. -/
theorem row_holds : Rows.FilterListsSaid := over filterC
/-- The statement: the row, its table tied to the program's text. -/
theorem proved : Rows.FilterListsCardSaid :=
  Claim7.holds_tied_plain_at .later [] [.data, .data, .data, .sentinel, .sentinel, .data] true Rows.filterListsCard.stood.harness Rows.filterListsCard.stood.looks
    row_holds (fun _ h => by cases h) (by kernel_rfl) (fun _ h => by cases h) filterLists_row_tie rfl ⟨rfl, rfl⟩ (by kernel_rfl) rfl
    (fun f fn hf hfn => by
      obtain rfl : f = 6 := Option.some.inj ((show Tryz.prog.funcNamed "vestibule/vestibulelaw17.FilterLists" = some 6 by kernel_rfl).symm.trans hf) |>.symm
      obtain rfl : fn = Tryz.f6 := (Option.some.inj (Tryz.func6.symm.trans hfn)).symm
      exact ⟨by kernel_rfl, fun j t ht => by
        have hm : t ∈ Tryz.f6.params.toList := by simpa using Array.mem_of_getElem? ht
        have hall : (Tryz.f6.params.toList.all fun u => !Tryz.prog.wantsStandIn u) = true := by kernel_rfl
        exact (show Tryz.prog.wantsStandIn t = false by simpa using List.all_eq_true.1 hall t hm)⟩)
    (by kernel_rfl)
#print axioms proved
end Go.Proofs.YtanifiobfbfehaaGreatDoor.filterLists
