/- The statement DropinMasked holds, over what the calls have to return: a masked drop-in counts for nothing. -/
import Derived.Test.YtgigdhincpcdbaaGreatDoorPx
namespace Go.Proofs.YtgigdhincpcdbaaGreatDoor
open Go.RowKit
set_option linter.unusedVariables false

theorem row_cells {w : World} {b : Nat} {f : Fle} (h : w.heap[b]? = some (.cells #[.string f.name, .int .i64 f.dir, .slice f.ptr f.len f.cap] 24 (0, 0))) : ∀ j u, (encF f)[j]? = some u → w.cell? ((⟨b, 0, none⟩ : Addr).add j) = some u := fun j u hu => by
  rw [Addr.add_lit, Nat.zero_add, cell_of_row _ _ j _ _ (0, 0) h, ← Array.getElem?_toList]
  exact hu
theorem fs_own2 {w : World} {B n c : Nat} {q : Option Addr} {L : List Fle} (h : w.ownsRow B 24 3 (.slice q n c) n (rowC encF L)) (hn : L.length = n) (he : ∀ f ∈ L, FleAt w.heap.size w f) : FsAt w q n c L := by
  subst hn
  obtain ⟨q2, c2, e, fs⟩ := fs_own h he
  injection e with e1 _ e3
  subst e1 e3
  exact fs
end Go.Proofs.YtgigdhincpcdbaaGreatDoor
namespace Go.Proofs.YtgigdhincpcdbaaGreatDoor.dropinMasked
open Go.RowKit
set_option linter.unusedVariables false
set_option linter.unusedSimpArgs false
attribute [local go_sem ↓] Go.wp_at_zero Go.wp_at_succ
set_option maxRecDepth 100000 in
set_option maxHeartbeats 64000000 in
theorem walk {G : World → Prop} (HC : DropinC G) (HAW : AwakeC14 G) (m : Fle) (D : List Fle) (a : Option Addr) (n cap : Nat) (wh mo : Int) (pb : Option Addr) (lb cb : Nat) (bb : List UInt8) (w : World) (hG : G w) (hm : FleAt w.heap.size w m) (h : FsAt w a n cap D) (hbl : bb.length = lb) (hbfit : lb ≤ cb) (hbmost : cb ≤ maxLen) (hbnil : pb = none → cb = 0) (hbr : RdB w w.heap.size pb bb) :
    Calls Tryz.prog 6 #[.agg #[.string m.name, .int .i64 m.dir, .slice m.ptr m.len m.cap], .slice a n cap, .int .i64 wh, .int .i64 mo, .slice pb lb cb] w fun e w' => e = .returned (.bool true) ∧ Below w.heap.size w w' := by
  have HON := Lib.hid (fun (w w' : World) => HC.on (w := w) (w' := w'))
  have HG := Lib.hid hG
  have HGT := Lib.hid (fun (W : World) (b : Below w.heap.size w W) => great14 m D a n cap W (h.on b))
  have HW := Lib.hid HAW
  have B0 := Lib.hid ((Below.refl w.heap.size w).alloc (Nat.le_refl _) (.cells #[.string m.name, .int .i64 m.dir, .slice m.ptr m.len m.cap] 24))
  have HBX := Lib.hid (heap_alloc_new w (.cells #[.string m.name, .int .i64 m.dir, .slice m.ptr m.len m.cap] 24))
  by_cases hn0 : n = 0
  · subst hn0
    clear HC HAW hG hm h hbl hbfit hbmost hbnil hbr
    go_enter Tryz.func6, Tryz.ntmps6
    go_upto_if 34 with (first
      | (go_at_call 8
         with_reducible refine (HGT.out _ B0.out).mono ?_
         rintro e W1 ⟨b, rfl, hs, b1⟩
         have HS := Lib.hid hs
         have B1 := Lib.hid (B0.out.trans (b1.mono B0.out.size))
         have HB1 := Lib.hid b1
         clear b1 hs))
    all_goals
      first
        | (go_wp2_with (go_at_call 15; ((with_reducible refine (HW.out _ (HON.out _ _ HG.out B1.out)).mono ?_); rintro e Z ⟨rfl, bz⟩); have BZ := Lib.hid (thn13 B1.out bz); clear bz)
           go_ret
           exact ⟨rfl, BZ.out⟩)
        | (cases b <;>
           (go_wp2_with (go_at_call 15; ((with_reducible refine (HW.out _ (HON.out _ _ HG.out B1.out)).mono ?_); rintro e Z ⟨rfl, bz⟩); have BZ := Lib.hid (thn13 B1.out bz); clear bz)
            go_ret
            exact ⟨rfl, BZ.out⟩))
  have n0 : ¬ (n : Int) = 0 := by omega
  have n1 : ((n : Int) == 0) = false := by rw [beq_eq_false_iff_ne]; exact n0
  by_cases hn15 : 15 < n
  · have n2 : (15 : Int) < n := by omega
    have n3 : (n : Int) > 15 := n2
    clear hn15 hn0
    clear HC HAW hG hm h hbl hbfit hbmost hbnil hbr
    go_enter Tryz.func6, Tryz.ntmps6
    go_upto_if 34 with (first
      | (go_at_call 8
         with_reducible refine (HGT.out _ B0.out).mono ?_
         rintro e W1 ⟨b, rfl, hs, b1⟩
         have HS := Lib.hid hs
         have B1 := Lib.hid (B0.out.trans (b1.mono B0.out.size))
         have HB1 := Lib.hid b1
         clear b1 hs))
    all_goals
      first
        | (go_wp2_with (go_at_call 15; ((with_reducible refine (HW.out _ (HON.out _ _ HG.out B1.out)).mono ?_); rintro e Z ⟨rfl, bz⟩); have BZ := Lib.hid (thn13 B1.out bz); clear bz)
           go_ret
           exact ⟨rfl, BZ.out⟩)
        | (cases b <;>
           (go_wp2_with (go_at_call 15; ((with_reducible refine (HW.out _ (HON.out _ _ HG.out B1.out)).mono ?_); rintro e Z ⟨rfl, bz⟩); have BZ := Lib.hid (thn13 B1.out bz); clear bz)
            go_ret
            exact ⟨rfl, BZ.out⟩))
  have n2 : ¬ (15 : Int) < n := by omega
  have n3 : ¬ (n : Int) > 15 := n2
  by_cases hb2 : 2000 < lb
  · have n4 : (2000 : Int) < lb := by omega
    have n5 : (lb : Int) > 2000 := n4
    clear hn15 hn0 hb2
    clear HC HAW hG hm h hbl hbfit hbmost hbnil hbr
    go_enter Tryz.func6, Tryz.ntmps6
    go_upto_if 34 with (first
      | (go_at_call 8
         with_reducible refine (HGT.out _ B0.out).mono ?_
         rintro e W1 ⟨b, rfl, hs, b1⟩
         have HS := Lib.hid hs
         have B1 := Lib.hid (B0.out.trans (b1.mono B0.out.size))
         have HB1 := Lib.hid b1
         clear b1 hs))
    all_goals
      first
        | (go_wp2_with (go_at_call 15; ((with_reducible refine (HW.out _ (HON.out _ _ HG.out B1.out)).mono ?_); rintro e Z ⟨rfl, bz⟩); have BZ := Lib.hid (thn13 B1.out bz); clear bz)
           go_ret
           exact ⟨rfl, BZ.out⟩)
        | (cases b <;>
           (go_wp2_with (go_at_call 15; ((with_reducible refine (HW.out _ (HON.out _ _ HG.out B1.out)).mono ?_); rintro e Z ⟨rfl, bz⟩); have BZ := Lib.hid (thn13 B1.out bz); clear bz)
            go_ret
            exact ⟨rfl, BZ.out⟩))
  have n4 : ¬ (2000 : Int) < lb := by omega
  have n5 : ¬ (lb : Int) > 2000 := n4
  have HH := Lib.hid h
  have HM := Lib.hid hm
  have HME := Lib.hid (fun (L : List Fle) (a : Option Addr) (n cap : Nat) (W : World) (g : G W) (f1 : FleAt W.heap.size W m) (f2 : FsAt W a n cap L) (hb : ∀ f ∈ m :: L, f.len ≤ 1000000 ∧ f.name.size ≤ 1000000) (hn : n ≤ 1000) => HC.merge m L a n cap W g f1 f2 hb hn)
  have HLA := Lib.hid (Nat.le_trans (mrgA_len m D) (show 17000 ≤ 1000000 by decide))
  have HLA2 := Lib.hid (Nat.le_trans (mrgN_len m D) (show 17000 ≤ 1000000 by decide))
  have HDN := Lib.hid h.len
  have HFX := Lib.hid (fun (nm : ByteArray) (d : Int) (hnm : nm.size ≤ maxLen) => show FleAt w.heap.size w ⟨nm, d, pb, lb, cb, bb⟩ from ⟨hnm, hbl, hbfit, hbmost, hbnil, hbr⟩)
  obtain ⟨g, o, hbase, hcells⟩ := h.base
  obtain rfl := hbase (by omega)
  have HN15 := Lib.hid (show n ≤ 15 ∧ lb ≤ 2000 from ⟨by omega, by omega⟩)
  have wn : IntKind.u64.wrap (n : Int) = n := by simp [IntKind.wrap, IntKind.bits, IntKind.signed]; omega
  obtain ⟨z, hz⟩ : ∃ x : Int, IntKind.u64.wrap wh = x := ⟨_, rfl⟩
  have hz0 : 0 ≤ z := by rw [← hz]; simp [IntKind.wrap, IntKind.bits, IntKind.signed]; omega
  obtain ⟨K, hK⟩ : ∃ K : Nat, z % (n : Int) = (K : Int) := ⟨(z % (n : Int)).toNat, by have := Int.emod_nonneg z n0; omega⟩
  have hKn : K < n := by have := Int.emod_lt_of_pos z (show (0 : Int) < n by omega); omega
  have hK2 : z.tmod (n : Int) = (K : Int) := by rw [Int.tmod_eq_emod_of_nonneg hz0]; exact hK
  have wK : IntKind.i64.wrap (K : Int) = K := by rw [IntKind.wrap_i64]; omega
  have wK2 : IntKind.u64.wrap (K : Int) = K := by simp [IntKind.wrap, IntKind.bits, IntKind.signed]; omega
  have K0 : (0 : Int) ≤ (K : Int) := by omega
  have K1 : (K : Int) < n := by omega
  obtain ⟨u, hu⟩ : ∃ x : Int, IntKind.u64.wrap mo = x := ⟨_, rfl⟩
  have hu0 : 0 ≤ u := by rw [← hu]; simp [IntKind.wrap, IntKind.bits, IntKind.signed]; omega
  obtain ⟨y, hy⟩ : ∃ y : Int, u % 10 = y := ⟨_, rfl⟩
  have hy0 : 0 ≤ y ∧ y ≤ 9 := by omega
  have hy2 : u.tmod 10 = y := by rw [Int.tmod_eq_emod_of_nonneg hu0]; exact hy
  have wy : IntKind.i64.wrap y = y := by rw [IntKind.wrap_i64]; omega
  have wy2 : IntKind.u64.wrap y = y := by simp [IntKind.wrap, IntKind.bits, IntKind.signed]; omega
  have HCL := Lib.hid (fun (W : World) (b : Below w.heap.size w W) => (show W.cell? ⟨g, o + K * 3, none⟩ = some (.string (D.getD K f0).name) ∧ W.cell? ⟨g, o + K * 3 + 1, none⟩ = some (.int .i64 (D.getD K f0).dir) ∧ W.cell? ⟨g, o + K * 3 + 2, none⟩ = some (.slice (D.getD K f0).ptr (D.getD K f0).len (D.getD K f0).cap) from
    ⟨(b.cell (World.block_lt_of_cell? w _ (hcells K hKn).1)).trans (hcells K hKn).1, (b.cell (World.block_lt_of_cell? w _ (hcells K hKn).2.1)).trans (hcells K hKn).2.1, (b.cell (World.block_lt_of_cell? w _ (hcells K hKn).2.2)).trans (hcells K hKn).2.2⟩))
  have HKM := Lib.hid (show D.getD K f0 ∈ D from getD_memF (by rw [h.len]; exact hKn))
  have HNM := Lib.hid (h.each _ HKM.out).nm
  have HAS := Lib.hid (fun (x : Fle) (hn : x.name = (D.getD K f0).name) (hd : (D.getD K f0).dir ≤ x.dir) => (show mrgA m (D ++ [x]) = mrgA m D ∧ mrgN m (D ++ [x]) = mrgN m D from ⟨mrgA_masked (by rw [h.len]; exact hKn) hn hd (by rw [h.len]; omega) m, mrgN_masked (by rw [h.len]; exact hKn) hn hd (by rw [h.len]; omega) m⟩))
  have HNS := Lib.hid (fun (hs : SmallAll n m D) => (hs.2 _ (List.mem_cons_of_mem _ HKM.out)).2)
  obtain ⟨xf, hxf⟩ : ∃ d, d = D.getD K f0 := ⟨_, rfl⟩
  rw [← hxf] at HCL HNM HAS HNS
  obtain ⟨xn, xd, xp, xl, xc, xb⟩ := xf
  simp only at HCL HNM HAS HNS
  have HY := Lib.hid hy0
  have HZ := Lib.hid (And.intro hz0 hu0)
  clear HC HAW hG hm h hn0 hbase hcells hKn hxf hbl hbfit hbmost hbnil hbr hn15 hb2 hy0 hz0 hu0
  go_enter Tryz.func6, Tryz.ntmps6
  go_upto_if 34 with (first
    | (go_at_call 8
       with_reducible refine (HGT.out _ B0.out).mono ?_
       rintro e W1 ⟨b, rfl, hs, b1⟩
       have HS := Lib.hid hs
       have B1 := Lib.hid (B0.out.trans (b1.mono B0.out.size))
       have HB1 := Lib.hid b1
       clear b1 hs))
  · go_wp2_with (go_at_call 15; ((with_reducible refine (HW.out _ (HON.out _ _ HG.out B1.out)).mono ?_); rintro e Z ⟨rfl, bz⟩); have BZ := Lib.hid (thn13 B1.out bz); clear bz)
    go_ret
    exact ⟨rfl, BZ.out⟩
  · rename_i hb
    obtain rfl : b = false := by cases b with | true => exact absurd rfl hb | false => rfl
    clear hb
    have HSM := Lib.hid (HS.out rfl)
    have HXS := Lib.hid (HNS.out HSM.out)
    clear HS HGT HNS
    obtain ⟨c0, c1, c2⟩ := HCL.out W1 B1.out
    by_cases hd0 : xd < 0
    · have BB := Lib.hid (B1.out.alloc B1.out.size (.cells #[.string xn, .int .i64 xd, .slice xp xl xc] 24))
      go_wp2_with (go_at_call 15; ((with_reducible refine (HW.out _ (HON.out _ _ HG.out BB.out)).mono ?_); rintro e Z ⟨rfl, bz⟩); have BZ := Lib.hid (thn13 BB.out bz); clear bz)
      go_ret
      exact ⟨rfl, BZ.out⟩
    by_cases hd1 : 1000000 < xd
    · have hd2 : xd > 1000000 := hd1
      have BB := Lib.hid (B1.out.alloc B1.out.size (.cells #[.string xn, .int .i64 xd, .slice xp xl xc] 24))
      go_wp2_with (go_at_call 15; ((with_reducible refine (HW.out _ (HON.out _ _ HG.out BB.out)).mono ?_); rintro e Z ⟨rfl, bz⟩); have BZ := Lib.hid (thn13 BB.out bz); clear bz)
      go_ret
      exact ⟨rfl, BZ.out⟩
    have hd2 : ¬ xd > 1000000 := hd1
    have wd : IntKind.i64.wrap (xd + y) = xd + y := by have := HY.out; rw [IntKind.wrap_i64]; omega
    have HDD := Lib.hid (show xd ≤ xd + y from by have := HY.out; omega)
    go_upto_region 7 with (fail)
    clear wn wK wK2 wy wy2 wd hd0 hd1 hd2 c0 c1 c2 hz hK hK2 hu hy hy2 K0 K1 n1 n2 n3 n4 n5
    obtain ⟨V, hV⟩ : ∃ V, V = (W1.alloc (.cells #[.string xn, .int .i64 xd, .slice xp xl xc] 24)).alloc (.cells #[.string xn, .int .i64 (xd + y), .slice pb lb cb] 24) := ⟨_, rfl⟩
    have HV1 := Lib.hid (show V.heap[w.heap.size]? = some (.cells #[.string m.name, .int .i64 m.dir, .slice m.ptr m.len m.cap] 24 (0, 0)) from (by
      have hx := (HB1.out.block w.heap.size (by rw [World.size_alloc]; exact Nat.lt_succ_self _)).trans HBX.out
      have hlt : w.heap.size < W1.heap.size := (Array.getElem?_eq_some_iff.1 hx).1
      rw [hV]
      exact (Below.heap_alloc _ _ _ (by rw [World.size_alloc]; omega)).trans ((Below.heap_alloc _ _ _ hlt).trans hx)))
    have HV2 := Lib.hid (show V.heap[W1.heap.size + 1]? = some (.cells #[.string xn, .int .i64 (xd + y), .slice pb lb cb] 24 (0, 0)) from (by
      have h1 := heap_alloc_new (W1.alloc (.cells #[.string xn, .int .i64 xd, .slice xp xl xc] 24)) (.cells #[.string xn, .int .i64 (xd + y), .slice pb lb cb] 24)
      rw [World.size_alloc] at h1
      rw [hV]; exact h1))
    have B2 := Lib.hid (show Below w.heap.size w V from (by rw [hV]; exact (B1.out.alloc B1.out.size _).alloc (by rw [World.size_alloc]; exact Nat.le_succ_of_le B1.out.size) _))
    rw [← hV]
    have HCK := Lib.hid (fun (W : World) (b : Below V.heap.size V W) => show W.cell? ⟨w.heap.size, 0, none⟩ = some (.string m.name) ∧ W.cell? ⟨w.heap.size, 1, none⟩ = some (.int .i64 m.dir) ∧ W.cell? ⟨w.heap.size, 2, none⟩ = some (.slice m.ptr m.len m.cap) ∧ W.cell? ⟨W1.heap.size + 1, 0, none⟩ = some (.string xn) ∧ W.cell? ⟨W1.heap.size + 1, 1, none⟩ = some (.int .i64 (xd + y)) ∧ W.cell? ⟨W1.heap.size + 1, 2, none⟩ = some (.slice pb lb cb) from
      ⟨(cell_of_row W w.heap.size 0 _ _ (0, 0) ((b.block _ (Array.getElem?_eq_some_iff.1 HV1.out).1).trans HV1.out)).trans rfl, (cell_of_row W w.heap.size 1 _ _ (0, 0) ((b.block _ (Array.getElem?_eq_some_iff.1 HV1.out).1).trans HV1.out)).trans rfl, (cell_of_row W w.heap.size 2 _ _ (0, 0) ((b.block _ (Array.getElem?_eq_some_iff.1 HV1.out).1).trans HV1.out)).trans rfl, (cell_of_row W (W1.heap.size + 1) 0 _ _ (0, 0) ((b.block _ (Array.getElem?_eq_some_iff.1 HV2.out).1).trans HV2.out)).trans rfl, (cell_of_row W (W1.heap.size + 1) 1 _ _ (0, 0) ((b.block _ (Array.getElem?_eq_some_iff.1 HV2.out).1).trans HV2.out)).trans rfl, (cell_of_row W (W1.heap.size + 1) 2 _ _ (0, 0) ((b.block _ (Array.getElem?_eq_some_iff.1 HV2.out).1).trans HV2.out)).trans rfl⟩)
    have HSB := Lib.hid (show ∀ f ∈ m :: D, f.len ≤ 1000000 ∧ f.name.size ≤ 1000000 from fun f hf => by have := HSM.out.2 f hf; exact ⟨by have := this.1; omega, by have := this.2; omega⟩)
    have HSB2 := Lib.hid (show ∀ f ∈ m :: (D ++ [(⟨xn, xd + y, pb, lb, cb, bb⟩ : Fle)]), f.len ≤ 1000000 ∧ f.name.size ≤ 1000000 from fun f hf => by
      rcases List.mem_cons.1 hf with e | e
      · rw [e]; exact HSB.out m List.mem_cons_self
      · rcases List.mem_append.1 e with e | e
        · exact HSB.out f (List.mem_cons_of_mem _ e)
        · rw [List.mem_singleton.1 e]
          have h1 := HXS.out
          have h2 := HN15.out.2
          exact ⟨by show lb ≤ 1000000; omega, by show xn.size ≤ 1000000; omega⟩)
    have HK1000 := Lib.hid (show n ≤ 1000 ∧ n + 1 ≤ 1000 from by have := HN15.out.1; exact ⟨by omega, by omega⟩)
    have HA2 := Lib.hid (HAS.out ⟨xn, xd + y, pb, lb, cb, bb⟩ rfl HDD.out)
    have HFF := Lib.hid (HFX.out xn (xd + y) HNM.out)
    obtain ⟨i0, hi0, hz0, hz1, hz2⟩ := info_parts fle_info
    have HI := Lib.hid hi0
    have HZ0 := Lib.hid hz0
    have HZ1 := Lib.hid hz1
    have HZ2 := Lib.hid hz2
    clear hV HAS HFX hi0 hz0 hz1 hz2
    obtain ⟨x0, x1, x2, _, _, _⟩ := HCK.out V (Below.refl _ _)
    go_wp2_with (go_at_call 16
                 with_reducible refine (HME.out D (some ⟨g, o, none⟩) n cap _ (HON.out _ _ HG.out B2.out) (HM.out.on B2.out) (HH.out.on B2.out) HSB.out HK1000.out.1).mono ?_
                 rintro e W3 ⟨va, vn, rfl, ra, rn, b3⟩
                 have RA := Lib.hid ra
                 have RN := Lib.hid rn
                 have HB3 := Lib.hid b3
                 clear b3 ra rn)
    clear x0 x1 x2
    have B3 := Lib.hid (thn13 B2.out HB3.out)
    have OL := Lib.hid (World.ownsRow_lit (base := W3.heap.size) (e := 24) (size := 3) W3 #[] 0 (Nat.le_refl _) (Nat.zero_le _) rfl)
    have BD := Lib.hid ((Below.refl W3.heap.size W3).drew)
    have BA := Lib.hid (((Below.refl W3.heap.size W3).alloc (Nat.le_refl _) (.cells #[] 24)).drew)
    have RN1 := Lib.hid (rows_news encF_len (by omega) (HH.out.rows.on (thn13 B3.out BA.out)))
    have BA2 := Lib.hid ((((Below.refl W3.heap.size W3).alloc (Nat.le_refl _) (.cells #[] 24)).alloc (by rw [World.size_alloc]; exact Nat.le_succ _) (.cells #[.string xn, .int .i64 (xd + y), .slice pb lb cb] 24)).drew)
    have OL2 := Lib.hid ((OL.out.alloc (.cells #[.string xn, .int .i64 (xd + y), .slice pb lb cb] 24)).drew)
    have RN2 := Lib.hid (rows_news encF_len (by omega) (HH.out.rows.on (thn13 B3.out BA2.out)))
    have HNX := Lib.hid (show (((W3.alloc (.cells #[] 24)).alloc (.cells #[.string xn, .int .i64 (xd + y), .slice pb lb cb] 24)).drew).heap[W3.heap.size + 1]? = some (.cells #[.string xn, .int .i64 (xd + y), .slice pb lb cb] 24 (0, 0)) from (by
      have h1 := heap_alloc_new (W3.alloc (.cells #[] 24)) (.cells #[.string xn, .int .i64 (xd + y), .slice pb lb cb] 24)
      rw [World.size_alloc] at h1
      exact h1))
    have BX := Lib.hid (((Below.refl W3.heap.size W3).alloc (Nat.le_refl _) (.cells #[.string xn, .int .i64 (xd + y), .slice pb lb cb] 24)).drew)
    have BA3 := Lib.hid ((((Below.refl W3.heap.size W3).alloc (Nat.le_refl _) (.cells #[.string xn, .int .i64 (xd + y), .slice pb lb cb] 24)).alloc (by rw [World.size_alloc]; exact Nat.le_succ _) (.cells #[] 24)).drew)
    have OL3 := Lib.hid (show (((W3.alloc (.cells #[.string xn, .int .i64 (xd + y), .slice pb lb cb] 24)).alloc (.cells #[] 24)).drew).ownsRow W3.heap.size 24 3 (.slice (some ⟨W3.heap.size + 1, 0, none⟩) 0 0) 0 [] from (by
      have h1 := (World.ownsRow_lit (base := W3.heap.size) (e := 24) (size := 3) (W3.alloc (.cells #[.string xn, .int .i64 (xd + y), .slice pb lb cb] 24)) #[] 0 (by rw [World.size_alloc]; exact Nat.le_succ _) (Nat.zero_le _) rfl).drew
      rw [World.size_alloc] at h1
      exact h1))
    have RN3 := Lib.hid (rows_news encF_len (by omega) (HH.out.rows.on (thn13 B3.out BA3.out)))
    have HNX3 := Lib.hid (show (((W3.alloc (.cells #[.string xn, .int .i64 (xd + y), .slice pb lb cb] 24)).alloc (.cells #[] 24)).drew).heap[W3.heap.size]? = some (.cells #[.string xn, .int .i64 (xd + y), .slice pb lb cb] 24 (0, 0)) from (Below.heap_alloc (W3.alloc (.cells #[.string xn, .int .i64 (xd + y), .slice pb lb cb] 24)) (.cells #[] 24) W3.heap.size (by rw [World.size_alloc]; exact Nat.lt_succ_self _)).trans (heap_alloc_new W3 (.cells #[.string xn, .int .i64 (xd + y), .slice pb lb cb] 24)))
    have HLD := Lib.hid (show (rowC encF D).length = n * 3 from by rw [rowC_length encF_len, HDN.out])
    have HCL3 := Lib.hid (fun (W : World) (b : Below W3.heap.size W3 W) => HCK.out W (thn13 HB3.out b))
    go_region_held3 (fun W => W.cell? ⟨w.heap.size, 0, none⟩ = some (.string m.name) ∧ W.cell? ⟨w.heap.size, 1, none⟩ = some (.int .i64 m.dir) ∧ W.cell? ⟨w.heap.size, 2, none⟩ = some (.slice m.ptr m.len m.cap) ∧ W.cell? ⟨W1.heap.size + 1, 0, none⟩ = some (.string xn) ∧ W.cell? ⟨W1.heap.size + 1, 1, none⟩ = some (.int .i64 (xd + y)) ∧ W.cell? ⟨W1.heap.size + 1, 2, none⟩ = some (.slice pb lb cb))
      (first | (with_reducible exact HCL3.out _ BD.out) | (with_reducible exact HCL3.out _ BA.out) | (with_reducible exact HCL3.out _ BA2.out) | (with_reducible exact HCL3.out _ BX.out) | (with_reducible exact HCL3.out _ BA3.out) | (with_reducible exact HCL3.out _ C1.out) | (with_reducible exact HCL3.out _ (C1.out.alloc C1.out.size _)) | (with_reducible exact HCL3.out _ C2.out) | (with_reducible exact HCL3.out _ C3.out))
      (first
        | ((refine step_app_r (by rfl) (.tmp 74) (.tmp 75) 25 (by rfl) W3.heap.size 24 i0 _ 3 48 Tryz.underlying25 HI.out HZ0.out HZ1.out HZ2.out rfl (by omega) (.slice (some ⟨W3.heap.size, 0, none⟩) 0 0) 0 [] (by rfl) OL.out.drew (some ⟨g, o, none⟩) n cap (rowC encF D) (by rfl) RN1.out.1 RN1.out.2 (rowC_oneCell encF_one _) (by have := HN15.out.1; unfold maxLen; omega) (by have := HN15.out.1; omega) (by show W3.heap.size ≤ (W3.alloc _).heap.size; rw [World.size_alloc]; exact Nat.le_succ _) ?_); intro v1 w1 o1 h1; rw [Nat.zero_add, List.nil_append] at o1; have C1 := Lib.hid (BA.out.grown h1 (by show W3.heap.size ≤ (W3.alloc _).heap.size; rw [World.size_alloc]; exact Nat.le_succ _) (fun x e => by have e2 : W3.heap.size = x := Option.some.inj e; omega)); have O1 := Lib.hid o1; clear o1 h1)
        | ((refine step_app_r (by rfl) (.tmp 74) (.tmp 75) 25 (by rfl) W3.heap.size 24 i0 _ 3 48 Tryz.underlying25 HI.out HZ0.out HZ1.out HZ2.out rfl (by omega) (.slice (some ⟨W3.heap.size, 0, none⟩) 0 0) 0 [] (by rfl) OL2.out (some ⟨g, o, none⟩) n cap (rowC encF D) (by rfl) RN2.out.1 RN2.out.2 (rowC_oneCell encF_one _) (by have := HN15.out.1; unfold maxLen; omega) (by have := HN15.out.1; omega) (by exact BA2.out.size) ?_); intro v1 w1 o1 h1; rw [Nat.zero_add, List.nil_append] at o1; have C1 := Lib.hid (BA2.out.grown h1 BA2.out.size (fun x e => by have e2 : W3.heap.size = x := Option.some.inj e; omega)); have O1 := Lib.hid o1; have HNR := Lib.hid (row_cells (f := ⟨xn, xd + y, pb, lb, cb, bb⟩) ((h1.block (W3.heap.size + 1) (Array.getElem?_eq_some_iff.1 HNX.out).1 (fun e => by have e2 : W3.heap.size + 1 = W3.heap.size := Option.some.inj e; omega)).trans HNX.out)); clear o1 h1)
        | ((refine step_app_r (by rfl) (.tmp 76) (.tmp 78) 25 (by rfl) W3.heap.size 24 i0 _ 3 48 Tryz.underlying25 HI.out HZ0.out HZ1.out HZ2.out rfl (by omega) v1 n (rowC encF D) (by rfl) O1.out (some ⟨W3.heap.size + 1, 0, none⟩) 1 1 (encF ⟨xn, xd + y, pb, lb, cb, bb⟩) (by rfl) rfl (fun _ => ⟨_, rfl, HNR.out⟩) (encF_one _) (by have := HN15.out.1; unfold maxLen; omega) (by have := HN15.out.1; omega) C1.out.size ?_); intro v2 w2 o2 h2; have C2 := Lib.hid (C1.out.grown h2 C1.out.size (fun x e => (O1.out.lt x e).1)); obtain ⟨q2, c2, rfl⟩ := own_form12 o2; have FS2 := Lib.hid (show FsAt w2 q2 (n + 1) c2 (D ++ [(⟨xn, xd + y, pb, lb, cb, bb⟩ : Fle)]) from fs_own2 (by rw [rowC_app, rowC_one1]; exact o2) (by rw [List.length_append, HDN.out]; rfl) (fun f hf => by
            rcases List.mem_append.1 hf with e | e
            · exact (HH.out.each f e).on (thn13 B3.out C2.out)
            · rw [List.mem_singleton.1 e]; exact HFF.out.on (thn13 B3.out C2.out))); have B4 := Lib.hid (thn13 B3.out C2.out); clear o2 h2)
        | ((refine step_app_r (by rfl) (.tmp 74) (.tmp 75) 25 (by rfl) W3.heap.size 24 i0 _ 3 48 Tryz.underlying25 HI.out HZ0.out HZ1.out HZ2.out rfl (by omega) (.slice (some ⟨W3.heap.size + 1, 0, none⟩) 0 0) 0 [] (by rfl) OL3.out (some ⟨g, o, none⟩) n cap (rowC encF D) (by rfl) RN3.out.1 RN3.out.2 (rowC_oneCell encF_one _) (by have := HN15.out.1; unfold maxLen; omega) (by have := HN15.out.1; omega) (by exact BA3.out.size) ?_); intro v1 w1 o1 h1; rw [Nat.zero_add, List.nil_append] at o1; have C1 := Lib.hid (BA3.out.grown h1 BA3.out.size (fun x e => by have e2 : W3.heap.size + 1 = x := Option.some.inj e; omega)); have O1 := Lib.hid o1; have HNR := Lib.hid (row_cells (f := ⟨xn, xd + y, pb, lb, cb, bb⟩) ((h1.block W3.heap.size (Array.getElem?_eq_some_iff.1 HNX3.out).1 (fun e => by have e2 : W3.heap.size = W3.heap.size + 1 := Option.some.inj e; omega)).trans HNX3.out)); clear o1 h1)
        | ((refine step_app_r (by rfl) (.tmp 76) (.tmp 78) 25 (by rfl) W3.heap.size 24 i0 _ 3 48 Tryz.underlying25 HI.out HZ0.out HZ1.out HZ2.out rfl (by omega) v1 n (rowC encF D) (by rfl) O1.out (some ⟨W3.heap.size, 0, none⟩) 1 1 (encF ⟨xn, xd + y, pb, lb, cb, bb⟩) (by rfl) rfl (fun _ => ⟨_, rfl, HNR.out⟩) (encF_one _) (by have := HN15.out.1; unfold maxLen; omega) (by have := HN15.out.1; omega) C1.out.size ?_); intro v2 w2 o2 h2; have C2 := Lib.hid (C1.out.grown h2 C1.out.size (fun x e => (O1.out.lt x e).1)); obtain ⟨q2, c2, rfl⟩ := own_form12 o2; have FS2 := Lib.hid (show FsAt w2 q2 (n + 1) c2 (D ++ [(⟨xn, xd + y, pb, lb, cb, bb⟩ : Fle)]) from fs_own2 (by rw [rowC_app, rowC_one1]; exact o2) (by rw [List.length_append, HDN.out]; rfl) (fun f hf => by
            rcases List.mem_append.1 hf with e | e
            · exact (HH.out.each f e).on (thn13 B3.out C2.out)
            · rw [List.mem_singleton.1 e]; exact HFF.out.on (thn13 B3.out C2.out))); have B4 := Lib.hid (thn13 B3.out C2.out); clear o2 h2)
        | ((refine step_app_r (by rfl) (.tmp 76) (.tmp 78) 25 (by rfl) W3.heap.size 24 i0 _ 3 48 Tryz.underlying25 HI.out HZ0.out HZ1.out HZ2.out rfl (by omega) v1 n (rowC encF D) (by rfl) (O1.out.alloc _) (some ⟨w1.heap.size, 0, none⟩) 1 1 (encF ⟨xn, xd + y, pb, lb, cb, bb⟩) (by rfl) rfl (fun _ => ⟨_, rfl, news_row w1 _ _⟩) (encF_one _) (by have := HN15.out.1; unfold maxLen; omega) (by have := HN15.out.1; omega) (by rw [World.size_alloc]; exact Nat.le_succ_of_le C1.out.size) ?_); intro v2 w2 o2 h2; have C2 := Lib.hid ((C1.out.alloc C1.out.size _).grown h2 (by rw [World.size_alloc]; exact Nat.le_succ_of_le C1.out.size) (fun x e => (O1.out.lt x e).1)); obtain ⟨q2, c2, rfl⟩ := own_form12 o2; have FS2 := Lib.hid (show FsAt w2 q2 (n + 1) c2 (D ++ [(⟨xn, xd + y, pb, lb, cb, bb⟩ : Fle)]) from fs_own2 (by rw [rowC_app, rowC_one1]; exact o2) (by rw [List.length_append, HDN.out]; rfl) (fun f hf => by
            rcases List.mem_append.1 hf with e | e
            · exact (HH.out.each f e).on (thn13 B3.out C2.out)
            · rw [List.mem_singleton.1 e]; exact HFF.out.on (thn13 B3.out C2.out))); have B4 := Lib.hid (thn13 B3.out C2.out); clear o2 h2)
        | ((go_at_call 16); (with_reducible refine (HME.out (D ++ [(⟨xn, xd + y, pb, lb, cb, bb⟩ : Fle)]) q2 (n + 1) c2 _ (HON.out _ _ HG.out B4.out) (HM.out.on B4.out) FS2.out HSB2.out HK1000.out.2).mono ?_); rintro e W5 ⟨ua, un, rfl, ra, rn, b5⟩; rw [HA2.out.1] at ra; rw [HA2.out.2] at rn; have UA := Lib.hid ra; have UN := Lib.hid rn; have C3 := Lib.hid (thn13 C2.out b5); have RA5 := Lib.hid (RA.out.on C3.out); have RN5 := Lib.hid (RN.out.on C3.out); have B5 := Lib.hid (thn13 B4.out b5); clear b5 ra rn))
    all_goals
     go_wp2_with (first
      | (go_at_call 18
         with_reducible refine (sameA14 _ _ _ _ RA5.out UA.out HLA.out).mono ?_
         rintro e W6 ⟨rfl, b6⟩
         have RN6 := Lib.hid (RN5.out.on b6)
         have UN6 := Lib.hid (UN.out.on b6)
         have B6 := Lib.hid (thn13 B5.out b6)
         clear b6)
      | (go_at_call 19
         with_reducible refine (sameN_yes _ _ _ _ RN6.out UN6.out HLA2.out).mono ?_
         rintro e W7 ⟨rfl, b7⟩
         have B7 := Lib.hid (thn13 B6.out b7)
         clear b7)
      | (go_at_call 15
         with_reducible refine (HW.out _ (HON.out _ _ HG.out B7.out)).mono ?_
         rintro e W8 ⟨rfl, b8⟩
         have B8 := Lib.hid (thn13 B7.out b8)
         clear b8))
     go_ret
     exact ⟨rfl, B8.out⟩
end Go.Proofs.YtgigdhincpcdbaaGreatDoor.dropinMasked
