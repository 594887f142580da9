/- The statement DropinBehind holds, over what the calls have to return: one file behind the other, by rising names. -/
import Derived.Test.YtgigdhincpcdbaaGreatDoorPx
namespace Go.Proofs.YtgigdhincpcdbaaGreatDoor
open Go.RowKit
/-- What unit.Parse has to return, its results being new memory. -/
abbrev ParseC14 (G : World → Prop) : Prop := ∀ (fn : ByteArray) (dir : Int) (a0 : Option Addr) (n cap : Nat) (l : List UInt8) (w : World), G w → l.length = n → n ≤ 140737488355328 → RdB w w.heap.size a0 l → Calls Tryz.prog 20 #[.agg #[.string fn, .int .i64 dir, .slice a0 n cap]] w fun e w' =>
  ∃ va vn, e = .returned (.tuple #[va, vn]) ∧ RowsAt 5 encA w' va (filA fn l) ∧ RowsAt 4 encN w' vn (filN fn l) ∧ Below w.heap.size w w' ∧ NewV w.heap.size va ∧ NewV w.heap.size vn
end Go.Proofs.YtgigdhincpcdbaaGreatDoor
namespace Go.Proofs.YtgigdhincpcdbaaGreatDoor.dropinBehind
open Go.RowKit
set_option linter.unusedVariables false
set_option linter.unusedSimpArgs false
attribute [local go_sem ↓] Go.wp_at_zero Go.wp_at_succ
theorem geq14 (t : TypeId) (a b : ByteArray) : binOp .geq t (.string a) (.string b) = pure (.bool !(Go.Op.bytesLess a.toList b.toList)) := by simp [binOp, Op.stringOp]
attribute [local go_sem] geq14
theorem one_note {m : Fle} {D : List Fle} (hE : ordE D ≠ 0) : mrgA m D = [] ∧ (∃ T, mrgN m D = [⟨m.name, 0, ordE D, T⟩]) ∧ ordL m D = [] := by
  refine ⟨?_, ?_, ?_⟩
  · unfold mrgA; rw [if_neg (fun h => hE h.1)]
  · unfold mrgN; rw [if_neg hE]; exact ⟨_, rfl⟩
  · unfold ordL; rw [if_neg hE]
theorem name_at {L : List Fle} {m : Fle} {D : List Fle} (hl : L.map Fle.fil = (ordL m D).map Fle.fil) (k : Nat) : (L.getD k f0).name = ((ordL m D).getD k f0).name := (fil_parts (fil_getD hl k)).1
theorem len_of {w : World} {a : Option Addr} {n cap : Nat} {m : Fle} {D L : List Fle} (hm : FleAt w.heap.size w m) (h : FsAt w a n cap D) (hb : ∀ f ∈ m :: D, f.len ≤ 1000000 ∧ f.name.size ≤ 1000000) (hL : L.map Fle.fil = (ordL m D).map Fle.fil) {f : Fle} (hf : f ∈ L) (hfl : f.bytes.length = f.len) : f.len ≤ 1000000 := by
  have h1 : f.fil ∈ (ordL m D).map Fle.fil := by rw [← hL]; exact List.mem_map_of_mem hf
  obtain ⟨x, hx, he⟩ := List.mem_map.1 h1
  have hx2 := ordL_mem hx
  have hxl : x.bytes.length = x.len := by
    rcases List.mem_cons.1 hx2 with e | e
    · rw [e]; exact hm.len
    · exact (h.each x e).len
  have hxb := (hb x hx2).1
  obtain ⟨_, _, e3⟩ := fil_parts he
  rw [← hfl, ← e3, hxl]; exact hxb
set_option maxRecDepth 100000 in
set_option maxHeartbeats 32000000 in
theorem walk_bad {G : World → Prop} (HC : DropinC G) (HP : ParseC14 G) (HAW : AwakeC14 G) (m : Fle) (D : List Fle) (a : Option Addr) (n cap : Nat) (w : World) (hG : G w) (hm : FleAt w.heap.size w m) (h : FsAt w a n cap D) (hE : ordE D ≠ 0) : Calls Tryz.prog 7 #[.agg #[.string m.name, .int .i64 m.dir, .slice m.ptr m.len m.cap], .slice a n cap] w fun e w' => e = .returned (.bool true) ∧ Below w.heap.size w w' := by
  have HON := Lib.hid (fun (w w' : World) => HC.on (w := w) (w' := w'))
  have HG := Lib.hid hG
  have HGT := Lib.hid (fun (W : World) (b : Below w.heap.size w W) => great14 m D a n cap W (h.on b))
  have HW := Lib.hid HAW
  have B0 := Lib.hid ((Below.refl w.heap.size w).alloc (Nat.le_refl _) (.cells #[.string m.name, .int .i64 m.dir, .slice m.ptr m.len m.cap] 24))
  have HBX := Lib.hid (heap_alloc_new w (.cells #[.string m.name, .int .i64 m.dir, .slice m.ptr m.len m.cap] 24))
  have HH := Lib.hid h
  have HM := Lib.hid hm
  have HOR := Lib.hid (fun (W : World) (g : G W) (b : Below w.heap.size w W) (hb : ∀ f ∈ m :: D, f.len ≤ 1000000 ∧ f.name.size ≤ 1000000) (hn : n ≤ 1000) => HC.order m D a n cap W g (hm.on b) (h.on b) hb hn)
  have HME := Lib.hid (fun (W : World) (g : G W) (b : Below w.heap.size w W) (hb : ∀ f ∈ m :: D, f.len ≤ 1000000 ∧ f.name.size ≤ 1000000) (hn : n ≤ 1000) => HC.merge m D a n cap W g (hm.on b) (h.on b) hb hn)
  obtain ⟨hA, ⟨T, hN⟩, hO⟩ := one_note (m := m) hE
  rw [hO] at HOR
  rw [hA, hN] at HME
  obtain ⟨E, hE2⟩ : ∃ E, E = ordE D := ⟨_, rfl⟩
  rw [← hE2] at HOR HME hE
  have t1 : (E != 0) = true := by rw [bne_iff_ne]; exact hE
  have t2 : (E == E) = true := by simp
  clear HC HP HAW hG hm h hA hN hO hE hE2
  go_enter Tryz.func7, Tryz.ntmps7
  go_upto_if 16 with (first
    | (go_at_call 8
       with_reducible refine (HGT.out _ B0.out).mono ?_
       rintro e W1 ⟨b, rfl, hs, b1⟩
       have HS := Lib.hid hs
       have B1 := Lib.hid (B0.out.trans (b1.mono B0.out.size))
       have HB1 := Lib.hid b1
       have xb := (b1.block w.heap.size (by rw [World.size_alloc]; exact Nat.lt_succ_self _)).trans HBX.out
       have x0 := (cell_of_row W1 w.heap.size 0 _ _ (0, 0) xb).trans (show _ = some (Value.string m.name) from rfl)
       have x1 := (cell_of_row W1 w.heap.size 1 _ _ (0, 0) xb).trans (show _ = some (Value.int .i64 m.dir) from rfl)
       have x2 := (cell_of_row W1 w.heap.size 2 _ _ (0, 0) xb).trans (show _ = some (Value.slice m.ptr m.len m.cap) from rfl)
       clear xb
       clear b1 hs))
  cases b with
  | true =>
    go_wp2_with (go_at_call 15; ((with_reducible refine (HW.out _ (HON.out _ _ HG.out B1.out)).mono ?_); rintro e Z ⟨rfl, bz⟩); have BZ := Lib.hid (thn13 B1.out bz); clear bz)
    go_ret
    exact ⟨rfl, BZ.out⟩
  | false =>
    have HSM := Lib.hid (HS.out rfl)
    clear HS HGT
    have HSB := Lib.hid (show ∀ f ∈ m :: D, f.len ≤ 1000000 ∧ f.name.size ≤ 1000000 from fun f hf => by have := HSM.out.2 f hf; exact ⟨by have := this.1; omega, by have := this.2; omega⟩)
    have HK := Lib.hid (show n ≤ 1000 from by have := HSM.out.1; omega)
    go_wp2_with (first
      | (go_at_call 10
         with_reducible refine (HOR.out _ (HON.out _ _ HG.out B1.out) B1.out HSB.out HK.out).mono ?_
         rintro e W2 ⟨v, L, rfl, nf, hl, b2⟩
         obtain ⟨q, c, rfl, fs⟩ := nf.fs
         have hl0 : L = [] := List.map_eq_nil_iff.1 hl
         subst hl0
         have B2 := Lib.hid (thn13 B1.out b2)
         have HB2 := Lib.hid (thn13 HB1.out b2)
         have xb := (HB2.out.block w.heap.size (by rw [World.size_alloc]; exact Nat.lt_succ_self _)).trans HBX.out
         have x0 := (cell_of_row W2 w.heap.size 0 _ _ (0, 0) xb).trans (show _ = some (Value.string m.name) from rfl)
         have x1 := (cell_of_row W2 w.heap.size 1 _ _ (0, 0) xb).trans (show _ = some (Value.int .i64 m.dir) from rfl)
         have x2 := (cell_of_row W2 w.heap.size 2 _ _ (0, 0) xb).trans (show _ = some (Value.slice m.ptr m.len m.cap) from rfl)
         clear xb
         clear b2 nf fs hl)
      | (go_at_call 16
         with_reducible refine (HME.out _ (HON.out _ _ HG.out B2.out) B2.out HSB.out HK.out).mono ?_
         rintro e W3 ⟨va, vn, rfl, ⟨qa, ca, ea, _⟩, ⟨qn, cn, en, hr⟩, b3⟩
         obtain ⟨gn, on, rfl, hcn⟩ := hr 0 _ rfl
         have ea2 : va = .slice qa 0 ca := ea
         have en2 : vn = .slice (some ⟨gn, on, none⟩) 1 cn := en
         subst ea2 en2
         have z2 : W3.cell? ⟨gn, on + 2, none⟩ = some (.int .i64 E) := by
           have h9 := hcn 2 _ rfl
           rwa [Nat.zero_mul, Nat.add_zero] at h9
         have B3 := Lib.hid (thn13 B2.out b3)
         clear b3 hr hcn ea en)
      | (go_at_call 15
         with_reducible refine (HW.out _ (HON.out _ _ HG.out B3.out)).mono ?_
         rintro e W4 ⟨rfl, b4⟩
         have B4 := Lib.hid (thn13 B3.out b4)
         clear b4))
    go_ret
    exact ⟨rfl, B4.out⟩
set_option maxRecDepth 100000 in
set_option maxHeartbeats 64000000 in
theorem walk_go {G : World → Prop} (HC : DropinC G) (HP : ParseC14 G) (HAW : AwakeC14 G) (m : Fle) (D : List Fle) (a : Option Addr) (n cap : Nat) (w : World) (hG : G w) (hm : FleAt w.heap.size w m) (h : FsAt w a n cap D) (hE : ordE D = 0) : Calls Tryz.prog 7 #[.agg #[.string m.name, .int .i64 m.dir, .slice m.ptr m.len m.cap], .slice a n cap] w fun e w' => e = .returned (.bool true) ∧ Below w.heap.size w w' := by
  have HON := Lib.hid (fun (w w' : World) => HC.on (w := w) (w' := w'))
  have HG := Lib.hid hG
  have HGT := Lib.hid (fun (W : World) (b : Below w.heap.size w W) => great14 m D a n cap W (h.on b))
  have HW := Lib.hid HAW
  have B0 := Lib.hid ((Below.refl w.heap.size w).alloc (Nat.le_refl _) (.cells #[.string m.name, .int .i64 m.dir, .slice m.ptr m.len m.cap] 24))
  have HBX := Lib.hid (heap_alloc_new w (.cells #[.string m.name, .int .i64 m.dir, .slice m.ptr m.len m.cap] 24))
  have HH := Lib.hid h
  have HM := Lib.hid hm
  have HOR := Lib.hid (fun (W : World) (g : G W) (b : Below w.heap.size w W) (hb : ∀ f ∈ m :: D, f.len ≤ 1000000 ∧ f.name.size ≤ 1000000) (hn : n ≤ 1000) => HC.order m D a n cap W g (hm.on b) (h.on b) hb hn)
  have HME := Lib.hid (fun (W : World) (g : G W) (b : Below w.heap.size w W) (hb : ∀ f ∈ m :: D, f.len ≤ 1000000 ∧ f.name.size ≤ 1000000) (hn : n ≤ 1000) => HC.merge m D a n cap W g (hm.on b) (h.on b) hb hn)
  rw [hE] at HOR
  have e1 : mrgN m D = (ordL m D).flatMap (fun f => filN f.name f.bytes) := by unfold mrgN; rw [if_pos hE]
  have e2 : mrgA m D = pickA ((ordL m D).flatMap (fun f => filN f.name f.bytes)) ((ordL m D).flatMap (fun f => filA f.name f.bytes)) := by
    unfold mrgA pickA
    rw [e1, hE]
    by_cases h0 : (ordL m D).flatMap (fun f => filN f.name f.bytes) = []
    · rw [if_pos ⟨rfl, h0⟩, if_pos h0]
    · rw [if_neg (fun h => h0 h.2), if_neg h0]
  rw [e1, e2] at HME
  have hln := ordL_length m D
  have hl1 : 1 ≤ (ordL m D).length := by unfold ordL; rw [if_pos hE]; exact (ordF_length m D D.length).1
  have h0n : ((ordL m D).getD 0 f0).name = m.name := by unfold ordL; rw [if_pos hE, ordF_is]; rfl
  have HNA := Lib.hid (fun (L : List Fle) (hL : L.map Fle.fil = (ordL m D).map Fle.fil) => (show (L.getD 0 f0).name = m.name ∧ (∀ i, 1 < i → i < L.length → ltN (L.getD (i - 1) f0).name (L.getD i f0).name = true) ∧ L.length ≤ 17 ∧ 1 ≤ L.length from
    ⟨(name_at hL 0).trans h0n, fun i h1 h2 => by rw [name_at hL, name_at hL]; exact ord_rise h1 (by rw [← fil_len hL]; exact h2), by rw [fil_len hL]; exact hln, by rw [fil_len hL]; exact hl1⟩))
  have HLE := Lib.hid (fun (hb : ∀ f ∈ m :: D, f.len ≤ 1000000 ∧ f.name.size ≤ 1000000) (L : List Fle) (hL : L.map Fle.fil = (ordL m D).map Fle.fil) (f : Fle) (hf : f ∈ L) (hfl : f.bytes.length = f.len) => len_of (w := w) hm h hb hL hf hfl)
  have HPN := Lib.hid HP
  obtain ⟨FA, hFA⟩ : ∃ F : Fle → List Asn, F = fun f => filA f.name f.bytes := ⟨_, rfl⟩
  obtain ⟨FN, hFN⟩ : ∃ F : Fle → List Nte, F = fun f => filN f.name f.bytes := ⟨_, rfl⟩
  have HFL := Lib.hid (fun (L : List Fle) (hL : L.map Fle.fil = (ordL m D).map Fle.fil) => (show L.flatMap FA = (ordL m D).flatMap FA ∧ L.flatMap FN = (ordL m D).flatMap FN from ⟨by rw [hFA]; exact flat_fil filA hL, by rw [hFN]; exact flat_fil filN hL⟩))
  have HFA := Lib.hid (show ∀ f : Fle, filA f.name f.bytes = FA f from fun f => by rw [hFA])
  have HFN := Lib.hid (show ∀ f : Fle, filN f.name f.bytes = FN f from fun f => by rw [hFN])
  have LA0 := Lib.hid (fun (L : List Fle) (hL : L.length ≤ 17) k => (show ((L.take k).flatMap FA).length ≤ 17000 from Nat.le_trans (flat_len FA (fun f => by rw [hFA]; exact filA_len _ _) _) (by rw [List.length_take]; omega)))
  have LN0 := Lib.hid (fun (L : List Fle) (hL : L.length ≤ 17) k => (show ((L.take k).flatMap FN).length ≤ 17000 from Nat.le_trans (flat_len FN (fun f => by rw [hFN]; exact filN_len _ _) _) (by rw [List.length_take]; omega)))
  rw [← hFA, ← hFN] at HME
  obtain ⟨OL, hOL⟩ : ∃ L, L = ordL m D := ⟨_, rfl⟩
  rw [← hOL] at HOR HME HLE HFL HNA
  obtain ⟨i0, hi0, hz0, hz1, hz2⟩ := info_parts asn_info
  have HI := Lib.hid hi0
  have HZ0 := Lib.hid hz0
  have HZ1 := Lib.hid hz1
  have HZ2 := Lib.hid hz2
  obtain ⟨j0, hj0, hy0, hy1, hy2⟩ := info_parts nte_info
  have JI := Lib.hid hj0
  have JZ0 := Lib.hid hy0
  have JZ1 := Lib.hid hy1
  have JZ2 := Lib.hid hy2
  have tm : (m.name.toList == m.name.toList) = true := by simp
  have tm2 : (m.name.toList != m.name.toList) = false := by simp
  clear HC HP HAW hG hm h hE e1 e2 hln hl1 h0n hFA hFN hOL hi0 hz0 hz1 hz2 hj0 hy0 hy1 hy2
  go_enter Tryz.func7, Tryz.ntmps7
  go_upto_if 16 with (first
    | (go_at_call 8
       with_reducible refine (HGT.out _ B0.out).mono ?_
       rintro e W1 ⟨b, rfl, hs, b1⟩
       have HS := Lib.hid hs
       have B1 := Lib.hid (B0.out.trans (b1.mono B0.out.size))
       have HB1 := Lib.hid b1
       have xb := (b1.block w.heap.size (by rw [World.size_alloc]; exact Nat.lt_succ_self _)).trans HBX.out
       have x0 := (cell_of_row W1 w.heap.size 0 _ _ (0, 0) xb).trans (show _ = some (Value.string m.name) from rfl)
       have x1 := (cell_of_row W1 w.heap.size 1 _ _ (0, 0) xb).trans (show _ = some (Value.int .i64 m.dir) from rfl)
       have x2 := (cell_of_row W1 w.heap.size 2 _ _ (0, 0) xb).trans (show _ = some (Value.slice m.ptr m.len m.cap) from rfl)
       clear xb
       clear b1 hs))
  cases b with
  | true =>
    go_wp2_with (go_at_call 15; ((with_reducible refine (HW.out _ (HON.out _ _ HG.out B1.out)).mono ?_); rintro e Z ⟨rfl, bz⟩); have BZ := Lib.hid (thn13 B1.out bz); clear bz)
    go_ret
    exact ⟨rfl, BZ.out⟩
  | false =>
    have HSM := Lib.hid (HS.out rfl)
    clear HS HGT
    have HSB := Lib.hid (show ∀ f ∈ m :: D, f.len ≤ 1000000 ∧ f.name.size ≤ 1000000 from fun f hf => by have := HSM.out.2 f hf; exact ⟨by have := this.1; omega, by have := this.2; omega⟩)
    have HK := Lib.hid (show n ≤ 1000 from by have := HSM.out.1; omega)
    go_wp2_with (first
      | (go_at_call 10
         with_reducible refine (HOR.out _ (HON.out _ _ HG.out B1.out) B1.out HSB.out HK.out).mono ?_
         rintro e W2 ⟨v, L, rfl, nf, hl, b2⟩
         obtain ⟨q, c, rfl, fs⟩ := nf.fs
         obtain ⟨N, hN⟩ : ∃ N, N = L.length := ⟨_, rfl⟩
         have HN := Lib.hid hN
         rw [← hN] at fs ⊢
         have HFS2 := Lib.hid fs
         have HLF := Lib.hid (HLE.out HSB.out L hl)
         obtain ⟨nn0, nn1, nn2, nn3⟩ := HNA.out L hl
         have LA := Lib.hid (LA0.out L nn2)
         have LN := Lib.hid (LN0.out L nn2)
         rw [← hN] at nn1 nn2 nn3
         have HN0 := Lib.hid nn0
         have HRI := Lib.hid nn1
         have HL17 := Lib.hid (And.intro nn2 nn3)
         obtain ⟨ff1, ff2⟩ := HFL.out L hl
         have HF1 := Lib.hid ff1
         have HF2 := Lib.hid ff2
         have B2 := Lib.hid (thn13 B1.out b2)
         have HB2 := Lib.hid (thn13 HB1.out b2)
         have xb := (HB2.out.block w.heap.size (by rw [World.size_alloc]; exact Nat.lt_succ_self _)).trans HBX.out
         have x0 := (cell_of_row W2 w.heap.size 0 _ _ (0, 0) xb).trans (show _ = some (Value.string m.name) from rfl)
         have x1 := (cell_of_row W2 w.heap.size 1 _ _ (0, 0) xb).trans (show _ = some (Value.int .i64 m.dir) from rfl)
         have x2 := (cell_of_row W2 w.heap.size 2 _ _ (0, 0) xb).trans (show _ = some (Value.slice m.ptr m.len m.cap) from rfl)
         clear xb
         clear b2 nf fs hl nn0 nn1 nn2 nn3 ff1 ff2 hN)
      | (go_at_call 16
         with_reducible refine (HME.out _ (HON.out _ _ HG.out B2.out) B2.out HSB.out HK.out).mono ?_
         rintro e W ⟨va, vn, rfl, ra, rn, b3⟩
         rw [← HF2.out, ← HF1.out] at ra
         rw [← HF2.out] at rn
         obtain ⟨qa, ca, ea, _⟩ := id ra
         obtain ⟨qn, cn, en, _⟩ := id rn
         obtain ⟨la, hla⟩ : ∃ x, x = (pickA (L.flatMap FN) (L.flatMap FA)).length := ⟨_, rfl⟩
         obtain ⟨ln, hln⟩ : ∃ x, x = (L.flatMap FN).length := ⟨_, rfl⟩
         rw [← hla] at ea
         rw [← hln] at en
         subst ea en
         have HLA := Lib.hid hla
         have HLN := Lib.hid hln
         have RA := Lib.hid ra
         have RN := Lib.hid rn
         have HFS := Lib.hid (HFS2.out.on b3)
         have B3 := Lib.hid (thn13 B2.out b3)
         have HB3 := Lib.hid (thn13 HB2.out b3)
         have xb := (HB3.out.block w.heap.size (by rw [World.size_alloc]; exact Nat.lt_succ_self _)).trans HBX.out
         have x0 := (cell_of_row W w.heap.size 0 _ _ (0, 0) xb).trans (show _ = some (Value.string m.name) from rfl)
         have x1 := (cell_of_row W w.heap.size 1 _ _ (0, 0) xb).trans (show _ = some (Value.int .i64 m.dir) from rfl)
         have x2 := (cell_of_row W w.heap.size 2 _ _ (0, 0) xb).trans (show _ = some (Value.slice m.ptr m.len m.cap) from rfl)
         clear xb
         obtain ⟨gL, oL, hqL, cL, _, _, _⟩ := HFS.out.at (show 0 < N from HL17.out.2)
         rw [Nat.zero_mul, Nat.add_zero, HN0.out] at cL
         subst hqL
         have HG3 := Lib.hid (HON.out _ _ HG.out B3.out)
         have hL1 : (1 : Int) ≤ (N : Int) := by have := HL17.out.2; omega
         have hL2 : (0 : Int) < (N : Int) := by omega
         have hL3 : ¬ (N : Int) = 0 := by omega
         have hL4 : ((N : Int) == 0) = false := by rw [beq_eq_false_iff_ne]; exact hL3
         clear b3 ra rn hla hln))
    go_quiet (fail)
    go_wp2_with fail
    clear hL1 hL2 hL3 hL4 x0 x1 x2 cL tm tm2
    obtain ⟨U, hU⟩ : ∃ U, U = W.drewN nq := ⟨_, rfl⟩
    have BU := Lib.hid (show Below W.heap.size W U from by rw [hU]; exact Go.below_drewN (Below.refl _ _) nq)
    rw [← hU]
    clear hU
    go_loopw [9, 10, 11] (fun v9 v10 v11 wr => ∃ k : Nat, k ≤ N ∧ v11 = .int .i64 k ∧ Hid (OutA U.heap.size wr v9 ((L.take k).flatMap FA)) ∧ Hid (OutN U.heap.size wr v10 ((L.take k).flatMap FN)) ∧ Hid (Below U.heap.size U wr)) (fun _ _ v11 _ => N - (intOf v11).toNat)
    case atStart => exact ⟨0, Nat.zero_le _, rfl, Lib.hid (World.ownsRow_nil _ _ _ _), Lib.hid (World.ownsRow_nil _ _ _ _), Lib.hid (Below.refl _ _)⟩
    case round =>
      obtain ⟨k, hk, rfl, PA, PN, PB⟩ := hrel
      obtain ⟨V, rfl⟩ : ∃ wo : World, wo = wr := ⟨_, rfl⟩
      have BV := Lib.hid (thn13 BU.out PB.out)
      by_cases hlt : k < N
      · have hx : L[k]? = some (L[k]'(by rw [← HN.out]; exact hlt)) := List.getElem?_eq_getElem _
        obtain ⟨g, o, hgo, d0, d1, d2, hat⟩ := HFS.out.at hlt
        injection hgo with hgo
        injection hgo with hgo1 hgo2
        subst hgo1 hgo2
        have hgd : L.getD k f0 = L[k]'(by rw [← HN.out]; exact hlt) := by rw [List.getD_eq_getElem?_getD, hx]; rfl
        rw [hgd] at d0 d1 d2 hat
        obtain ⟨f, hf⟩ : ∃ f, f = L[k]'(by rw [← HN.out]; exact hlt) := ⟨_, rfl⟩
        rw [← hf] at hx d0 d1 d2 hat
        have x0 := (BV.out.cell (World.block_lt_of_cell? W _ d0)).trans d0
        have x1 := (BV.out.cell (World.block_lt_of_cell? W _ d1)).trans d1
        have x2 := (BV.out.cell (World.block_lt_of_cell? W _ d2)).trans d2
        have k1 : (k : Int) < N := by omega
        have k0 : (0 : Int) ≤ k := by omega
        have hw1 : IntKind.i64.wrap ((k : Int) + 1) = k + 1 := by have := HL17.out.1; rw [IntKind.wrap_i64]; omega
        have hfb := HLF.out f (List.mem_of_getElem? hx) hat.len
        have HP := Lib.hid (HPN.out f.name f.dir f.ptr f.len f.cap f.bytes V (HON.out _ _ HG3.out BV.out) hat.len (by omega) (hat.rd.on BV.out))
        rw [HFA.out f, HFN.out f] at HP
        have HTA := Lib.hid (flat_take FA hx)
        have HTN := Lib.hid (flat_take FN hx)
        have la2 := LA.out (k + 1)
        have ln2 := LN.out (k + 1)
        rw [HTA.out, List.length_append] at la2
        rw [HTN.out, List.length_append] at ln2
        have HLA3 := Lib.hid la2
        have HLN3 := Lib.hid ln2
        obtain ⟨TA, hTA⟩ : ∃ T, T = (L.take k).flatMap FA := ⟨_, rfl⟩
        obtain ⟨TN, hTN⟩ : ∃ T, T = (L.take k).flatMap FN := ⟨_, rfl⟩
        rw [← hTA] at PA HTA HLA3
        rw [← hTN] at PN HTN HLN3
        obtain ⟨GA, hGA⟩ : ∃ T, T = FA f := ⟨_, rfl⟩
        obtain ⟨GN, hGN⟩ : ∃ T, T = FN f := ⟨_, rfl⟩
        rw [← hGA] at HP HTA HLA3
        rw [← hGN] at HP HTN HLN3
        obtain ⟨fn, fd, fp, fl, fc, fb⟩ := f
        simp only at x0 x1 x2
        clear hx hf hgd d0 d1 d2 hat hfb la2 ln2 hTA hTN hGA hGN
        go_wp2_with (first
          | (go_at_call 20
             with_reducible refine (HP.out).mono ?_
             rintro e X ⟨wa, wn, rfl, ra, rn, b2, _, nn⟩
             have NN := Lib.hid nn
             obtain ⟨pa, sa, rfl, _⟩ := id ra
             obtain ⟨pn, sn, rfl, _⟩ := id rn
             have RA2 := Lib.hid ra
             have RN2 := Lib.hid rn
             have A2 := Lib.hid (own_on13 PA.out b2)
             have N2 := Lib.hid (own_on13 PN.out b2)
             have C2 := Lib.hid (thn13 PB.out b2)
             clear ra rn b2 nn)
          | (at_builtin
             refine wpList_app_r rfl (.tmp 82) (.tmp 83) 37 rfl U.heap.size 60 i0 _ 5 72 Tryz.underlying37 HI.out HZ0.out HZ1.out HZ2.out rfl (by omega) u9 TA.length (rowC encA TA) rfl A2.out pa GA.length sa (rowC encA GA) rfl (rows_news encA_len (by omega) RA2.out).1 (rows_news encA_len (by omega) RA2.out).2 (rowC_oneCell encA_one _) (by have := HLA3.out; unfold maxLen; omega) (by have := HLA3.out; omega) (C2.out.size) ?_
             intro v3 w3 o3 h3
             have O3 := Lib.hid (show OutA U.heap.size w3 v3 (TA ++ GA) from (by unfold OutA; rw [List.length_append, rowC_app]; exact o3))
             have N3 := Lib.hid (own_other N2.out A2.out (by decide) h3)
             have RN3 := Lib.hid (rows_kept RN2.out NN.out (fun g hg => (PA.out.lt g hg).2) h3)
             have C3 := Lib.hid (C2.out.grown h3 C2.out.size (fun x e => (A2.out.lt x e).1))
             clear o3 h3)
          | (at_builtin
             refine wpList_app_r rfl (.tmp 85) (.tmp 86) 38 rfl U.heap.size 47 j0 _ 4 48 Tryz.underlying38 JI.out JZ0.out JZ1.out JZ2.out rfl (by omega) u10 TN.length (rowC encN TN) rfl N3.out pn GN.length sn (rowC encN GN) rfl (rows_news encN_len (by omega) RN3.out).1 (rows_news encN_len (by omega) RN3.out).2 (rowC_oneCell encN_one _) (by have := HLN3.out; unfold maxLen; omega) (by have := HLN3.out; omega) (C3.out.size) ?_
             intro v4 w4 o4 h4
             have O4 := Lib.hid (show OutN U.heap.size w4 v4 (TN ++ GN) from (by unfold OutN; rw [List.length_append, rowC_app]; exact o4))
             have A4 := Lib.hid (show OutA U.heap.size w4 v3 (TA ++ GA) from own_other O3.out N3.out (by decide) h4)
             have C4 := Lib.hid (C3.out.grown h4 C3.out.size (fun x e => (N3.out.lt x e).1))
             clear o4 h4))
        clear x0 x1 x2
        by_cases hk1 : 1 < k
        · have B4 := Lib.hid (thn13 BU.out C4.out)
          obtain ⟨g, o, hgo, d0, _, _, _⟩ := HFS.out.at hlt
          injection hgo with hgo
          injection hgo with hgo1 hgo2
          subst hgo1 hgo2
          obtain ⟨g, o, hgo, e0, _, _, _⟩ := HFS.out.at (show k - 1 < N by omega)
          injection hgo with hgo
          injection hgo with hgo1 hgo2
          subst hgo1 hgo2
          have y0 := (B4.out.cell (World.block_lt_of_cell? W _ e0)).trans e0
          have y1 := (B4.out.cell (World.block_lt_of_cell? W _ d0)).trans d0
          have tb : Go.Op.bytesLess (L.getD (k - 1) f0).name.toList (L.getD k f0).name.toList = true := HRI.out k hk1 hlt
          obtain ⟨xa, hxa⟩ : ∃ x, x = (L.getD (k - 1) f0).name := ⟨_, rfl⟩
          obtain ⟨xb, hxb⟩ : ∃ x, x = (L.getD k f0).name := ⟨_, rfl⟩
          rw [← hxa] at y0 tb
          rw [← hxb] at y1 tb
          have q1 : (1 : Int) < (k : Int) := by omega
          have q2 : (k : Int) > 1 := q1
          have q3 : IntKind.i64.wrap ((k : Int) - 1) = (k : Int) - 1 := by have := HL17.out.1; rw [IntKind.wrap_i64]; omega
          have q4 : (0 : Int) ≤ (k : Int) - 1 := by omega
          have q5 : (k : Int) - 1 < N := by omega
          have q6 : ((k : Int) - 1).toNat = k - 1 := by omega
          have q7 : (1 : Int) ≤ (k : Int) := by omega
          clear hk1 d0 e0 hxa hxb
          go_quiet (fail)
          go_wp2_with fail
          go_roundw
          case rel => exact ⟨k + 1, by omega, by go_num, Lib.hid (by rw [HTA.out]; exact own_on13 A4.out (Go.below_drewN (Below.refl _ _) _)), Lib.hid (by rw [HTN.out]; exact own_on13 O4.out (Go.below_drewN (Below.refl _ _) _)), Lib.hid (Go.below_drewN C4.out _)⟩
          case measure => simp [intOf]; omega
        · have q1 : ¬ (1 : Int) < (k : Int) := by omega
          have q2 : ¬ (k : Int) > 1 := q1
          clear hk1
          go_quiet (fail)
          go_wp2_with fail
          go_roundw
          case rel => exact ⟨k + 1, by omega, by go_num, Lib.hid (by rw [HTA.out]; exact own_on13 A4.out (Go.below_drewN (Below.refl _ _) _)), Lib.hid (by rw [HTN.out]; exact own_on13 O4.out (Go.below_drewN (Below.refl _ _) _)), Lib.hid (Go.below_drewN C4.out _)⟩
          case measure => simp [intOf]; omega
      · obtain rfl : k = N := by omega
        have k1 : ¬ (k : Int) < k := by omega
        have htk : L.take k = L := List.take_of_length_le (by rw [HN.out]; exact Nat.le_refl _)
        have hla9 := LA.out k
        have hln9 := LN.out k
        rw [htk] at PA PN hla9 hln9
        obtain ⟨pa, sa, rfl⟩ := out_form PA.out
        obtain ⟨pn, sn, rfl⟩ := out_form PN.out
        have HA := Lib.hid (rows_own encA_len PA.out)
        have HNT := Lib.hid (rows_own encN_len PN.out)
        have RA9 := Lib.hid (RA.out.on BV.out)
        have RN9 := Lib.hid (RN.out.on BV.out)
        have B9 := Lib.hid (thn13 B3.out BV.out)
        obtain ⟨TN, hTN⟩ : ∃ T, T = L.flatMap FN := ⟨_, rfl⟩
        obtain ⟨TA, hTA⟩ : ∃ T, T = L.flatMap FA := ⟨_, rfl⟩
        rw [← hTN] at HNT RN9 RA9 HLA HLN hln9 ⊢
        rw [← hTA] at HA RA9 HLA hla9 ⊢
        have HL9 := Lib.hid (show TA.length ≤ 1000000 ∧ TN.length ≤ 1000000 from ⟨by omega, by omega⟩)
        have HLN0 := HLN.out
        rw [← HLN0] at HNT ⊢
        obtain ⟨ya, hya⟩ : ∃ y, y = TA.length := ⟨_, rfl⟩
        rw [← hya] at HA ⊢
        clear htk hTN hTA hla9 hln9 PA PN hlt hk RA RN
        by_cases h0 : ln = 0
        · have e0 : TN = [] := List.eq_nil_of_length_eq_zero (HLN0.symm.trans h0)
          have hla0 : la = ya := by rw [HLA.out, pickA_yes e0, hya]
          have RA0 := Lib.hid (show RowsAt 5 encA V (.slice qa la ca) TA from by have h9 := RA9.out; rwa [pickA_yes e0] at h9)
          subst h0
          have z1 : ((0 : Int) == 0) = true := rfl
          clear hya HLN0 e0 hla0
          go_wp2_with (first
            | (go_at_call 18
               with_reducible refine (sameA14 _ _ _ _ RA0.out HA.out HL9.out.1).mono ?_
               rintro e Z1 ⟨rfl, c1⟩
               have E1 := Lib.hid (thn13 B9.out c1)
               clear c1)
            | (go_at_call 15
               with_reducible refine (HW.out _ (HON.out _ _ HG.out E1.out)).mono ?_
               rintro e Z2 ⟨rfl, c2⟩
               have E2 := Lib.hid (thn13 E1.out c2)
               clear c2))
          go_ret
          exact ⟨rfl, E2.out⟩
        · have e0 : ¬ TN = [] := fun e => h0 (by rw [HLN0, e]; rfl)
          have hla0 : la = 0 := by rw [HLA.out, pickA_no e0]; rfl
          subst hla0
          have z1 : (0 : Int) < (ln : Int) := by omega
          have z2 : (ln : Int) > 0 := z1
          clear hya HLN0 e0 h0
          go_wp2_with (first
            | (go_at_call 19
               with_reducible refine (sameN_yes _ _ _ _ RN9.out HNT.out HL9.out.2).mono ?_
               rintro e Z1 ⟨rfl, c1⟩
               have E1 := Lib.hid (thn13 B9.out c1)
               clear c1)
            | (go_at_call 15
               with_reducible refine (HW.out _ (HON.out _ _ HG.out E1.out)).mono ?_
               rintro e Z2 ⟨rfl, c2⟩
               have E2 := Lib.hid (thn13 E1.out c2)
               clear c2))
          go_ret
          exact ⟨rfl, E2.out⟩
theorem walk {G : World → Prop} (HC : DropinC G) (HP : ParseC14 G) (HAW : AwakeC14 G) (m : Fle) (D : List Fle) (a : Option Addr) (n cap : Nat) (w : World) (hG : G w) (hm : FleAt w.heap.size w m) (h : FsAt w a n cap D) : Calls Tryz.prog 7 #[.agg #[.string m.name, .int .i64 m.dir, .slice m.ptr m.len m.cap], .slice a n cap] w fun e w' => e = .returned (.bool true) ∧ Below w.heap.size w w' := by
  by_cases hE : ordE D = 0
  · exact walk_go HC HP HAW m D a n cap w hG hm h hE
  · exact walk_bad HC HP HAW m D a n cap w hG hm h hE
end Go.Proofs.YtgigdhincpcdbaaGreatDoor.dropinBehind
