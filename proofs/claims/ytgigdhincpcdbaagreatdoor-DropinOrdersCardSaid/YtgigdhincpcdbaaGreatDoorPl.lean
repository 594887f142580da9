/- The statement DropinOrders holds, over what the calls have to return: which files count, in which order; what is returned is new memory. -/
import Derived.Test.YtgigdhincpcdbaaGreatDoorPk
namespace Go.Proofs.YtgigdhincpcdbaaGreatDoor.dropinOrders
open Go.RowKit
set_option linter.unusedVariables false
set_option linter.unusedSimpArgs false
attribute [local go_sem ↓] Go.wp_at_zero Go.wp_at_succ
/-- Files whose names and bytes may be written, in blocks from B on. -/
structure WrF (B : Nat) (W : World) (q : Option Addr) (g : Nat) (L : List Fle) : Prop where
  ptr : 0 < L.length → q = some ⟨g, 0, none⟩
  base : 0 < L.length → B ≤ g
  nm : ∀ i, i < L.length → (∃ s, W.cell? ⟨g, i * 3, none⟩ = some (.string s)) ∧ W.frozen? ⟨g, i * 3, none⟩ = false
  sl : ∀ i, i < L.length → W.cell? ⟨g, i * 3 + 2, none⟩ = some (.slice (L.getD i f0).ptr (L.getD i f0).len (L.getD i f0).cap)
  fit : ∀ i, i < L.length → (L.getD i f0).len ≤ (L.getD i f0).cap ∧ (L.getD i f0).cap ≤ maxLen
  by_ : ∀ i k, i < L.length → k < (L.getD i f0).len → ∃ h, (L.getD i f0).ptr = some ⟨h, 0, none⟩ ∧ B ≤ h ∧ (∃ x, W.cell? ⟨h, k, none⟩ = some (.int .u8 x)) ∧ W.frozen? ⟨h, k, none⟩ = false
theorem WrF.of {B : Nat} {W : World} {v : Value} {L : List Fle} (h : NewF B W v L) : ∃ q c g, v = .slice q L.length c ∧ L.length ≤ c ∧ WrF B W q g L := by
  have each : ∀ i, i < L.length → OwnB B W (L.getD i f0) := fun i hi => h.each _ (getD_memF hi)
  have byt : ∀ i k, i < L.length → k < (L.getD i f0).len → ∃ h, (L.getD i f0).ptr = some ⟨h, 0, none⟩ ∧ B ≤ h ∧ (∃ x, W.cell? ⟨h, k, none⟩ = some (.int .u8 x)) ∧ W.frozen? ⟨h, k, none⟩ = false := fun i k hi hk => by
    have ho := (each i hi).2
    obtain ⟨hb, cb, hv, hB, _⟩ := ho.form (by omega)
    injection hv with e1 e2 e3
    rw [e1, e3] at ho
    have hl : (L.getD i f0).bytes.length = (L.getD i f0).len := (each i hi).at.len
    exact ⟨hb, e1, hB, ⟨_, (ho.cellAt k (by omega)).trans (bL_get (by rw [hl]; exact hk))⟩, ho.frozenAt k⟩
  have fit : ∀ i, i < L.length → (L.getD i f0).len ≤ (L.getD i f0).cap ∧ (L.getD i f0).cap ≤ maxLen := fun i hi => ⟨(each i hi).at.fit, (each i hi).at.most⟩
  rcases h.own.2 with ⟨rfl, e⟩ | ⟨g, cap, cur, rfl, hg, hh, hc, hm, hs, ht⟩
  · exact ⟨none, 0, 0, by rw [e], by omega, fun h => absurd h (by omega), fun h => absurd h (by omega), fun i hi => absurd hi (by omega), fun i hi => absurd hi (by omega), fit, byt⟩
  · refine ⟨_, _, g, rfl, hc, fun _ => rfl, fun _ => hg, fun i hi => ⟨⟨_, (h.own.cellAt (i * 3) (by omega)).trans (rowF_get hi).1⟩, h.own.frozenAt (i * 3)⟩, fun i hi => (h.own.cellAt (i * 3 + 2) (by omega)).trans (rowF_get hi).2.2, fit, byt⟩
theorem cell_set {W : World} {a b : Addr} {v u : Value} (h : W.cell? b = some v) (hne : a ≠ b) : (W.setCell a u).cell? b = some v := by
  rw [World.cell?_setCell_other (a := a) (b := b) W (h := hne)]; exact h
theorem WrF.byte {B : Nat} {W : World} {q : Option Addr} {g : Nat} {L : List Fle} (h : WrF B W q g L) {a : Addr} {x y : Int} (hx : W.cell? a = some (.int .u8 x)) : WrF B (W.setCell a (.int .u8 y)) q g L := by
  refine ⟨h.ptr, h.base, fun i hi => ?_, fun i hi => ?_, h.fit, fun i k hi hk => ?_⟩
  · obtain ⟨⟨s, hs⟩, hf⟩ := h.nm i hi
    exact ⟨⟨s, cell_set hs (fun e => by rw [e, hs] at hx; cases hx)⟩, by rw [World.frozen?_setCell]; exact hf⟩
  · exact cell_set (h.sl i hi) (fun e => by rw [e, h.sl i hi] at hx; cases hx)
  · obtain ⟨b, e1, hB, ⟨z, hz⟩, hf⟩ := h.by_ i k hi hk
    refine ⟨b, e1, hB, ?_, by rw [World.frozen?_setCell]; exact hf⟩
    by_cases e : a = ⟨b, k, none⟩
    · subst e; exact ⟨y, World.cell?_setCell_same _ _ _ hz⟩
    · exact ⟨z, cell_set hz e⟩
theorem WrF.name {B : Nat} {W : World} {q : Option Addr} {g : Nat} {L : List Fle} (h : WrF B W q g L) {a : Addr} {x y : ByteArray} (hx : W.cell? a = some (.string x)) : WrF B (W.setCell a (.string y)) q g L := by
  refine ⟨h.ptr, h.base, fun i hi => ?_, fun i hi => ?_, h.fit, fun i k hi hk => ?_⟩
  · obtain ⟨⟨s, hs⟩, hf⟩ := h.nm i hi
    refine ⟨?_, by rw [World.frozen?_setCell]; exact hf⟩
    by_cases e : a = ⟨g, i * 3, none⟩
    · subst e; exact ⟨y, World.cell?_setCell_same _ _ _ hs⟩
    · exact ⟨s, cell_set hs e⟩
  · exact cell_set (h.sl i hi) (fun e => by rw [e, h.sl i hi] at hx; cases hx)
  · obtain ⟨b, e1, hB, ⟨z, hz⟩, hf⟩ := h.by_ i k hi hk
    exact ⟨b, e1, hB, ⟨z, cell_set hz (fun e => by rw [e, hz] at hx; cases hx)⟩, by rw [World.frozen?_setCell]; exact hf⟩
theorem WrF.on {B : Nat} {W W' : World} {q : Option Addr} {g : Nat} {L : List Fle} (h : WrF B W q g L) (b : Below W.heap.size W W') : WrF B W' q g L := by
  have hc : ∀ {a : Addr} {v : Value}, W.cell? a = some v → W'.cell? a = some v := fun hv => (b.cell (World.block_lt_of_cell? W _ hv)).trans hv
  have hfz : ∀ {a : Addr} {v : Value}, W.cell? a = some v → W.frozen? a = false → W'.frozen? a = false := fun {a v} hv hf => (World.frozen?_of_block (b.block a.block (World.block_lt_of_cell? W _ hv))).trans hf
  refine ⟨h.ptr, h.base, fun i hi => ?_, fun i hi => hc (h.sl i hi), h.fit, fun i k hi hk => ?_⟩
  · obtain ⟨⟨s, hs⟩, hf⟩ := h.nm i hi
    exact ⟨⟨s, hc hs⟩, hfz hs hf⟩
  · obtain ⟨x, e1, hB, ⟨z, hz⟩, hf⟩ := h.by_ i k hi hk
    exact ⟨x, e1, hB, ⟨z, hc hz⟩, hfz hz hf⟩
set_option maxRecDepth 100000 in
set_option maxHeartbeats 32000000 in
theorem walk {G : World → Prop} (HC : DropinC G) (HAW : AwakeC14 G) (m : Fle) (D : List Fle) (a : Option Addr) (n cap : Nat) (s : ByteArray) (w : World) (hG : G w) (hm : FleAt w.heap.size w m) (h : FsAt w a n cap D) (hs : s.size ≤ maxLen) :
    Calls Tryz.prog 3 #[.agg #[.string m.name, .int .i64 m.dir, .slice m.ptr m.len m.cap], .slice a n cap, .string s] w fun e w' => e = .returned (.bool true) ∧ Below w.heap.size w w' := by
  have HON := Lib.hid (fun (w w' : World) => HC.on (w := w) (w' := w'))
  have HG := Lib.hid hG
  have HGT := Lib.hid (fun (W : World) (b : Below w.heap.size w W) => great14 m D a n cap W (h.on b))
  have HH := Lib.hid h
  have HM := Lib.hid hm
  have HCO := Lib.hid (fun (W : World) (b : Below w.heap.size w W) (s : SmallAll n m D) => copied_c D a n cap W (h.on b) (by have := s.1; omega) (fun f hf => by have := (s.2 f (List.mem_cons_of_mem _ hf)).1; omega))
  have HRO := Lib.hid (fun (W : World) (b : Below w.heap.size w W) => refOrder m D a n cap W (h.on b))
  have HRF := Lib.hid (fun (W W' : World) (v : Value) (b : Below w.heap.size w W) (b2 : Below W.heap.size W W') (r : RowsAt 3 encF W' v (ordL m D)) => show FrAt W' v (ordL m D) from ⟨r, fun f hf => by
    have hf2 := ordL_mem hf
    have hat : FleAt w.heap.size w f := by
      rcases List.mem_cons.1 hf2 with e | e
      · rw [e]; exact hm
      · exact h.each f e
    exact ⟨hat.len, (hat.rd.on b).on b2⟩⟩)
  have HW := Lib.hid HAW
  have HOR := Lib.hid (fun (L : List Fle) (a : Option Addr) (n cap : Nat) (W : World) (g : G W) (f1 : FleAt W.heap.size W m) (f2 : FsAt W a n cap L) (hb : ∀ f ∈ m :: L, f.len ≤ 1000000 ∧ f.name.size ≤ 1000000) (hn : n ≤ 1000) => HC.order m L a n cap W g f1 f2 hb hn)
  have B0 := Lib.hid ((Below.refl w.heap.size w).alloc (Nat.le_refl _) (.cells #[.string m.name, .int .i64 m.dir, .slice m.ptr m.len m.cap] 24))
  have HBX := Lib.hid (heap_alloc_new w (.cells #[.string m.name, .int .i64 m.dir, .slice m.ptr m.len m.cap] 24))
  have HDN := Lib.hid h.len
  have HML := Lib.hid (fun (hs : s.size ≤ 200) (W : World) (g : G W) => HC.may s W g (by omega))
  have HRM := Lib.hid (fun (W : World) => refMay s hs W)
  obtain ⟨y, hy⟩ : ∃ y, y = mayL s.data.toList := ⟨_, rfl⟩
  rw [← hy] at HML HRM
  have ty : (y == y) = true := by simp
  have ty2 : (y != y) = false := by simp
  have tE : ∀ E : Int, (E != E) = false := fun E => by simp
  have tE2 := tE (ordE D)
  obtain ⟨E, hE⟩ : ∃ E, E = ordE D := ⟨_, rfl⟩
  have HEE := Lib.hid hE
  rw [← hE] at HRO tE2
  clear HC HAW hG hm h tE hs hy hE
  by_cases hlong : 200 < s.size
  · have l1 : (200 : Int) < s.size := by omega
    have l2 : (s.size : Int) > 200 := l1
    have l3 : decide ((200 : Int) < s.size) = true := decide_eq_true l1
    clear hlong
    go_enter Tryz.func3, Tryz.ntmps3
    go_upto_if 21 with (first
      | (go_at_call 8
         with_reducible refine (HGT.out _ B0.out).mono ?_
         rintro e W1 ⟨b, rfl, hs, b1⟩
         have B1 := Lib.hid (B0.out.trans (b1.mono B0.out.size))
         clear b1 hs))
    all_goals
      cases b <;>
      · go_wp2_with fail
        go_ret
        exact ⟨rfl, B1.out⟩
  have l1 : ¬ (200 : Int) < s.size := by omega
  have l2 : ¬ (s.size : Int) > 200 := l1
  have l3 : decide ((200 : Int) < s.size) = false := decide_eq_false l1
  have HML2 := Lib.hid (HML.out (by omega))
  clear HML hlong
  go_enter Tryz.func3, Tryz.ntmps3
  go_upto_if 21 with (first
    | (go_at_call 8
       with_reducible refine (HGT.out _ B0.out).mono ?_
       rintro e W1 ⟨b, rfl, hs, b1⟩
       have HS := Lib.hid hs
       have B1 := Lib.hid (B0.out.trans (b1.mono B0.out.size))
       have HB1 := Lib.hid b1
       have xb := (b1.block w.heap.size (by rw [World.size_alloc]; exact Nat.lt_succ_self _)).trans HBX.out
       have x0 := (cell_of_row W1 w.heap.size 0 _ _ (0, 0) xb).trans (show _ = some (Value.string m.name) from rfl)
       have x1 := (cell_of_row W1 w.heap.size 1 _ _ (0, 0) xb).trans (show _ = some (Value.int .i64 m.dir) from rfl)
       have x2 := (cell_of_row W1 w.heap.size 2 _ _ (0, 0) xb).trans (show _ = some (Value.slice m.ptr m.len m.cap) from rfl)
       clear b1 hs xb))
  · go_wp2_with fail
    go_ret
    exact ⟨rfl, B1.out⟩
  · rename_i hb
    obtain rfl : b = false := by cases b with | true => exact absurd rfl hb | false => rfl
    clear hb
    have HSM := Lib.hid (HS.out rfl)
    clear HS
    go_wp2_with (first
      | (go_at_call 9
         with_reducible refine (HCO.out _ B1.out HSM.out).mono ?_
         rintro e W2 ⟨v2, L, rfl, nf, hl, b2⟩
         obtain ⟨q2, c2, rfl, fs2⟩ := nf.fs
         have HL := Lib.hid hl
         have FS2 := Lib.hid fs2
         have B2 := Lib.hid (B1.out.trans (b2.mono B1.out.size))
         have HB2 := Lib.hid (HB1.out.trans (b2.mono HB1.out.size))
         have HLN := Lib.hid (show L.length = n from (fil_len hl).trans HDN.out)
         have HLK := Lib.hid (show L.length ≤ 1000 ∧ L.length ≤ 1000000 from by have := HLN.out; have := HSM.out.1; exact ⟨by omega, by omega⟩)
         have HSB := Lib.hid (show ∀ f ∈ m :: L, f.len ≤ 1000000 ∧ f.name.size ≤ 1000000 from (by
           intro f hf
           rcases List.mem_cons.1 hf with e | e
           · rw [e]; have := HSM.out.2 m List.mem_cons_self; exact ⟨by have := this.1; omega, by have := this.2; omega⟩
           · obtain ⟨k, hk, e2⟩ := List.mem_iff_getElem.1 e
             have hg := fil_getD hl k
             have hkD : k < D.length := by rw [← fil_len hl]; exact hk
             have hD := HSM.out.2 _ (List.mem_cons_of_mem _ (getD_memF hkD))
             rw [List.getD_eq_getElem?_getD, List.getElem?_eq_getElem hk, Option.getD_some, e2] at hg
             obtain ⟨g1, _, g3⟩ := fil_parts hg
             have l1 := (fs2.each f e).len
             have l2 := (HH.out.each _ (getD_memF hkD)).len
             refine ⟨?_, by rw [g1]; have := hD.2; omega⟩
             rw [← l1, g3, l2]; have := hD.1; omega))
         have xb := (HB2.out.block w.heap.size (by rw [World.size_alloc]; exact Nat.lt_succ_self _)).trans HBX.out
         have x0 := (cell_of_row W2 w.heap.size 0 _ _ (0, 0) xb).trans (show _ = some (Value.string m.name) from rfl)
         have x1 := (cell_of_row W2 w.heap.size 1 _ _ (0, 0) xb).trans (show _ = some (Value.int .i64 m.dir) from rfl)
         have x2 := (cell_of_row W2 w.heap.size 2 _ _ (0, 0) xb).trans (show _ = some (Value.slice m.ptr m.len m.cap) from rfl)
         clear b2 nf fs2 hl xb)
      | (go_at_call 10
         go_loud (with_reducible refine (HOR.out L q2 L.length c2 _ (HON.out _ _ HG.out B2.out) (HM.out.on B2.out) FS2.out HSB.out HLK.out.1).mono ?_)
         rintro e W3 ⟨v3, L3, rfl, nf3, hl3, b3⟩
         go_loud (rw [ordE_fil HL.out, ← HEE.out])
         have L3le := Lib.hid (show L3.length ≤ 17 from by rw [fil_len hl3]; exact ordL_length _ _)
         have HL3L := Lib.hid (show L3.length ≤ 1000000 from by rw [fil_len hl3]; exact Nat.le_trans (ordL_length _ _) (by decide))
         have HL3 := Lib.hid (hl3.trans (ordL_fil rfl HL.out))
         go_loud (obtain ⟨q3, c3, g3, rfl, hc3, wr3⟩ := WrF.of nf3)
         have WR3 := Lib.hid wr3
         go_loud (obtain ⟨_, _, ev, fs3⟩ := nf3.fs)
         go_loud (have FR3 := Lib.hid (show FrAt W3 (.slice q3 L3.length c3) L3 from (by rw [ev]; exact fs3.fr)))
         have B3 := Lib.hid (B2.out.trans (b3.mono B2.out.size))
         have HB3 := Lib.hid (HB2.out.trans (b3.mono HB2.out.size))
         have D3 := Lib.hid b3
         have xb := (HB3.out.block w.heap.size (by rw [World.size_alloc]; exact Nat.lt_succ_self _)).trans HBX.out
         have x0 := (cell_of_row W3 w.heap.size 0 _ _ (0, 0) xb).trans (show _ = some (Value.string m.name) from rfl)
         have x1 := (cell_of_row W3 w.heap.size 1 _ _ (0, 0) xb).trans (show _ = some (Value.int .i64 m.dir) from rfl)
         have x2 := (cell_of_row W3 w.heap.size 2 _ _ (0, 0) xb).trans (show _ = some (Value.slice m.ptr m.len m.cap) from rfl)
         clear b3 nf3 hl3 wr3 fs3 ev xb)
      | (go_at_call 11
         with_reducible refine (HRO.out _ B3.out).mono ?_
         rintro e W4 ⟨v4, rfl, r4, b4⟩
         have FR4 := Lib.hid (HRF.out _ _ _ B3.out b4 r4)
         have FR34 := Lib.hid (FR3.out.on b4)
         have WR4 := Lib.hid (WR3.out.on b4)
         have B4 := Lib.hid (B3.out.trans (b4.mono B3.out.size))
         have D4 := Lib.hid (D3.out.trans (b4.mono D3.out.size))
         clear b4 r4)
      | (go_at_call 12
         with_reducible refine (sameF _ _ _ _ _ FR34.out FR4.out HL3L.out HL3.out).mono ?_
         rintro e W5 ⟨rfl, b5⟩
         have WR5 := Lib.hid (WR4.out.on b5)
         have B5 := Lib.hid (B4.out.trans (b5.mono B4.out.size))
         have D5 := Lib.hid (D4.out.trans (b5.mono D4.out.size))
         clear b5)
      | (go_at_call 13
         with_reducible refine (HML2.out _ (HON.out _ _ HG.out B5.out)).mono ?_
         rintro e W6 ⟨rfl, b6⟩
         have WR6 := Lib.hid (WR5.out.on b6)
         have B6 := Lib.hid (B5.out.trans (b6.mono B5.out.size))
         have D6 := Lib.hid (D5.out.trans (b6.mono D5.out.size))
         clear b6)
      | (go_at_call 14
         with_reducible refine (HRM.out _).mono ?_
         rintro e W7 ⟨rfl, rfl⟩))
    obtain ⟨N, hN⟩ : ∃ N, N = L3.length := ⟨_, rfl⟩
    have HN := Lib.hid hN
    rw [← hN]
    have HNL := Lib.hid (show N ≤ 17 from by rw [hN]; exact L3le.out)
    clear hN
    go_loopw [12] (fun v12 wr => ∃ i : Nat, i ≤ N ∧ v12 = .int .i64 i ∧ Hid (WrF W2.heap.size wr q3 g3 L3) ∧ Hid (Below W2.heap.size W6 wr)) (fun v12 _ => N - (intOf v12).toNat)
    case atStart => exact ⟨0, Nat.zero_le _, rfl, WR6, Lib.hid (Below.refl _ _)⟩
    case round =>
      obtain ⟨i, hi, rfl, HWR, PB⟩ := hrel
      obtain ⟨V, rfl⟩ : ∃ wo : World, wo = wr := ⟨_, rfl⟩
      by_cases hlt : i < N
      · have hiL : i < L3.length := by rw [← HN.out]; exact hlt
        obtain rfl := HWR.out.ptr (by omega)
        have c2' := HWR.out.sl i hiL
        have HSL := Lib.hid (fun (W : World) (h : WrF W2.heap.size W (some ⟨g3, 0, none⟩) g3 L3) => h.sl i hiL)
        have HNM := Lib.hid (fun (W : World) (h : WrF W2.heap.size W (some ⟨g3, 0, none⟩) g3 L3) => h.nm i hiL)
        have HBY := Lib.hid (fun (W : World) (h : WrF W2.heap.size W (some ⟨g3, 0, none⟩) g3 L3) k => h.by_ i k hiL)
        have HFIT := Lib.hid (HWR.out.fit i hiL)
        have HGB := Lib.hid (HWR.out.base (by omega))
        have i1 : (i : Int) < N := by omega
        have i0 : (0 : Int) ≤ i := by omega
        have hw1 : IntKind.i64.wrap ((i : Int) + 1) = i + 1 := by have := HNL.out; rw [IntKind.wrap_i64]; omega
        obtain ⟨p, hp⟩ : ∃ p, p = (L3.getD i f0).ptr := ⟨_, rfl⟩
        obtain ⟨l, hl⟩ : ∃ l, l = (L3.getD i f0).len := ⟨_, rfl⟩
        obtain ⟨cc, hcc⟩ : ∃ l, l = (L3.getD i f0).cap := ⟨_, rfl⟩
        rw [← hp, ← hl, ← hcc] at c2' HSL
        rw [← hp, ← hl] at HBY
        rw [← hl, ← hcc] at HFIT
        have HLM := Lib.hid (show l ≤ 9223372036854775807 from (by have h := HFIT.out; unfold maxLen at h; omega))
        clear hp hl hcc hiL
        go_wp2_with fail
        go_loopw [13] (fun v13 wr => ∃ k : Nat, k ≤ l ∧ v13 = .int .i64 k ∧ Hid (WrF W2.heap.size wr (some ⟨g3, 0, none⟩) g3 L3) ∧ Hid (Below W2.heap.size W6 wr)) (fun v13 _ => l - (intOf v13).toNat)
        case atStart => exact ⟨0, Nat.zero_le _, rfl, HWR, PB⟩
        case round =>
          clear HWR PB c2'
          obtain ⟨k, hk, rfl, HWR, PB⟩ := hrel
          obtain ⟨U, rfl⟩ : ∃ wo : World, wo = wr := ⟨_, rfl⟩
          have c2' := HSL.out U HWR.out
          by_cases hkt : k < l
          · obtain ⟨b, rfl, hbB, ⟨x, hx⟩, hf⟩ := HBY.out U HWR.out k hkt
            have k1 : (k : Int) < l := by omega
            have k0 : (0 : Int) ≤ k := by omega
            have hw2 : IntKind.i64.wrap ((k : Int) + 1) = k + 1 := by have := HLM.out; rw [IntKind.wrap_i64]; omega
            go_wp2_with fail
            go_roundw
            case rel => exact ⟨k + 1, by omega, by go_num, Lib.hid (HWR.out.byte hx), Lib.hid (PB.out.setCell (p := ⟨b, k, none⟩) hbB _)⟩
            case measure => simp [intOf]; omega
          · obtain rfl : k = l := by omega
            have k1 : ¬ (k : Int) < k := by omega
            obtain ⟨⟨sn, hsn⟩, hfn⟩ := HNM.out U HWR.out
            go_wp2_with fail
            go_roundw
            case rel => exact ⟨i + 1, by omega, by go_num, Lib.hid (HWR.out.name hsn), Lib.hid (PB.out.setCell (p := ⟨g3, i * 3, none⟩) HGB.out _)⟩
            case measure => simp [intOf]; omega
      · obtain rfl : i = N := by omega
        have i1 : ¬ (i : Int) < i := by omega
        have D9 := Lib.hid (D6.out.trans PB.out)
        have B9 := Lib.hid (B2.out.trans (D9.out.mono B2.out.size))
        go_wp2_with (first
          | (go_at_call 12
             with_reducible refine (sameF _ _ _ _ _ (FS2.out.fr.on D9.out) (HH.out.on B9.out).fr HLK.out.2 HL.out).mono ?_
             rintro e X1 ⟨rfl, b1⟩
             have E1 := Lib.hid (B9.out.trans (b1.mono B9.out.size))
             clear b1)
          | (go_at_call 15
             with_reducible refine (HW.out _ (HON.out _ _ HG.out E1.out)).mono ?_
             rintro e X2 ⟨rfl, b2⟩
             have E2 := Lib.hid (E1.out.trans (b2.mono E1.out.size))
             clear b2))
        go_ret
        exact ⟨rfl, E2.out⟩
end Go.Proofs.YtgigdhincpcdbaaGreatDoor.dropinOrders
