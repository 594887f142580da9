/- What the calls Encode and Decode of the package insn return, as the chapter says. Condition: a slice is as long as its capacity allows. -/
import Derived.Test.YtekmbhjdacaphaaDoorIs
namespace Go.Proofs.YtekmbhjdacaphaaDoor
open Go.RowKit
set_option linter.unusedVariables false
attribute [local go_sem ↓] Go.wp_at_zero Go.wp_at_succ

theorem Rd.al {w : World} {p : Option Addr} {xs : List Int} (h : Rd w w.heap.size p xs) (o : Obj) : Rd (w.alloc o) (w.alloc o).heap.size p xs := (h.alloc (Nat.le_refl _) o).more (by simp)
theorem Rd.lit' (w : World) (cs : Array Value) (e : TypeId) (xs : List Int) (h : cs = (bv xs).toArray) : Rd (w.alloc (.cells cs e)) (w.alloc (.cells cs e)).heap.size (some ⟨w.heap.size, 0, none⟩) xs := (Rd.lit w cs e xs h).more (by simp)
theorem lit2 (w : World) (jt jf : Int) {s : Nat} (hs : s = w.heap.size) : Rd (w.alloc (.cells #[.int .u8 jt, .int .u8 jf] 5)) (w.alloc (.cells #[.int .u8 jt, .int .u8 jf] 5)).heap.size (some ⟨s, 0, none⟩) [jt, jf] := hs ▸ Rd.lit' w _ _ _ rfl
theorem lit2d (w : World) (jt jf : Int) {s : Nat} (hs : s = w.heap.size) : Rd (w.alloc (.cells #[.int .u8 jt, .int .u8 jf] 5)).drew (w.alloc (.cells #[.int .u8 jt, .int .u8 jf] 5)).drew.heap.size (some ⟨s, 0, none⟩) [jt, jf] := lit2 w jt jf hs
theorem drew_size (w : World) : w.drew.heap.size = w.heap.size := rfl
theorem RdL.three {w : World} {p q r : Option Addr} {n m k c d f : Nat} {xs ys zs : List Int} (e : TypeId) (h1 : Rd w w.heap.size p xs) (h2 : Rd w w.heap.size q ys) (h3 : Rd w w.heap.size r zs) (hx : xs.length = n) (hy : ys.length = m) (hz : zs.length = k)
    (hp : p = none → c = 0) (hq : q = none → d = 0) (hr : r = none → f = 0) :
    RdL (w.alloc (.cells #[.slice p n c, .slice q m d, .slice r k f] e)) (w.heap.size + 1) (some ⟨w.heap.size, 0, none⟩) [xs, ys, zs] := fun _ => by
  subst hx hy hz
  refine ⟨_, 0, rfl, by omega, fun i hi => ?_⟩
  rw [Nat.zero_add, cell_of_row (w.alloc (.cells #[.slice p xs.length c, .slice q ys.length d, .slice r zs.length f] e)) w.heap.size i _ e (0, 0) (heap_alloc_new w _)]
  match i, hi with
  | 0, _ => exact ⟨p, c, rfl, (h1.alloc (Nat.le_refl _) _).more (by omega), hp⟩
  | 1, _ => exact ⟨q, d, rfl, (h2.alloc (Nat.le_refl _) _).more (by omega), hq⟩
  | 2, _ => exact ⟨r, f, rfl, (h3.alloc (Nat.le_refl _) _).more (by omega), hr⟩
theorem cat_enc {w : World} {s : Nat} {g1 g2 g3 : Addr} {c jt jf k : Int} (hs : s = w.heap.size) (h1 : Rd w w.heap.size (some g1) (putL 2 c)) (h2 : Rd w w.heap.size (some g2) [jt, jf]) (h3 : Rd w w.heap.size (some g3) (putL 4 k)) :
    Calls Tryd.prog 21 #[.slice (some ⟨s, 0, none⟩) 3 3] (w.alloc (.cells #[.slice (some g1) 2 2, .slice (some g2) 2 2, .slice (some g3) 4 4] 34)) fun e w' => ∃ g, e = .returned (.slice (some ⟨g, 0, none⟩) 8 8) ∧
      w'.ownsRow (w.alloc (.cells #[.slice (some g1) 2 2, .slice (some g2) 2 2, .slice (some g3) 4 4] 34)).heap.size 5 1 (.slice (some ⟨g, 0, none⟩) 8 8) 8 (bv (encL ⟨c, jt, jf, k⟩)) ∧
      Below (w.alloc (.cells #[.slice (some g1) 2 2, .slice (some g2) 2 2, .slice (some g3) 4 4] 34)).heap.size (w.alloc (.cells #[.slice (some g1) 2 2, .slice (some g2) 2 2, .slice (some g3) 4 4] 34)) w' := by
  subst hs
  have hf : [putL 2 c, [jt, jf], putL 4 k].flatten = encL ⟨c, jt, jf, k⟩ := by simp [encL]
  have hz : (w.alloc (.cells #[.slice (some g1) 2 2, .slice (some g2) 2 2, .slice (some g3) 4 4] 34)).heap.size = w.heap.size + 1 := by simp
  have H := Cat_any (some ⟨w.heap.size, 0, none⟩) 3 3 [putL 2 c, [jt, jf], putL 4 k] (w.alloc (.cells #[.slice (some g1) 2 2, .slice (some g2) 2 2, .slice (some g3) 4 4] 34)) rfl (by omega) (by rw [hf, encL_length]; omega)
    ((RdL.three 34 h1 h2 h3 (putL_length _ _) rfl (putL_length _ _) (fun h => by cases h) (fun h => by cases h) (fun h => by cases h)).more (by omega))
  rw [hf, encL_length] at H
  exact H
/-- A box's four cells, and what lay ahead of it, behind a step that makes new memory alone. -/
theorem keep4 {w0 v w' : World} {p0 p1 p2 p3 : Addr} {u0 u1 u2 u3 : Value} (hb : Below v.heap.size v w') (h : v.cell? p0 = some u0 ∧ v.cell? p1 = some u1 ∧ v.cell? p2 = some u2 ∧ v.cell? p3 = some u3 ∧ Below w0.heap.size w0 v) :
    w'.cell? p0 = some u0 ∧ w'.cell? p1 = some u1 ∧ w'.cell? p2 = some u2 ∧ w'.cell? p3 = some u3 ∧ Below w0.heap.size w0 w' :=
  ⟨(hb.cell (World.block_lt_of_cell? v p0 h.1)).trans h.1, (hb.cell (World.block_lt_of_cell? v p1 h.2.1)).trans h.2.1, (hb.cell (World.block_lt_of_cell? v p2 h.2.2.1)).trans h.2.2.1, (hb.cell (World.block_lt_of_cell? v p3 h.2.2.2.1)).trans h.2.2.2.1, thn h.2.2.2.2 hb⟩
theorem al4 {w0 v : World} {o : Obj} {p0 p1 p2 p3 : Addr} {u0 u1 u2 u3 : Value} (h : v.cell? p0 = some u0 ∧ v.cell? p1 = some u1 ∧ v.cell? p2 = some u2 ∧ v.cell? p3 = some u3 ∧ Below w0.heap.size w0 v) :
    (v.alloc o).cell? p0 = some u0 ∧ (v.alloc o).cell? p1 = some u1 ∧ (v.alloc o).cell? p2 = some u2 ∧ (v.alloc o).cell? p3 = some u3 ∧ Below w0.heap.size w0 (v.alloc o) := keep4 ((Below.refl _ _).alloc (Nat.le_refl _) o) h
theorem al4d {w0 v : World} {o : Obj} {p0 p1 p2 p3 : Addr} {u0 u1 u2 u3 : Value} (h : v.drew.cell? p0 = some u0 ∧ v.drew.cell? p1 = some u1 ∧ v.drew.cell? p2 = some u2 ∧ v.drew.cell? p3 = some u3 ∧ Below w0.heap.size w0 v.drew) :
    (v.alloc o).drew.cell? p0 = some u0 ∧ (v.alloc o).drew.cell? p1 = some u1 ∧ (v.alloc o).drew.cell? p2 = some u2 ∧ (v.alloc o).drew.cell? p3 = some u3 ∧ Below w0.heap.size w0 (v.alloc o).drew :=
  keep4 (v := v.drew) (let b := (Below.refl v.heap.size v).alloc (Nat.le_refl _) o; ⟨b.os, b.tape, b.output, b.size, b.block⟩) h
set_option maxHeartbeats 1000000 in
theorem encodeC : EncodeC := by
  intro i w h
  obtain ⟨c, jt, jf, k⟩ := i
  obtain ⟨c0, c1, t0, t1, f0, f1, k0, k1⟩ := h
  simp only at c0 c1 t0 t1 f0 f1 k0 k1
  have HP := Lib.hid (fun W => Put16_any c W c0)
  have HQ := Lib.hid (fun W => Put32_any k W k0)
  clear c0 c1 t0 t1 f0 f1 k0 k1
  obtain ⟨W, hW⟩ : ∃ W, W = w.alloc (.cells #[.int .u16 c, .int .u8 jt, .int .u8 jf, .int .u32 k] 47) := ⟨_, rfl⟩
  have hsz : W.heap.size = w.heap.size + 1 := by rw [hW]; simp
  have hB : Below w.heap.size w W := by rw [hW]; exact (Below.refl _ _).alloc (Nat.le_refl _) _
  have q : W.cell? ⟨w.heap.size, 0, none⟩ = some (.int .u16 c) ∧ W.cell? ⟨w.heap.size, 1, none⟩ = some (.int .u8 jt) ∧ W.cell? ⟨w.heap.size, 2, none⟩ = some (.int .u8 jf) ∧ W.cell? ⟨w.heap.size, 3, none⟩ = some (.int .u32 k) := by
    have hx := Below.refl W.heap.size W
    rw [hW] at hx ⊢
    exact ⟨box_cells hx 0 _ rfl, box_cells hx 1 _ rfl, box_cells hx 2 _ rfl, box_cells hx 3 _ rfl⟩
  go_enter Tryd.func22, Tryd.ntmps22
  go_wp2_with fail
  rw [← hW]
  obtain ⟨q0, q1, q2, q3⟩ := q
  have HB := Lib.hid hB
  have HZ := Lib.hid hsz
  clear hW hB hsz
  go_region_held3 (fun w' => w'.cell? ⟨w.heap.size, 0, none⟩ = some (.int .u16 c) ∧ w'.cell? ⟨w.heap.size, 1, none⟩ = some (.int .u8 jt) ∧ w'.cell? ⟨w.heap.size, 2, none⟩ = some (.int .u8 jf) ∧ w'.cell? ⟨w.heap.size, 3, none⟩ = some (.int .u32 k) ∧ Below w.heap.size w w')
    (first | assumption | exact ⟨q0, q1, q2, q3, HB.out.drew⟩ | (with_reducible refine al4 ?_; assumption) | (with_reducible refine al4d ?_; assumption) | exact keep4 (by assumption) (by assumption)) (first
    | (go_at_call 31; ((with_reducible refine (HP.out _).mono ?_); rintro e w1 ⟨g1, rfl, o1, b1⟩; have r1 := Rd.of_own o1))
    | (go_at_call 32; ((with_reducible refine (HQ.out _).mono ?_); rintro e w2 ⟨g2, rfl, o2, b2⟩; have r2 := Rd.of_own o2))
    | (go_at_call 21
       refine (cat_enc (by first | rfl | simp)
         (by with_reducible first | exact r1 | exact r1.al _ | exact r1.on b2 | exact (r1.on b2).al _ | exact (r1.al _).on b2)
         (by with_reducible first | exact lit2 _ jt jf (by first | rfl | simp) | exact (lit2 _ jt jf (by first | rfl | simp)).on b1 | exact (lit2 _ jt jf (by first | rfl | simp)).on b2 | exact ((lit2 _ jt jf (by first | rfl | simp)).on b1).on b2 | exact ((lit2d _ jt jf (by first | rfl | simp)).on b1).on b2 | exact ((lit2 _ jt jf (by first | rfl | simp)).on b2).on b1)
         (by with_reducible first | exact r2 | exact r2.al _ | exact r2.on b1 | exact (r2.on b1).al _ | exact (r2.al _).on b1)).mono ?_
       rintro e w3 ⟨g3, rfl, o3, b3⟩))
  all_goals
    have hall : Below w.heap.size w w3 := (by assumption : _ ∧ _ ∧ _ ∧ _ ∧ Below w.heap.size w w3).2.2.2.2
    have z1 := b1.size
    have z2 := b2.size
    have z0 := HZ.out
    have hz : w.heap.size ≤ _ := Nat.le_refl _
    simp only [World.size_alloc, drew_size] at z1 z2
    have o4 := own_mono (B' := w.heap.size) o3 (by simp only [World.size_alloc]; omega)
    clear hz z0 z1 z2 o1 o2 o3 b1 b2 b3 r1 r2 q0 q1 q2 q3 HB HZ HP HQ
    go_wp2
    go_ret
    exact ⟨_, 8, rfl, o4, hall⟩
set_option maxHeartbeats 1600000 in
theorem decodeC : DecodeC := by
  intro p c xs w hx hB hc hm h
  have ok := decL_ok hB
  have hc0 := getV_true (k := 2) (xs := xs) (a := 0) (by omega)
  have hk0 := getV_true (k := 4) (xs := xs) (a := 4) (by omega)
  have G2 := Lib.hid (fun W (hw : Rd W w.heap.size p xs) => Get16_any p 8 c _ xs W hx hB (by omega) hw 0 (by omega))
  have G4 := Lib.hid (fun W (hw : Rd W w.heap.size p xs) => Get32_any p 8 c _ xs W hx hB (by omega) hw 4 (by omega))
  have e2 : getV 2 xs 0 = (decL xs).c := hc0
  have e4 : getV 4 xs 4 = (decL xs).k := hk0
  rw [e2, getB_true (by omega) (by omega)] at G2
  rw [e4, getB_true (by omega) (by omega)] at G4
  obtain ⟨b, o, rfl, hb, hcl⟩ := h (by omega)
  have c2 := hcl 2 (by omega)
  have c3 := hcl 3 (by omega)
  have hr := h
  obtain ⟨i, hi⟩ : ∃ i, i = decL xs := ⟨_, rfl⟩
  have j2 : xs.getD 2 0 = i.jt := by rw [hi]; rfl
  have j3 : xs.getD 3 0 = i.jf := by rw [hi]; rfl
  rw [← hi] at G2 G4 ok ⊢
  rw [j2] at c2
  rw [j3] at c3
  clear hi j2 j3 hc0 hk0 e2 e4 hcl
  obtain ⟨ci, jt, jf, ki⟩ := i
  obtain ⟨q0, q1, q2, q3, q4, q5, q6, q7⟩ := ok
  simp only at q0 q1 q2 q3 q4 q5 q6 q7 c2 c3
  have hra := Lib.hid (show Rd (w.alloc (.cells #[.int .u16 0, .int .u8 0, .int .u8 0, .int .u32 0] 47)) w.heap.size (some ⟨b, o, none⟩) xs from hr.alloc (Nat.le_refl _) _)
  have d2 : (w.alloc (.cells #[.int .u16 0, .int .u8 0, .int .u8 0, .int .u32 0] 47)).cell? ⟨b, o + 2, none⟩ = some (.int .u8 jt) := (World.cell?_alloc_lt w _ ⟨b, o + 2, none⟩ hb).trans c2
  have d3 : (w.alloc (.cells #[.int .u16 0, .int .u8 0, .int .u8 0, .int .u32 0] 47)).cell? ⟨b, o + 3, none⟩ = some (.int .u8 jf) := (World.cell?_alloc_lt w _ ⟨b, o + 3, none⟩ hb).trans c3
  clear hx hB h hr
  go_enter Tryd.func28, Tryd.ntmps28
  go_wp2_with (first
    | (go_at_call 36; ((with_reducible refine (G2.out _ hra.out).mono ?_); rintro e w' ⟨rfl, rfl⟩))
    | (go_at_call 37; ((with_reducible refine (G4.out _ hra.out).mono ?_); rintro e w' ⟨rfl, rfl⟩)))
  go_region
  go_wp2
  refine bodyPost_ret (v := .tuple #[.agg #[.int .u16 ci, .int .u8 jt, .int .u8 jf, .int .u32 ki], .int .i64 0]) (by simp [results, Tryd.results28, go_sem]) rfl ⟨rfl, ?_⟩
  exact ((Below.refl _ _).alloc (Nat.le_refl _) _).drew
theorem decodeBadC : DecodeBadC := by
  intro p n c w h hm
  have h1 : ((n : Int) != 8) = true := by simp; omega
  have h2 : ¬ (n : Int) = 8 := by omega
  clear h
  go_enter Tryd.func28, Tryd.ntmps28
  go_wp2
  refine bodyPost_ret (v := .tuple #[.agg #[.int .u16 0, .int .u8 0, .int .u8 0, .int .u32 0], .int .i64 20]) (by simp [results, Tryd.results28, go_sem]) rfl ⟨rfl, ?_⟩
  exact (Below.refl _ _).alloc (Nat.le_refl _) _
end Go.Proofs.YtekmbhjdacaphaaDoor
