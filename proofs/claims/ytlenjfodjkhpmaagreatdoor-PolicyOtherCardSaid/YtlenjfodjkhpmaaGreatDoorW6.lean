/- Assignments that came in; are they more than are gone through? No condition. -/
import Derived.Test.YtlenjfodjkhpmaaGreatDoorW3
import Derived.Test.YtlenjfodjkhpmaaGreatDoorP4
namespace Go.Proofs.YtlenjfodjkhpmaaGreatDoor
set_option maxRecDepth 100000
open Go.Lib (hid)
open Go.ChangeShapes Go.WideShapes Go.ChangeAt Go.RowKit
set_option linter.unusedVariables false
set_option linter.unusedSimpArgs false
attribute [local go_sem ↓] Go.wp_at_zero Go.wp_at_succ

theorem rows_news {α : Type} {sz : Nat} {enc : α → List Value} (hz : ∀ x, (enc x).length = sz) (h0 : 0 < sz) {w : World} {p : Option Addr} {m c : Nat} {O : List α} (h : RowsAt sz enc w (.slice p m c) O) : (rowC enc O).length = m * sz ∧ (0 < m → ∃ ad, p = some ad ∧ ∀ j u, (rowC enc O)[j]? = some u → w.cell? (ad.add j) = some u) := by
 obtain ⟨q, c', e, hr⟩ := h
 injection e with e1 e2 e3
 refine ⟨by rw [rowC_length hz, e2], fun hm => ?_⟩
 obtain ⟨g, o, hq, _⟩ := hr 0 _ (List.getElem?_eq_getElem (by omega))
 refine ⟨⟨g, o, none⟩, by rw [e1, hq], fun j u hu => ?_⟩
 have hj := (List.getElem?_eq_some_iff.1 hu).1
 rw [rowC_length hz] at hj
 have hk : j / sz < O.length := by rw [Nat.div_lt_iff_lt_mul h0]; exact hj
 obtain ⟨g', o', hq', hc⟩ := hr (j / sz) _ (List.getElem?_eq_getElem hk)
 rw [hq] at hq'
 injection hq' with hq'
 injection hq' with e4 e5 _
 have hjj : j / sz * sz + j % sz = j := by rw [Nat.mul_comm]; exact Nat.div_add_mod j sz
 have hlt : j % sz < (enc O[j / sz]).length := by rw [hz]; exact Nat.mod_lt _ h0
 have hg := rowC_get hz (List.getElem?_eq_getElem hk) (j % sz) _ (List.getElem?_eq_getElem hlt)
 rw [hjj, hu] at hg
 have := hc (j % sz) _ (List.getElem?_eq_getElem hlt)
 rw [← e4, ← e5, Nat.add_assoc, hjj] at this
 rw [Addr.add_lit, this]
 exact hg.symm
structure IsAs (w : World) (a : Option Addr) (len cap : Nat) (z : List As) : Prop where
 size : z.length = len
 rng : ∀ y ∈ z, y.file.size ≤ maxLen ∧ y.sec.size ≤ maxLen ∧ y.key.size ≤ maxLen ∧ y.val.size ≤ maxLen
 fits : len ≤ cap
 most : cap ≤ maxLen
 rd : AsAt w a z
 nil : a = none → cap = 0
theorem as_open {H : Type} {enc : TypeId × Value → H} {W : World} {a : Option Addr} {len cap : Nat} {d : DataW H} {p : List MemPlace}
 (h : DataW.Trod enc Tryz.prog W 0 (fun _ => true) true 22 (.slice a len cap) d p) (lt : ∀ x ∈ p, x.block < W.heap.size) : ∃ z, IsAs W a len cap z := by
 obtain ⟨fuel, hf⟩ := h
 rcases open_fields16 Tryz.underlying22 Tryz.underlying37 (by kernel_rfl) (by kernel_rfl) hf with ⟨hcs, _⟩ | ⟨x, l, c, m, hcs, hl, hm, hmm, hx⟩
 ·simp [Value.cells] at hcs
  obtain ⟨rfl, rfl, rfl⟩ := hcs
  exact ⟨[], rfl, (fun y hy => by cases hy), Nat.le_refl _, by unfold maxLen; omega, (fun k a h => by cases h), fun _ => rfl⟩
 ·simp [Value.cells] at hcs
  obtain ⟨rfl, rfl, rfl⟩ := hcs
  simp only [if_true] at hmm
  subst hmm
  have each : ∀ i, i < len → ∃ z : As, (z.file.size ≤ maxLen ∧ z.sec.size ≤ maxLen ∧ z.key.size ≤ maxLen ∧ z.val.size ≤ maxLen) ∧ W.cell? (x.add (i * 5)) = some (.string z.file) ∧ W.cell? (x.add (i * 5 + 1)) = some (.int .i64 z.line) ∧ W.cell? (x.add (i * 5 + 2)) = some (.string z.sec) ∧ W.cell? (x.add (i * 5 + 3)) = some (.string z.key) ∧ W.cell? (x.add (i * 5 + 4)) = some (.string z.val) := by
   intro i hi
   obtain ⟨v0, y0, n0, c0, t0⟩ := hx i (by omega) 0 _ rfl
   obtain ⟨v1, y1, n1, c1, t1⟩ := hx i (by omega) 1 _ rfl
   obtain ⟨v2, y2, n2, c2, t2⟩ := hx i (by omega) 2 _ rfl
   obtain ⟨v3, y3, n3, c3, t3⟩ := hx i (by omega) 3 _ rfl
   obtain ⟨v4, y4, n4, c4, t4⟩ := hx i (by omega) 4 _ rfl
   obtain ⟨z0, e0, _, w0⟩ := DataW.trod_string Tryz.underlying9 t0
   obtain ⟨z1, e1, _, w1⟩ := DataW.trod_int Tryz.underlying3 t1
   obtain ⟨z2, e2, _, w2⟩ := DataW.trod_string Tryz.underlying9 t2
   obtain ⟨z3, e3, _, w3⟩ := DataW.trod_string Tryz.underlying9 t3
   obtain ⟨z4, e4, _, w4⟩ := DataW.trod_string Tryz.underlying9 t4
   simp at e0 e1 e2 e3 e4
   subst e0 e1 e2 e3 e4
   exact ⟨⟨z0, z1, z2, z3, z4⟩, ⟨w0, w2, w3, w4⟩, c0, c1, c2, c3, c4⟩
  have inst : Inhabited As := ⟨⟨⟨#[]⟩, 0, ⟨#[]⟩, ⟨#[]⟩, ⟨#[]⟩⟩⟩
  obtain ⟨Z, hZ⟩ := Go.Deep.choose_lt each
  refine ⟨(List.range len).map Z, by simp, fun z hz => ?_, hl, hm, fun i a hi => ?_, fun h => by cases h⟩
  ·obtain ⟨i, hi, rfl⟩ := List.mem_map.1 hz
   exact (hZ i (List.mem_range.1 hi)).1
  ·obtain ⟨b, o, s⟩ := x
   have hn : 0 < len := by have := (List.getElem?_eq_some_iff.1 hi).1; simp at this; omega
   have hc := (hZ 0 hn).2.1
   have hs : s = none := by simpa [Addr.add] using World.cell?_spot hc
   subst hs
   refine ⟨b, o, rfl, ?_⟩
   rw [List.getElem?_map] at hi
   obtain ⟨j, hj, rfl⟩ := Option.map_eq_some_iff.1 hi
   have hi2 : i < len := by have := (List.getElem?_eq_some_iff.1 hj).1; simpa using this
   rw [List.getElem?_range hi2] at hj
   injection hj with hj
   subst hj
   obtain ⟨_, c0, c1, c2, c3, c4⟩ := hZ i hi2
   rw [Addr.add_lit] at c0 c1 c2 c3 c4
   rw [← Nat.add_assoc] at c1 c2 c3 c4
   exact ⟨c0, c1, c2, c3, c4⟩
structure OkAs (l : List As) : Prop where
 n : l.length ≤ 60
 each : ∀ a ∈ l, a.val.size ≤ 1000 ∧ a.key.size ≤ 200 ∧ a.file.size ≤ 200 ∧ a.sec.size ≤ 200
 sum : sizeV l ≤ 6000
theorem sizeV_step19 {l : List As} {k : Nat} {a : As} (h : l[k]? = some a) : sizeV (l.take (k + 1)) = sizeV (l.take k) + a.val.size := by
 unfold sizeV
 rw [List.take_add_one, h]
 show ((l.take k ++ [a]).map _).sum = _
 rw [List.map_append, List.sum_append]
 simp
def GreatR19 (l : List As) (w : World) (e : Ending) (w' : World) : Prop := ∃ b, e = .returned (.bool b) ∧ (b = false → OkAs l) ∧ (b = true → ¬ OkAs l) ∧ Below w.heap.size w w'
set_option maxHeartbeats 16000000 in
theorem great19 (q : Option Addr) (n c : Nat) (l : List As) (w : World) (hn : n = l.length) (hA : AsAt w q l) (hm : n ≤ maxLen) (hsm : ∀ a ∈ l, a.sec.size ≤ maxLen ∧ a.val.size ≤ maxLen) : Calls Tryz.prog 8 #[.slice q n c] w fun e w' => GreatR19 l w e w' := by
 have HL := hid hn
 have HAA := hid (fun (X : World) (b : Below w.heap.size w X) => hA.on b)
 have HSM := hid hsm
 by_cases h60 : 60 < n
 ·have h1 : (60 : Int) < n := by omega
  have HNO := hid (show ¬ OkAs l from fun h => by have := h.n; omega)
  clear hn hA hm hsm h60
  go_enter Tryz.func8, Tryz.ntmps8
  go_wp2
  go_ret
  exact ⟨true, rfl, fun h => Bool.noConfusion h, fun _ => HNO.out, Below.refl _ _⟩
 ·have h1 : ¬ (60 : Int) < n := by omega
  have hn60 : n ≤ 60 := by omega
  have HG := hid (fun (a : As) (X : World) => great17 pz17 PZ a X)
  clear hn hA hm hsm h60
  unfold GreatR17 asV at HG
  go_enter Tryz.func8, Tryz.ntmps8
  go_wp2
  go_loopw [3, 4] (fun v3 v4 wr => ∃ k : Nat, k ≤ n ∧ v4 = .int .i64 k ∧ Hid (v3 = .int .i64 (sizeV (l.take k) : Nat)) ∧ Hid (∀ a ∈ l.take k, a.val.size ≤ 1000 ∧ a.key.size ≤ 200 ∧ a.file.size ≤ 200 ∧ a.sec.size ≤ 200) ∧ Hid (sizeV (l.take k) ≤ k * 1000) ∧ Hid (Below w.heap.size w wr)) (fun _ v4 _ => n - (intOf v4).toNat)
  case atStart => exact ⟨0, Nat.zero_le _, rfl, hid rfl, hid (fun a h => by cases h), hid (Nat.zero_le _), hid (Below.refl _ _)⟩
  case round =>
   obtain ⟨k, hk, rfl, h3, HE, HSU, PB⟩ := hrel
   have h3 := h3.out
   subst h3
   obtain ⟨V, rfl⟩ : ∃ wo : World, wo = wr := ⟨_, rfl⟩
   by_cases hlt : k < n
   ·obtain ⟨a, ha⟩ : ∃ a, l[k]? = some a := ⟨l[k]'(by rw [← HL.out]; exact hlt), List.getElem?_eq_getElem _⟩
    obtain ⟨g, o, rfl, c0, c1, c2, c3, c4⟩ := HAA.out V PB.out k a ha
    have HST := hid (sizeV_step19 ha)
    have HMM := hid (HSM.out a (List.mem_of_getElem? ha))
    have HMEM := hid (List.mem_of_getElem? ha)
    have HMT := hid (show l.take (k + 1) = l.take k ++ [a] by rw [List.take_add_one, ha]; rfl)
    have HGA := hid (HG.out a)
    obtain ⟨af, al, ax, ak, av⟩ := a
    simp only at c0 c1 c2 c3 c4 HST HGA
    generalize sizeV (l.take k) = s at HST HSU ⊢
    have hsu := HSU.out
    have k1 : (k : Int) < n := by omega
    have k0 : (0 : Int) ≤ k := by omega
    clear ha
    by_cases hgb : GreatB pz17 ⟨af, al, ax, ak, av⟩
    ·have HGN := hid (fun (X : World) => show Calls Tryz.prog 16 #[.agg #[.slice none 0 0, .int .u8 0, .slice none 0 0, .int .u32 0, .int .u8 0, .slice none 0 0, .slice none 0 0, .int .u8 0, .int .u64 0, .bool false, .bool false, .bool false, .bool false], .agg #[.string af, .int .i64 al, .string ax, .string ak, .string av]] X (fun e w' => e = .returned (.bool false) ∧ Below X.heap.size X w') from great_no17 pz17 PZ ⟨af, al, ax, ak, av⟩ hgb X)
     have HO := hid hgb
     have hv := hgb.2.2.2.2.1
     simp only at hv
     have e1 : IntKind.i64.wrap ((s : Int) + av.size) = (s : Int) + av.size := by rw [IntKind.wrap_i64]; omega
     clear hv hsu hgb HGA
     by_cases hx : 200 < ax.size
     ·have x1 : (200 : Int) < ax.size := by omega
      have HNO := hid (show ¬ OkAs l from fun h => by have := (h.each _ HMEM.out).2.2.2; simp only at this; omega)
      clear hx
      go_wp2_with (first
       | (go_at_call 16; ((with_reducible refine (HGN.out _).mono ?_); rintro e v1 ⟨rfl, bb⟩)
          have B1 := hid (thn16 PB.out bb)
          have d2 := (bb.cell (World.block_lt_of_cell? V _ c2)).trans c2
          clear bb))
      go_ret
      exact ⟨true, rfl, fun h => Bool.noConfusion h, fun _ => HNO.out, B1.out⟩
     ·have x1 : ¬ (200 : Int) < ax.size := by omega
      have HX := hid (show ax.size ≤ 200 by omega)
      clear hx
      go_wp2_with (first
       | (go_at_call 16; ((with_reducible refine (HGN.out _).mono ?_); rintro e v1 ⟨rfl, bb⟩)
          have B1 := hid (thn16 PB.out bb)
          have d2 := (bb.cell (World.block_lt_of_cell? V _ c2)).trans c2
          have d4 := (bb.cell (World.block_lt_of_cell? V _ c4)).trans c4
          clear bb))
      go_roundw
      case rel => exact ⟨k + 1, by omega, by go_num, hid (by rw [HST.out]; first | rfl | simp), hid (fun y hy => by
       rw [HMT.out] at hy
       rcases List.mem_append.1 hy with h | h
       ·exact HE.out y h
       ·rw [List.mem_singleton.1 h]; exact ⟨HO.out.2.2.2.2.1, HO.out.2.2.2.2.2.1, HO.out.2.2.2.2.2.2, HX.out⟩), hid (by rw [HST.out, Nat.succ_mul]; exact Nat.add_le_add HSU.out HO.out.2.2.2.2.1), B1⟩
      case measure => first | (simp [intOf]; done) | (simp [intOf]; omega)
    ·have HGY := hid (fun (X : World) => show Calls Tryz.prog 16 #[.agg #[.slice none 0 0, .int .u8 0, .slice none 0 0, .int .u32 0, .int .u8 0, .slice none 0 0, .slice none 0 0, .int .u8 0, .int .u64 0, .bool false, .bool false, .bool false, .bool false], .agg #[.string af, .int .i64 al, .string ax, .string ak, .string av]] X (fun e w' => e = .returned (.bool true) ∧ Below X.heap.size X w') from great_yes17 pz17 PZ ⟨af, al, ax, ak, av⟩ hgb X)
     have HNO := hid (show ¬ OkAs l from fun h => hgb (by
      have := h.each _ HMEM.out
      simp only at this
      exact ⟨by decide, by decide, by decide, by decide, this.1, this.2.1, this.2.2.1⟩))
     clear hgb HGA hsu
     go_wp2_with (first
      | (go_at_call 16; ((with_reducible refine (HGY.out _).mono ?_); rintro e v1 ⟨rfl, bb⟩)
         have B1 := hid (thn16 PB.out bb)
         clear bb))
     go_ret
     exact ⟨true, rfl, fun h => Bool.noConfusion h, fun _ => HNO.out, B1.out⟩
   ·obtain rfl : k = n := by omega
    have k1 : ¬ (k : Int) < k := by omega
    have HT := hid (show l.take k = l from List.take_of_length_le (by rw [← HL.out]; exact Nat.le_refl _))
    rw [HT.out] at HE ⊢
    obtain ⟨s, hs⟩ : ∃ s, s = sizeV l := ⟨_, rfl⟩
    have HS := hid hs
    rw [← hs]
    clear hs
    by_cases h6 : 6000 < s
    ·have x1 : (6000 : Int) < s := by omega
     have HNO := hid (show ¬ OkAs l from fun h => by have := h.sum; rw [← HS.out] at this; omega)
     go_wp2_with fail
     go_ret
     exact ⟨true, rfl, fun h => Bool.noConfusion h, fun _ => HNO.out, PB.out⟩
    ·have x1 : ¬ (6000 : Int) < s := by omega
     have HK := hid (show l.length ≤ 60 by rw [← HL.out]; exact hn60)
     have HS6 := hid (show s ≤ 6000 by omega)
     go_wp2_with fail
     go_ret
     exact ⟨false, rfl, fun _ => ⟨HK.out, HE.out, by rw [← HS.out]; exact HS6.out⟩, fun h => Bool.noConfusion h, PB.out⟩
theorem great_ok19 (q : Option Addr) (n c : Nat) (l : List As) (w : World) (hI : IsAs w q n c l) (ho : OkAs l) : Calls Tryz.prog 8 #[.slice q n c] w fun e w' => e = .returned (.bool false) ∧ Below w.heap.size w w' :=
 (great19 q n c l w hI.size.symm hI.rd (Nat.le_trans hI.fits hI.most) (fun a ha => ⟨(hI.rng a ha).2.1, (hI.rng a ha).2.2.2⟩)).mono fun e w' ⟨b, h1, h2, h3, h4⟩ => by
   cases b with
   | false => exact ⟨h1, h4⟩
   | true => exact absurd ho (h3 rfl)
theorem great_no19 (q : Option Addr) (n c : Nat) (l : List As) (w : World) (hI : IsAs w q n c l) (ho : ¬ OkAs l) : Calls Tryz.prog 8 #[.slice q n c] w fun e w' => e = .returned (.bool true) ∧ Below w.heap.size w w' :=
 (great19 q n c l w hI.size.symm hI.rd (Nat.le_trans hI.fits hI.most) (fun a ha => ⟨(hI.rng a ha).2.1, (hI.rng a ha).2.2.2⟩)).mono fun e w' ⟨b, h1, h2, h3, h4⟩ => by
   cases b with
   | true => exact ⟨h1, h4⟩
   | false => exact absurd (h2 rfl) ho
end Go.Proofs.YtlenjfodjkhpmaaGreatDoor
