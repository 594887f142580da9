/- What the document's own Sure returns: the cells that are certain. Condition: a program of at most MaxInsns instructions. -/
import Derived.Test.YtohfampfnhfnlaaDoorOc
import Derived.Laws.BitsAllLaws
namespace Go.Proofs.YtohfampfnhfnlaaDoor
open Go.RowKit
set_option linter.unusedVariables false
attribute [local go_sem ↓] Go.wp_at_zero Go.wp_at_succ

/-- A row of sets. -/
def rowS (n : Nat) (f : Nat → Nat) : List Value := (List.range n).map (fun j => Value.int .u16 ((f j : Nat) : Int))
theorem rowS_length (n : Nat) (f : Nat → Nat) : (rowS n f).length = n := by simp [rowS]
theorem rowS_get {n : Nat} (f : Nat → Nat) {j : Nat} (h : j < n) : (rowS n f)[j]? = some (.int .u16 ((f j : Nat) : Int)) := by
  unfold rowS
  rw [List.getElem?_map, List.getElem?_range h]; rfl
theorem rowS_congr {n : Nat} {f g : Nat → Nat} (h : ∀ j, j < n → f j = g j) : rowS n f = rowS n g := by
  unfold rowS
  exact List.map_congr_left fun j hj => by rw [h j (List.mem_range.1 hj)]
theorem rowS_set (n x v : Nat) (f : Nat → Nat) : (rowS n f).set x (.int .u16 ((v : Nat) : Int)) = rowS n (fun j => if j = x then v else f j) := by
  apply List.ext_getElem?
  intro j
  by_cases hj : j < n
  · rw [List.getElem?_set]
    by_cases e : x = j
    · subst e; rw [if_pos rfl, if_pos (by rw [rowS_length]; exact hj), rowS_get _ hj, if_pos rfl]
    · rw [if_neg e, rowS_get _ hj, rowS_get _ hj, if_neg (fun h => e h.symm)]
  · rw [List.getElem?_eq_none (by rw [List.length_set, rowS_length]; omega), List.getElem?_eq_none (by rw [rowS_length]; omega)]
theorem made_sets (n : Nat) : (madeCells (Value.int .u16 0).cells (n * 1)).toList = rowS n (fun _ => 0) := by
  apply List.ext_getElem?
  intro j
  by_cases hj : j < n
  · rw [rowS_get _ hj]
    unfold madeCells
    rw [Array.getElem?_toList, Array.getElem?_map, Array.getElem?_range, if_pos (by omega)]
    show some ((#[Value.int .u16 0] : Array Value)[j % 1]!) = _
    rw [Nat.mod_one]; rfl
  · rw [List.getElem?_eq_none (by simp [madeCells]; omega), List.getElem?_eq_none (by rw [rowS_length]; omega)]
theorem u16_info : (Tryd.prog.info? 32).map (fun i => (i.zero, i.size, i.bytes)) = some (some (.int .u16 0), 1, 2) := by kernel_rfl
/-- A row of sets of one's own. -/
def SetsTo (n : Nat) (f : Nat → Nat) (w : World) (e : Ending) (w' : World) : Prop := ∃ q c, e = .returned (.slice q n c) ∧ w'.ownsRow w.heap.size 32 1 (.slice q n c) n (rowS n f) ∧ Below w.heap.size w w'
theorem own_but2 {w w' : World} {B n size : Nat} {e : TypeId} {v : Value} {xs : List Value} (h : w.ownsRow B e size v n xs) (hg : ∀ g, v.ownBlock = some g → w'.heap[g]? = w.heap[g]?) : w'.ownsRow B e size v n xs := by
  obtain ⟨h1, h2⟩ := h
  refine ⟨h1, ?_⟩
  rcases h2 with h2 | ⟨g, cap, cur, hv, hgB, hh, r⟩
  · exact Or.inl h2
  · exact Or.inr ⟨g, cap, cur, hv, hgB, by rw [hg g (by rw [hv]; rfl)]; exact hh, r⟩
theorem un_mark {p : List Ins} {c i : Nat} (hi : i ≤ p.length) : unB p c i = mark (nextL p) (fun i => !writesB p c i) i i := mark_more next_up hi
theorem sureTo_yes {p : List Ins} {c i : Nat} (h : unB p c i = false) : sureTo p i (c + 1) = sureTo p i c ||| 2 ^ c := by
  show (if unB p c i then _ else _) = _
  rw [h]; rfl
theorem sureTo_no {p : List Ins} {c i : Nat} (h : unB p c i = true) : sureTo p i (c + 1) = sureTo p i c := by
  show (if unB p c i then _ else _) = _
  rw [h]; rfl
theorem writes_at {p : List Ins} {c i : Nat} {x : Ins} (h : p[i]? = some x) : writesB p c i = ((x.c == 2 || x.c == 3) && x.k == (c : Int)) := by unfold writesB; rw [h]
theorem or_set {s c : Nat} (hs : s < 2 ^ c) (hc : c < 16) : bits .or .u16 (s : Int) (((2 : Nat) ^ c : Nat) : Int) = ((s ||| 2 ^ c : Nat) : Int) := by
  have h1 : 2 ^ c < 65536 := by
    have : (2 : Nat) ^ c ≤ 2 ^ 15 := Nat.pow_le_pow_right (by decide) (by omega)
    omega
  exact u16_or_nat s (2 ^ c) (by omega) h1
theorem one_shl {c : Nat} (hc : c < 16) : IntKind.u16.wrap (2 ^ c) = (((2 : Nat) ^ c : Nat) : Int) := by
  have h1 : (2 : Nat) ^ c < 65536 := by
    have : (2 : Nat) ^ c ≤ 2 ^ 15 := Nat.pow_le_pow_right (by decide) (by omega)
    omega
  have e : (2 : Int) ^ c = (((2 : Nat) ^ c : Nat) : Int) := by simp
  rw [e, IntKind.wrap_u16]
  generalize (2 : Nat) ^ c = y at h1
  omega
set_option maxRecDepth 100000 in
set_option maxHeartbeats 32000000 in
theorem refSure (a0 : Option Addr) (n cap : Nat) (p : List Ins) (w : World) (hl : p.length = n) (hn : n ≤ 4096) (hp : OkL p) (hr : RdI w w.heap.size a0 p) :
    Calls Tryd.prog 35 #[.slice a0 n cap] w (SetsTo n (sureN p) w) := by
  obtain ⟨i0, hi, hz0, hz1, hz2⟩ := info_parts bool_info
  have HI := Lib.hid hi
  have H0 := Lib.hid hz0
  have H1 := Lib.hid hz1
  obtain ⟨i1, ki, kz0, kz1, kz2⟩ := info_parts u16_info
  have KI := Lib.hid ki
  have K0 := Lib.hid kz0
  have K1 := Lib.hid kz1
  have hm0 : i0.bytes * n ≤ 281474976710656 := by rw [hz2]; omega
  have km0 : i1.bytes * n ≤ 281474976710656 := by rw [kz2]; omega
  have hm1 : n ≤ maxLen := by unfold maxLen; omega
  have HL := Lib.hid hl
  have HP := Lib.hid hp
  have HR := Lib.hid hr
  have HN := Lib.hid (fun (W : World) (i : Nat) (h : Below w.heap.size w W) => refNext a0 n cap p i W hl hn hp ((hr.keep fun q hq => h.cell hq).more h.size))
  have n5 : decide ((4096 : Int) < n) = false := decide_eq_false (by omega)
  have n4 : (n : Int) ≤ 4096 := by omega
  clear hi hz0 hz1 hz2 ki kz0 kz1 kz2 hl hn hp hr
  go_enter Tryd.func35, Tryd.ntmps35
  go_wp2_with (first
    | ((with_reducible show wpList _ _ _ (⟨some 14, _, _, _, _, _⟩ :: _) _ _)
       refine wpList_make_full _ rfl _ _ 83 rfl w.heap.size 32 i1 _ 1 Tryd.underlying83 KI.out K0.out K1.out .i64 .i64 n n n rfl rfl rfl rfl km0 hm1 (Nat.le_refl _) ?_
       intro w1 o1 g1
       have b1 : Below w.heap.size w w1 := (Below.refl _ _).grown g1 (Nat.le_refl _) (by intro k hk; cases hk)
       rw [made_sets] at o1
       have O1 := Lib.hid o1
       have B1 := Lib.hid b1
       clear o1 g1 b1))
  go_loopw [4] (fun v4 wr => ∃ c : Nat, c ≤ 16 ∧ v4 = .int .i64 c ∧ Hid (wr.ownsRow w.heap.size 32 1 (.slice (some ⟨w.heap.size, 0, none⟩) n n) n (rowS n (fun j => sureTo p j c))) ∧ Hid (Below w.heap.size w wr)) (fun v4 _ => 16 - (intOf v4).toNat)
  case atStart => exact ⟨0, by omega, rfl, Lib.hid (by rw [rowS_congr (f := fun j => sureTo p j 0) (g := fun _ => 0) (fun j _ => rfl)]; exact O1.out), B1⟩
  case round =>
    clear O1 B1
    obtain ⟨c, hc, rfl, HO, HB⟩ := hrel
    obtain ⟨W, rfl⟩ : ∃ wo : World, wo = wr := ⟨_, rfl⟩
    by_cases hlc : c < 16
    · have c16 : (c : Int) < 16 := by omega
      have HG := Lib.hid (show w.heap.size < W.heap.size from (HO.out.lt _ rfl).2)
      obtain ⟨M, hM⟩ : ∃ M, M = mark (nextL p) (fun i => !writesB p c i) := ⟨_, rfl⟩
      have HM := Lib.hid hM
      clear hM
      by_cases hn0 : 0 < n
      · have n1 : (0 : Int) < n := by omega
        go_wp2_with (first
          | ((with_reducible show wpList _ _ _ (⟨some 21, _, _, _, _, _⟩ :: _) _ _)
             refine wpList_make_full _ rfl _ _ 88 rfl W.heap.size 4 i0 _ 1 Tryd.underlying88 HI.out H0.out H1.out .i64 .i64 n n n rfl rfl rfl rfl hm0 hm1 (Nat.le_refl _) ?_
             intro w2 o2 g2
             have b2 : Below W.heap.size W w2 := (Below.refl _ _).grown g2 (Nat.le_refl _) (by intro k hk; cases hk)
             rw [made_bools] at o2
             have s0 : w2.cell? ⟨W.heap.size, 0, none⟩ = some (.bool false) := (o2.cellAt 0 (by omega)).trans (rowB_get _ hn0)
             have f0 := o2.frozenAt 0
             have U1 := Lib.hid (o2.stored 0 (.bool true)).1
             have BB := Lib.hid (b2.setCell (p := ⟨W.heap.size, 0, none⟩) (Nat.le_refl _) (.bool true))
             clear o2 g2 b2))
        go_loopw [6] (fun v6 wr => ∃ i : Nat, i ≤ n ∧ v6 = .int .i64 i ∧ Hid (wr.ownsRow w.heap.size 32 1 (.slice (some ⟨w.heap.size, 0, none⟩) n n) n (rowS n (fun j => if j < i then sureTo p j (c + 1) else sureTo p j c))) ∧ Hid (wr.ownsRow W.heap.size 4 1 (.slice (some ⟨W.heap.size, 0, none⟩) n n) n (rowB n (M i))) ∧ Hid (Below w.heap.size w wr)) (fun v6 _ => n - (intOf v6).toNat)
        case atStart =>
          refine ⟨0, Nat.zero_le _, rfl, Lib.hid ?_, Lib.hid ?_, Lib.hid (thn HB.out BB.out)⟩
          · rw [rowS_congr (g := fun j => sureTo p j c) (fun j _ => by rw [if_neg (by omega)])]; exact own_on HO.out BB.out
          · have h := U1.out
            rw [rowB_set] at h
            rw [show rowB n (M 0) = rowB n (fun j => false || j == 0) from rowB_congr fun j _ => by rw [HM.out]; simp [mark]]
            exact h
        case round =>
          clear s0 f0 U1 BB
          obtain ⟨i, hi, rfl, P1, P2, P3⟩ := hrel
          obtain ⟨V, rfl⟩ : ∃ wo : World, wo = wr := ⟨_, rfl⟩
          by_cases hlt : i < n
          · have hkl : i < p.length := by rw [HL.out]; exact hlt
            have s1 : V.cell? ⟨W.heap.size, i, none⟩ = some (.bool (M i i)) := (P2.out.cellAt i (by omega)).trans (rowB_get _ hlt)
            have i1 : (i : Int) < n := by omega
            obtain ⟨x, hx⟩ : ∃ x, p[i]? = some x := ⟨_, List.getElem?_eq_getElem hkl⟩
            have hwr := writes_at (c := c) hx
            have hst := Lib.hid (show ∀ j, M (i + 1) j = (M i j || (M i i && !writesB p c i && (nextL p i).contains j)) from fun j => by rw [HM.out]; rfl)
            have hun := Lib.hid (show unB p c i = M i i by rw [HM.out]; exact un_mark (by omega))
            cases hmi : M i i with
            | false =>
              rw [hmi] at s1 hst hun
              have s2 : V.cell? ⟨w.heap.size, i, none⟩ = some (.int .u16 ((sureTo p i c : Nat) : Int)) := (P1.out.cellAt i (by omega)).trans ((rowS_get _ hlt).trans (by rw [if_neg (Nat.lt_irrefl i)]))
              have f2 := P1.out.frozenAt i
              have hor := or_set (sureTo_lt p i c) hlc
              rw [← sureTo_yes hun.out] at hor
              have hsh := one_shl hlc
              obtain ⟨sv, hsv⟩ : ∃ s, s = sureTo p i c := ⟨_, rfl⟩
              obtain ⟨tv, htv⟩ : ∃ s, s = sureTo p i (c + 1) := ⟨_, rfl⟩
              obtain ⟨pw, hpw⟩ : ∃ s : Nat, s = 2 ^ c := ⟨_, rfl⟩
              rw [← hsv, ← htv, ← hpw] at hor
              rw [← hsv] at s2
              rw [← hpw] at hsh
              have HTV := Lib.hid htv
              have c0 : (0 : Int) ≤ c := by omega
              have Q1 := Lib.hid (P1.out.stored i (.int .u16 (tv : Int))).1
              have Q2 := Lib.hid (own_but P2.out (of_set V w.heap.size i (.int .u16 (tv : Int))) HG.out)
              have Q3 := Lib.hid (P3.out.setCell (p := ⟨w.heap.size, i, none⟩) (Nat.le_refl _) (.int .u16 (tv : Int)))
              clear hmi hx hwr hsv htv hpw P1 P2 P3
              go_wp2_with fail
              go_region
              go_wp2_with fail
              go_roundw
              case rel =>
                refine ⟨i + 1, by omega, by go_num, Lib.hid ?_, Lib.hid ?_, Lib.hid Q3.out.drew⟩
                · have h := Q1.out.drew
                  rw [rowS_set] at h
                  rw [rowS_congr (g := fun j => if j = i then tv else if j < i then sureTo p j (c + 1) else sureTo p j c) (fun j _ => by
                    by_cases e : j = i
                    · rw [if_pos (by omega), if_pos e, e, HTV.out]
                    · rw [if_neg e]
                      by_cases e2 : j < i
                      · rw [if_pos (by omega), if_pos e2]
                      · rw [if_neg (by omega), if_neg e2])]
                  exact h
                · rw [rowB_congr (g := M i) (fun j _ => by rw [hst.out j]; simp)]; exact Q2.out.drew
              case measure => simp [intOf]; omega
            | true =>
              rw [hmi] at s1 hst hun
              have HSR := Lib.hid (show ∀ W' : World, W'.ownsRow w.heap.size 32 1 (.slice (some ⟨w.heap.size, 0, none⟩) n n) n (rowS n (fun j => if j < i then sureTo p j (c + 1) else sureTo p j c)) → W'.ownsRow w.heap.size 32 1 (.slice (some ⟨w.heap.size, 0, none⟩) n n) n (rowS n (fun j => if j < i + 1 then sureTo p j (c + 1) else sureTo p j c)) from fun W' h => by
                rw [rowS_congr (g := fun j => if j < i then sureTo p j (c + 1) else sureTo p j c) (fun j _ => by
                  by_cases e : j = i
                  · rw [if_pos (by omega), if_neg (by omega), e, sureTo_no hun.out]
                  · by_cases e2 : j < i
                    · rw [if_pos (by omega), if_pos e2]
                    · rw [if_neg (by omega), if_neg e2])]
                exact h)
              obtain ⟨b, o, rfl, hbB, hcs⟩ := HR.out (by omega)
              have hat := hcs i hkl
              have hxp : x = p[i] := by rw [List.getElem?_eq_getElem hkl] at hx; exact (Option.some.inj hx).symm
              rw [← hxp] at hat
              obtain ⟨q0, q1, q2, q3⟩ := hat.keep (w' := V) fun q hq => P3.out.cell (by omega)
              have hw32 : IntKind.u32.wrap (c : Int) = c := by rw [IntKind.wrap_u32]; omega
              have HNX := Lib.hid (HN.out V i P3.out)
              rw [nextA_nat] at HNX
              obtain ⟨l, hll⟩ : ∃ l, l = nextL p i := ⟨_, rfl⟩
              rw [← hll] at HNX hst
              have HLT := Lib.hid (show ∀ x ∈ l, x < n from fun x hx => by rw [hll] at hx; have := (nextL_lt hx).2; rw [HL.out] at this; exact this)
              have hl2 : l.length ≤ 2 := by rw [hll]; exact nextL_length p i
              obtain ⟨m, hm⟩ : ∃ m, m = l.length := ⟨_, rfl⟩
              unfold NextOf NextTo at HNX
              rw [← hm] at HNX hl2
              have HMM := Lib.hid hm
              have HB1 := Lib.hid hbB
              clear hll hm hmi hx hxp hat hcs hkl hun hbB
              by_cases h2 : x.c = 2
              · have e2 : (x.c == 2) = true := beq_iff_eq.2 h2
                by_cases h4 : x.k = (c : Int)
                · have e4 : (x.k == (c : Int)) = true := beq_iff_eq.2 h4
                  rw [e2, e4] at hwr
                  clear h2 h4
                  have HW := Lib.hid hwr
                  clear hwr
                  go_wp2_with fail
                  go_roundw
                  case rel => exact ⟨i + 1, by omega, by go_num, Lib.hid (HSR.out _ P1.out), Lib.hid (by rw [rowB_congr (g := M i) (fun j _ => by rw [hst.out j, HW.out]; simp)]; exact P2.out), P3⟩
                  case measure => simp [intOf]; omega
                · have e4 : (x.k == (c : Int)) = false := beq_eq_false_iff_ne.2 h4
                  rw [e4, Bool.and_false] at hwr
                  clear h2 h4
                  have HW := Lib.hid hwr
                  clear hwr
                  go_wp2_with (go_at_call 57; ((with_reducible refine (HNX.out).mono ?_); rintro e v2 ⟨q, cc, rfl, o2, b2⟩); have O2 := Lib.hid o2; have P1' := Lib.hid (own_on P1.out b2); have P2' := Lib.hid (own_on P2.out b2); have P3' := Lib.hid (thn P3.out b2); have HG2 := Lib.hid (show W.heap.size < V.heap.size from (P2.out.lt _ rfl).2); clear o2 b2 s1 q0 q1 q2 q3)
                  go_loopw [8] (fun v8 wr => ∃ k : Nat, k ≤ m ∧ v8 = .int .i64 k ∧ Hid (wr.ownsRow w.heap.size 32 1 (.slice (some ⟨w.heap.size, 0, none⟩) n n) n (rowS n (fun j => if j < i then sureTo p j (c + 1) else sureTo p j c))) ∧ Hid (wr.ownsRow W.heap.size 4 1 (.slice (some ⟨W.heap.size, 0, none⟩) n n) n (rowB n (fun j => M i j || (l.take k).contains j))) ∧ Hid (wr.ownsRow V.heap.size 3 1 (.slice q m cc) m (plV l)) ∧ Hid (Below w.heap.size w wr)) (fun v8 _ => m - (intOf v8).toNat)
                  case atStart => exact ⟨0, Nat.zero_le _, rfl, P1', Lib.hid (by rw [rowB_congr (g := M i) (fun j _ => by simp)]; exact P2'.out), O2, P3'⟩
                  case round =>
                    clear O2 P1' P2' P3'
                    obtain ⟨k, hk, rfl, R1, R2, R3, R4⟩ := hrel
                    obtain ⟨U, rfl⟩ : ∃ wo : World, wo = wr := ⟨_, rfl⟩
                    by_cases hlk : k < m
                    · have h2 := R3.out
                      rw [HMM.out] at h2
                      obtain ⟨g, hq, hgB, hcc⟩ := pl_cells' h2 (by have := HMM.out; omega)
                      subst hq
                      have c1 := hcc k (by have := HMM.out; omega)
                      have htk := Lib.hid (fun j => take_contains (l := l) (k := k) (by have := HMM.out; omega) j)
                      have hx := HLT.out (l.getD k 0) (by rw [List.getD_eq_getElem?_getD, List.getElem?_eq_getElem (by have := HMM.out; omega)]; exact List.getElem_mem _)
                      obtain ⟨y, hyy⟩ : ∃ y, y = l.getD k 0 := ⟨_, rfl⟩
                      rw [← hyy] at c1 htk hx
                      have y1 : (y : Int) < n := by omega
                      have k1 : (k : Int) < m := by omega
                      have k2 : (0 : Int) ≤ k := by omega
                      have s2 : U.cell? ⟨W.heap.size, y, none⟩ = some (.bool (M i y || (l.take k).contains y)) := (R2.out.cellAt y (by omega)).trans (rowB_get _ hx)
                      have f2 := R2.out.frozenAt y
                      have S1 := Lib.hid (own_but2 R1.out (w' := U.setCell ⟨W.heap.size, y, none⟩ (.bool true)) (fun g hg => by
                        have e : w.heap.size = g := by injection hg
                        exact heap_setCell_other U _ g _ (by have := HG.out; show g ≠ W.heap.size; omega)))
                      have S2 := Lib.hid (R2.out.stored y (.bool true)).1
                      have S3 := Lib.hid (own_but R3.out (of_set U W.heap.size y (.bool true)) HG2.out)
                      have S4 := Lib.hid (R4.out.setCell (p := ⟨W.heap.size, y, none⟩) (by have := HG.out; show w.heap.size ≤ W.heap.size; omega) (.bool true))
                      clear hcc h2 hyy R1 R2 R3 R4
                      go_wp2_with fail
                      go_roundw
                      case rel =>
                        refine ⟨k + 1, by omega, by go_num, S1, Lib.hid ?_, S3, S4⟩
                        have h := S2.out
                        rw [rowB_set] at h
                        rw [rowB_congr (g := fun j => (M i j || (l.take k).contains j) || j == y) (fun j _ => by rw [htk.out j, Bool.or_assoc])]
                        exact h
                      case measure => simp [intOf]; omega
                    · obtain rfl : m = k := by omega
                      go_wp2_with fail
                      go_roundw
                      case rel =>
                        refine ⟨i + 1, by omega, by go_num, Lib.hid (HSR.out _ R1.out), Lib.hid ?_, R4⟩
                        have h := R2.out
                        rw [List.take_of_length_le (by rw [← HMM.out]; exact Nat.le_refl _)] at h
                        rw [rowB_congr (g := fun j => M i j || l.contains j) (fun j _ => by rw [hst.out j, HW.out]; simp)]
                        exact h
                      case measure => simp [intOf]; omega
              · have e2 : (x.c == 2) = false := beq_eq_false_iff_ne.2 h2
                by_cases h3 : x.c = 3
                · have e3 : (x.c == 3) = true := beq_iff_eq.2 h3
                  by_cases h4 : x.k = (c : Int)
                  · have e4 : (x.k == (c : Int)) = true := beq_iff_eq.2 h4
                    rw [e2, e3, e4] at hwr
                    clear h2 h3 h4
                    have HW := Lib.hid hwr
                    clear hwr
                    go_wp2_with fail
                    go_roundw
                    case rel => exact ⟨i + 1, by omega, by go_num, Lib.hid (HSR.out _ P1.out), Lib.hid (by rw [rowB_congr (g := M i) (fun j _ => by rw [hst.out j, HW.out]; simp)]; exact P2.out), P3⟩
                    case measure => simp [intOf]; omega
                  · have e4 : (x.k == (c : Int)) = false := beq_eq_false_iff_ne.2 h4
                    rw [e4, Bool.and_false] at hwr
                    clear h2 h3 h4
                    have HW := Lib.hid hwr
                    clear hwr
                    go_wp2_with (go_at_call 57; ((with_reducible refine (HNX.out).mono ?_); rintro e v2 ⟨q, cc, rfl, o2, b2⟩); have O2 := Lib.hid o2; have P1' := Lib.hid (own_on P1.out b2); have P2' := Lib.hid (own_on P2.out b2); have P3' := Lib.hid (thn P3.out b2); have HG2 := Lib.hid (show W.heap.size < V.heap.size from (P2.out.lt _ rfl).2); clear o2 b2 s1 q0 q1 q2 q3)
                    go_loopw [8] (fun v8 wr => ∃ k : Nat, k ≤ m ∧ v8 = .int .i64 k ∧ Hid (wr.ownsRow w.heap.size 32 1 (.slice (some ⟨w.heap.size, 0, none⟩) n n) n (rowS n (fun j => if j < i then sureTo p j (c + 1) else sureTo p j c))) ∧ Hid (wr.ownsRow W.heap.size 4 1 (.slice (some ⟨W.heap.size, 0, none⟩) n n) n (rowB n (fun j => M i j || (l.take k).contains j))) ∧ Hid (wr.ownsRow V.heap.size 3 1 (.slice q m cc) m (plV l)) ∧ Hid (Below w.heap.size w wr)) (fun v8 _ => m - (intOf v8).toNat)
                    case atStart => exact ⟨0, Nat.zero_le _, rfl, P1', Lib.hid (by rw [rowB_congr (g := M i) (fun j _ => by simp)]; exact P2'.out), O2, P3'⟩
                    case round =>
                      clear O2 P1' P2' P3'
                      obtain ⟨k, hk, rfl, R1, R2, R3, R4⟩ := hrel
                      obtain ⟨U, rfl⟩ : ∃ wo : World, wo = wr := ⟨_, rfl⟩
                      by_cases hlk : k < m
                      · have h2 := R3.out
                        rw [HMM.out] at h2
                        obtain ⟨g, hq, hgB, hcc⟩ := pl_cells' h2 (by have := HMM.out; omega)
                        subst hq
                        have c1 := hcc k (by have := HMM.out; omega)
                        have htk := Lib.hid (fun j => take_contains (l := l) (k := k) (by have := HMM.out; omega) j)
                        have hx := HLT.out (l.getD k 0) (by rw [List.getD_eq_getElem?_getD, List.getElem?_eq_getElem (by have := HMM.out; omega)]; exact List.getElem_mem _)
                        obtain ⟨y, hyy⟩ : ∃ y, y = l.getD k 0 := ⟨_, rfl⟩
                        rw [← hyy] at c1 htk hx
                        have y1 : (y : Int) < n := by omega
                        have k1 : (k : Int) < m := by omega
                        have k2 : (0 : Int) ≤ k := by omega
                        have s2 : U.cell? ⟨W.heap.size, y, none⟩ = some (.bool (M i y || (l.take k).contains y)) := (R2.out.cellAt y (by omega)).trans (rowB_get _ hx)
                        have f2 := R2.out.frozenAt y
                        have S1 := Lib.hid (own_but2 R1.out (w' := U.setCell ⟨W.heap.size, y, none⟩ (.bool true)) (fun g hg => by
                          have e : w.heap.size = g := by injection hg
                          exact heap_setCell_other U _ g _ (by have := HG.out; show g ≠ W.heap.size; omega)))
                        have S2 := Lib.hid (R2.out.stored y (.bool true)).1
                        have S3 := Lib.hid (own_but R3.out (of_set U W.heap.size y (.bool true)) HG2.out)
                        have S4 := Lib.hid (R4.out.setCell (p := ⟨W.heap.size, y, none⟩) (by have := HG.out; show w.heap.size ≤ W.heap.size; omega) (.bool true))
                        clear hcc h2 hyy R1 R2 R3 R4
                        go_wp2_with fail
                        go_roundw
                        case rel =>
                          refine ⟨k + 1, by omega, by go_num, S1, Lib.hid ?_, S3, S4⟩
                          have h := S2.out
                          rw [rowB_set] at h
                          rw [rowB_congr (g := fun j => (M i j || (l.take k).contains j) || j == y) (fun j _ => by rw [htk.out j, Bool.or_assoc])]
                          exact h
                        case measure => simp [intOf]; omega
                      · obtain rfl : m = k := by omega
                        go_wp2_with fail
                        go_roundw
                        case rel =>
                          refine ⟨i + 1, by omega, by go_num, Lib.hid (HSR.out _ R1.out), Lib.hid ?_, R4⟩
                          have h := R2.out
                          rw [List.take_of_length_le (by rw [← HMM.out]; exact Nat.le_refl _)] at h
                          rw [rowB_congr (g := fun j => M i j || l.contains j) (fun j _ => by rw [hst.out j, HW.out]; simp)]
                          exact h
                        case measure => simp [intOf]; omega
                · have e3 : (x.c == 3) = false := beq_eq_false_iff_ne.2 h3
                  rw [e2, e3, Bool.or_false, Bool.false_and] at hwr
                  clear h2 h3
                  have HW := Lib.hid hwr
                  clear hwr
                  go_wp2_with (go_at_call 57; ((with_reducible refine (HNX.out).mono ?_); rintro e v2 ⟨q, cc, rfl, o2, b2⟩); have O2 := Lib.hid o2; have P1' := Lib.hid (own_on P1.out b2); have P2' := Lib.hid (own_on P2.out b2); have P3' := Lib.hid (thn P3.out b2); have HG2 := Lib.hid (show W.heap.size < V.heap.size from (P2.out.lt _ rfl).2); clear o2 b2 s1 q0 q1 q2 q3)
                  go_loopw [8] (fun v8 wr => ∃ k : Nat, k ≤ m ∧ v8 = .int .i64 k ∧ Hid (wr.ownsRow w.heap.size 32 1 (.slice (some ⟨w.heap.size, 0, none⟩) n n) n (rowS n (fun j => if j < i then sureTo p j (c + 1) else sureTo p j c))) ∧ Hid (wr.ownsRow W.heap.size 4 1 (.slice (some ⟨W.heap.size, 0, none⟩) n n) n (rowB n (fun j => M i j || (l.take k).contains j))) ∧ Hid (wr.ownsRow V.heap.size 3 1 (.slice q m cc) m (plV l)) ∧ Hid (Below w.heap.size w wr)) (fun v8 _ => m - (intOf v8).toNat)
                  case atStart => exact ⟨0, Nat.zero_le _, rfl, P1', Lib.hid (by rw [rowB_congr (g := M i) (fun j _ => by simp)]; exact P2'.out), O2, P3'⟩
                  case round =>
                    clear O2 P1' P2' P3'
                    obtain ⟨k, hk, rfl, R1, R2, R3, R4⟩ := hrel
                    obtain ⟨U, rfl⟩ : ∃ wo : World, wo = wr := ⟨_, rfl⟩
                    by_cases hlk : k < m
                    · have h2 := R3.out
                      rw [HMM.out] at h2
                      obtain ⟨g, hq, hgB, hcc⟩ := pl_cells' h2 (by have := HMM.out; omega)
                      subst hq
                      have c1 := hcc k (by have := HMM.out; omega)
                      have htk := Lib.hid (fun j => take_contains (l := l) (k := k) (by have := HMM.out; omega) j)
                      have hx := HLT.out (l.getD k 0) (by rw [List.getD_eq_getElem?_getD, List.getElem?_eq_getElem (by have := HMM.out; omega)]; exact List.getElem_mem _)
                      obtain ⟨y, hyy⟩ : ∃ y, y = l.getD k 0 := ⟨_, rfl⟩
                      rw [← hyy] at c1 htk hx
                      have y1 : (y : Int) < n := by omega
                      have k1 : (k : Int) < m := by omega
                      have k2 : (0 : Int) ≤ k := by omega
                      have s2 : U.cell? ⟨W.heap.size, y, none⟩ = some (.bool (M i y || (l.take k).contains y)) := (R2.out.cellAt y (by omega)).trans (rowB_get _ hx)
                      have f2 := R2.out.frozenAt y
                      have S1 := Lib.hid (own_but2 R1.out (w' := U.setCell ⟨W.heap.size, y, none⟩ (.bool true)) (fun g hg => by
                        have e : w.heap.size = g := by injection hg
                        exact heap_setCell_other U _ g _ (by have := HG.out; show g ≠ W.heap.size; omega)))
                      have S2 := Lib.hid (R2.out.stored y (.bool true)).1
                      have S3 := Lib.hid (own_but R3.out (of_set U W.heap.size y (.bool true)) HG2.out)
                      have S4 := Lib.hid (R4.out.setCell (p := ⟨W.heap.size, y, none⟩) (by have := HG.out; show w.heap.size ≤ W.heap.size; omega) (.bool true))
                      clear hcc h2 hyy R1 R2 R3 R4
                      go_wp2_with fail
                      go_roundw
                      case rel =>
                        refine ⟨k + 1, by omega, by go_num, S1, Lib.hid ?_, S3, S4⟩
                        have h := S2.out
                        rw [rowB_set] at h
                        rw [rowB_congr (g := fun j => (M i j || (l.take k).contains j) || j == y) (fun j _ => by rw [htk.out j, Bool.or_assoc])]
                        exact h
                      case measure => simp [intOf]; omega
                    · obtain rfl : m = k := by omega
                      go_wp2_with fail
                      go_roundw
                      case rel =>
                        refine ⟨i + 1, by omega, by go_num, Lib.hid (HSR.out _ R1.out), Lib.hid ?_, R4⟩
                        have h := R2.out
                        rw [List.take_of_length_le (by rw [← HMM.out]; exact Nat.le_refl _)] at h
                        rw [rowB_congr (g := fun j => M i j || l.contains j) (fun j _ => by rw [hst.out j, HW.out]; simp)]
                        exact h
                      case measure => simp [intOf]; omega
          · obtain rfl : n = i := by omega
            go_wp2_with fail
            go_roundw
            case rel => exact ⟨c + 1, by omega, by go_num, Lib.hid (by rw [rowS_congr (g := fun j => if j < n then sureTo p j (c + 1) else sureTo p j c) (fun j hj => by rw [if_pos hj])]; exact P1.out), P3⟩
            case measure => simp [intOf]; omega
      · have n0 : ¬ (0 : Int) < n := by omega
        go_wp2_with (first
          | ((with_reducible show wpList _ _ _ (⟨some 21, _, _, _, _, _⟩ :: _) _ _)
             refine wpList_make_full _ rfl _ _ 88 rfl W.heap.size 4 i0 _ 1 Tryd.underlying88 HI.out H0.out H1.out .i64 .i64 n n n rfl rfl rfl rfl hm0 hm1 (Nat.le_refl _) ?_
             intro w2 o2 g2
             have b2 : Below W.heap.size W w2 := (Below.refl _ _).grown g2 (Nat.le_refl _) (by intro k hk; cases hk)
             have Q1 := Lib.hid (own_on HO.out b2)
             have Q3 := Lib.hid (thn HB.out b2)
             clear o2 g2 b2))
        go_loopw [6] (fun v6 wr => v6 = .int .i64 0 ∧ wr = w2) (fun v6 _ => 0 - (intOf v6).toNat)
        case atStart => exact ⟨rfl, rfl⟩
        case round =>
          obtain ⟨rfl, rfl⟩ := hrel
          go_wp2_with fail
          go_roundw
          case rel => exact ⟨c + 1, by omega, by go_num, Lib.hid (by rw [rowS_congr (g := fun j => sureTo p j c) (fun j hj => absurd hj (by omega))]; exact Q1.out), Q3⟩
          case measure => simp [intOf]; omega
    · obtain rfl : c = 16 := by omega
      go_wp2_with fail
      go_ret
      exact ⟨_, _, rfl, HO.out, HB.out⟩
end Go.Proofs.YtohfampfnhfnlaaDoor
