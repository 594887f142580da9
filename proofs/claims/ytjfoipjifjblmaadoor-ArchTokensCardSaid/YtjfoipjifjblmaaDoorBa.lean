/- Architectures as the chapter says them: names, tokens, whose a token and a number are; numbers that came in as a list; what the document's own calls return. No condition. -/
import Derived.Test.YtjfoipjifjblmaaDoorWd
import Derived.Deep.AppendLies
import Derived.Deep.DrawnRows
import Derived.RegionTactic
import Derived.BigRegion
namespace Go.Proofs.YtjfoipjifjblmaaDoor
open Go.ChangeShapes Go.WideShapes Go.ChangeAt Go.RowKit
set_option linter.unusedVariables false
attribute [local go_sem ↓] Go.wp_at_zero Go.wp_at_succ

/-- A slice of numbers can be read. -/
def RdZ (w : World) (B : Nat) (p : Option Addr) (l : List Int) : Prop := 0 < l.length → ∃ b o, p = some ⟨b, o, none⟩ ∧ b < B ∧ ∀ i, i < l.length → w.cell? ⟨b, o + i, none⟩ = some (.int .i64 (l.getD i 0))
theorem RdZ.on {w w' : World} {p : Option Addr} {l : List Int} (h : RdZ w w.heap.size p l) (hb : Below w.heap.size w w') : RdZ w' w'.heap.size p l := fun h0 => by
  obtain ⟨b, o, rfl, hlt, hc⟩ := h h0
  exact ⟨b, o, rfl, Nat.lt_of_lt_of_le hlt hb.size, fun i hi => (hb.cell (p := ⟨b, o + i, none⟩) hlt).trans (hc i hi)⟩
/-- What is known of a slice of numbers that came in. -/
structure IsInts (w : World) (a : Option Addr) (len cap : Nat) (z : List Int) : Prop where
  size : z.length = len
  rng : ∀ y ∈ z, -9223372036854775808 ≤ y ∧ y ≤ 9223372036854775807
  fits : len ≤ cap
  most : cap ≤ maxLen
  rd : RdZ w w.heap.size a z
  nil : a = none → cap = 0
theorem ints_open {H : Type} {enc : TypeId × Value → H} {W : World} {a : Option Addr} {len cap : Nat} {d : DataW H} {p : List MemPlace}
    (h : DataW.Trod enc Tryd.prog W 0 (fun _ => true) true 33 (.slice a len cap) d p) (lt : ∀ x ∈ p, x.block < W.heap.size) : ∃ z, IsInts W a len cap z := by
  obtain ⟨fuel, hf⟩ := h
  rcases open_ints Tryd.underlying33 Tryd.underlying3 (by kernel_rfl) hf with ⟨hcs, _⟩ | ⟨x, l, c, zs, hcs, _, hl, hm, hz, _, hcell, hwz⟩
  · simp [Value.cells] at hcs
    obtain ⟨rfl, rfl, rfl⟩ := hcs
    exact ⟨[], rfl, fun y hy => absurd hy (by simp), Nat.le_refl _, by unfold maxLen; omega, fun h => absurd h (by simp), fun _ => rfl⟩
  · simp [Value.cells] at hcs
    obtain ⟨rfl, rfl, rfl⟩ := hcs
    have hz : zs.length = cap := by simpa using hz
    have hlt : ((zs.take len).length) = len := by rw [List.length_take]; omega
    refine ⟨zs.take len, hlt, fun y hy => ?_, hl, hm, fun hn => ?_, fun h => by cases h⟩
    · exact bounds_i64 (hwz y (List.mem_of_mem_take hy))
    · rw [hlt] at hn ⊢
      obtain ⟨b, o, s⟩ := x
      have hc := hcell 0 (by omega)
      have hs : s = none := by simpa [Addr.add] using World.cell?_spot hc
      subst hs
      refine ⟨b, o, rfl, World.block_lt_of_cell? W _ hc, fun i hi => ?_⟩
      have h1 := hcell i (by omega)
      rw [Addr.add_lit] at h1
      rw [h1]
      simp [List.getD_eq_getElem?_getD, hi]
/-- The names, the tokens. -/
def archN : List ByteArray := [⟨#[120, 56, 54, 45, 54, 52]⟩, ⟨#[120, 56, 54]⟩, ⟨#[120, 51, 50]⟩, ⟨#[97, 114, 109]⟩, ⟨#[97, 114, 109, 54, 52]⟩, ⟨#[114, 105, 115, 99, 118, 54, 52]⟩]
def archT : List Int := [3221225534, 1073741827, 3221225534, 1073741864, 3221225655, 3221225715]
def nameR (a : Int) : ByteArray := if 0 ≤ a ∧ a < 6 then archN.getD a.toNat ⟨#[]⟩ else ⟨#[]⟩
def tokR (a : Int) : Int := if 0 ≤ a ∧ a < 6 then archT.getD a.toNat 0 else 0
def tokE (a : Int) : Int := if 0 ≤ a ∧ a < 6 then 0 else 80
def o64R (a : Int) : Bool := a == 0 || a == 4 || a == 5
def findN (s : ByteArray) : Option Nat := archN.findIdx? (fun x => decide (x = s))
def findT (t : Int) : Option Nat := archT.findIdx? (fun x => decide (x = t))
/-- The architecture of a name. -/
def parR (s : ByteArray) : Int × Int := match findN s with | some k => ((k : Nat), 0) | none => if s = ⟨#[110, 97, 116, 105, 118, 101]⟩ then (0, 0) else (0, 80)
/-- Whose a token and a number are. -/
def ofR (t nr : Int) : Int × Bool := if t = 3221225534 then (if nr / 1073741824 % 2 = 1 then (2, true) else (0, true)) else match findT t with | some k => ((k : Nat), true) | none => (0, false)
def inR (l : List Int) (a : Int) : Bool := decide (a ∈ l) || l.isEmpty
theorem names_c (w : World) : Calls Tryd.prog 8 #[] w fun e w' => e = .returned (.slice (some ⟨w.heap.size, 0, none⟩) 6 6) ∧ w' = w.alloc (.cells #[.string ⟨#[120, 56, 54, 45, 54, 52]⟩, .string ⟨#[120, 56, 54]⟩, .string ⟨#[120, 51, 50]⟩, .string ⟨#[97, 114, 109]⟩, .string ⟨#[97, 114, 109, 54, 52]⟩, .string ⟨#[114, 105, 115, 99, 118, 54, 52]⟩] 9) := by
  go_enter Tryd.func8, Tryd.ntmps8
  go_wp2
  go_ret
  exact ⟨rfl, rfl⟩
theorem tokens_c (w : World) : Calls Tryd.prog 14 #[] w fun e w' => e = .returned (.slice (some ⟨w.heap.size, 0, none⟩) 6 6) ∧ w' = w.alloc (.cells #[.int .u32 3221225534, .int .u32 1073741827, .int .u32 3221225534, .int .u32 1073741864, .int .u32 3221225655, .int .u32 3221225715] 32) := by
  go_enter Tryd.func14, Tryd.ntmps14
  go_wp2
  go_ret
  exact ⟨rfl, rfl⟩
theorem names_cell (w : World) {k : Nat} (hk : k < 6) : (w.alloc (.cells #[.string ⟨#[120, 56, 54, 45, 54, 52]⟩, .string ⟨#[120, 56, 54]⟩, .string ⟨#[120, 51, 50]⟩, .string ⟨#[97, 114, 109]⟩, .string ⟨#[97, 114, 109, 54, 52]⟩, .string ⟨#[114, 105, 115, 99, 118, 54, 52]⟩] 9)).cell? ⟨w.heap.size, k, none⟩ = some (.string (archN.getD k ⟨#[]⟩)) := by
  rw [cell_of_row _ _ k _ _ (0, 0) (heap_alloc_new w _)]
  match k, hk with
  | 0, _ => rfl
  | 1, _ => rfl
  | 2, _ => rfl
  | 3, _ => rfl
  | 4, _ => rfl
  | 5, _ => rfl
  | k + 6, hk => omega
theorem tokens_cell (w : World) {k : Nat} (hk : k < 6) : (w.alloc (.cells #[.int .u32 3221225534, .int .u32 1073741827, .int .u32 3221225534, .int .u32 1073741864, .int .u32 3221225655, .int .u32 3221225715] 32)).cell? ⟨w.heap.size, k, none⟩ = some (.int .u32 (archT.getD k 0)) := by
  rw [cell_of_row _ _ k _ _ (0, 0) (heap_alloc_new w _)]
  match k, hk with
  | 0, _ => rfl
  | 1, _ => rfl
  | 2, _ => rfl
  | 3, _ => rfl
  | 4, _ => rfl
  | 5, _ => rfl
  | k + 6, hk => omega
theorem list_of_bytes8 {a b : ByteArray} (h : a.toList = b.toList) : a = b := by
  apply ByteArray.ext
  have h2 := congrArg List.toArray h
  simpa [ByteArray.toList_eq] using h2
theorem getD_of {α : Type} {l : List α} {k : Nat} {d : α} (h : k < l.length) : l.getD k d = l[k] := by rw [List.getD_eq_getElem?_getD, List.getElem?_eq_getElem h]; rfl
theorem findN_hit {s : ByteArray} {k : Nat} (hk : k < 6) (h : archN.getD k ⟨#[]⟩ = s) (hm : ∀ j, j < k → archN.getD j ⟨#[]⟩ ≠ s) : findN s = some k := by
  have hl : archN.length = 6 := rfl
  unfold findN
  rw [List.findIdx?_eq_some_iff_getElem]
  refine ⟨by omega, ?_, fun j hj => ?_⟩
  · rw [← getD_of (d := ⟨#[]⟩) (by omega), h]; simp
  · rw [← getD_of (d := ⟨#[]⟩) (by omega), decide_eq_false (hm j hj)]; decide
theorem findN_miss {s : ByteArray} (hm : ∀ j, j < 6 → archN.getD j ⟨#[]⟩ ≠ s) : findN s = none := by
  have hl : archN.length = 6 := rfl
  unfold findN
  rw [List.findIdx?_eq_none_iff]
  intro x hx
  obtain ⟨j, hj, e⟩ := List.mem_iff_getElem.1 hx
  exact decide_eq_false (by rw [← e, ← getD_of (d := ⟨#[]⟩) hj]; exact hm j (by omega))
theorem findT_hit {t : Int} {k : Nat} (hk : k < 6) (h : archT.getD k 0 = t) (hm : ∀ j, j < k → archT.getD j 0 ≠ t) : findT t = some k := by
  have hl : archT.length = 6 := rfl
  unfold findT
  rw [List.findIdx?_eq_some_iff_getElem]
  refine ⟨by omega, ?_, fun j hj => ?_⟩
  · rw [← getD_of (d := 0) (by omega), h]; simp
  · rw [← getD_of (d := 0) (by omega), decide_eq_false (hm j hj)]; decide
theorem findT_miss {t : Int} (hm : ∀ j, j < 6 → archT.getD j 0 ≠ t) : findT t = none := by
  have hl : archT.length = 6 := rfl
  unfold findT
  rw [List.findIdx?_eq_none_iff]
  intro x hx
  obtain ⟨j, hj, e⟩ := List.mem_iff_getElem.1 hx
  exact decide_eq_false (by rw [← e, ← getD_of (d := 0) hj]; exact hm j (by omega))
set_option maxHeartbeats 1600000 in
theorem refParse8 (s : ByteArray) (w : World) : Calls Tryd.prog 10 #[.string s] w fun e w' => e = .returned (.tuple #[.int .i64 (parR s).1, .int .i64 (parR s).2]) ∧ Below w.heap.size w w' := by
  have HN := Lib.hid (names_c w)
  have HC := Lib.hid (fun (k : Nat) (hk : k < 6) => names_cell w hk)
  have B1 := Lib.hid ((Below.refl w.heap.size w).alloc (Nat.le_refl _) (.cells #[.string ⟨#[120, 56, 54, 45, 54, 52]⟩, .string ⟨#[120, 56, 54]⟩, .string ⟨#[120, 51, 50]⟩, .string ⟨#[97, 114, 109]⟩, .string ⟨#[97, 114, 109, 54, 52]⟩, .string ⟨#[114, 105, 115, 99, 118, 54, 52]⟩] 9))
  go_enter Tryd.func10, Tryd.ntmps10
  go_wp2_with (go_at_call 8; ((with_reducible refine (HN.out).mono ?_); rintro e w1 ⟨rfl, rfl⟩))
  generalize hW : w.alloc (.cells #[.string ⟨#[120, 56, 54, 45, 54, 52]⟩, .string ⟨#[120, 56, 54]⟩, .string ⟨#[120, 51, 50]⟩, .string ⟨#[97, 114, 109]⟩, .string ⟨#[97, 114, 109, 54, 52]⟩, .string ⟨#[114, 105, 115, 99, 118, 54, 52]⟩] 9) = W at HC B1 ⊢
  clear hW HN
  go_loop [5] (fun i => ∃ k : Nat, k ≤ 6 ∧ i = .int .i64 k ∧ Hid (∀ j, j < k → archN.getD j ⟨#[]⟩ ≠ s)) (fun i => 6 - (intOf i).toNat)
  case atStart => exact ⟨0, by omega, rfl, Lib.hid (fun j hj => absurd hj (by omega))⟩
  case round =>
    obtain ⟨k, hk, rfl, hm⟩ := hrel
    by_cases hlt : k < 6
    · have hc := HC.out k hlt
      have k1 : (k : Int) < 6 := by omega
      have k0 : (0 : Int) ≤ k := by omega
      have HH := Lib.hid (fun h => findN_hit hlt h hm.out)
      have HS := Lib.hid (fun (h : archN.getD k ⟨#[]⟩ ≠ s) => (fun j hj => by
        by_cases e : j = k
        · rw [e]; exact h
        · exact hm.out j (by omega) : ∀ j, j < k + 1 → archN.getD j ⟨#[]⟩ ≠ s))
      obtain ⟨x, hx⟩ : ∃ x, x = archN.getD k ⟨#[]⟩ := ⟨_, rfl⟩
      rw [← hx] at hc HH HS
      clear hx hm
      by_cases he : x = s
      · subst he
        have hv := Lib.hid (HH.out rfl)
        clear HH HS
        go_wp2
        go_ret2
        exact ⟨by unfold parR; rw [hv.out]; rfl, B1.out⟩
      · have hv := Lib.hid (HS.out he)
        have hb : (x.toList == s.toList) = false := beq_eq_false_iff_ne.2 (fun e => he (list_of_bytes8 e))
        clear HH HS he
        go_wp2
        go_round
        case rel => exact ⟨k + 1, by omega, by go_num, hv⟩
        case measure => simp [intOf]; omega
    · obtain rfl : k = 6 := by omega
      have hv := Lib.hid (findN_miss hm.out)
      by_cases he : s = ⟨#[110, 97, 116, 105, 118, 101]⟩
      · subst he
        go_wp2
        go_ret2
        exact ⟨by unfold parR; rw [hv.out]; rfl, B1.out⟩
      · have hb : (s.toList == [110, 97, 116, 105, 118, 101]) = false := beq_eq_false_iff_ne.2 (fun e => he (list_of_bytes8 (e.trans (by decide +kernel))))
        have HE := Lib.hid he
        clear he
        go_wp2
        go_ret2
        exact ⟨by unfold parR; rw [hv.out]; simp only; rw [if_neg HE.out]; rfl, B1.out⟩
set_option maxHeartbeats 1600000 in
theorem refOf8 (t nr : Int) (t0 : 0 ≤ t) (t1 : t < 4294967296) (n0 : 0 ≤ nr) (n1 : nr < 4294967296) (w : World) : Calls Tryd.prog 17 #[.int .u32 t, .int .u32 nr] w fun e w' => e = .returned (.tuple #[.int .i64 (ofR t nr).1, .bool (ofR t nr).2]) ∧ Below w.heap.size w w' := by
  have HN := Lib.hid (tokens_c w)
  have HC := Lib.hid (fun (k : Nat) (hk : k < 6) => tokens_cell w hk)
  have B1 := Lib.hid ((Below.refl w.heap.size w).alloc (Nat.le_refl _) (.cells #[.int .u32 3221225534, .int .u32 1073741827, .int .u32 3221225534, .int .u32 1073741864, .int .u32 3221225655, .int .u32 3221225715] 32))
  by_cases ht : t = 3221225534
  · subst ht
    by_cases hb : nr / 1073741824 % 2 = 1
    · have hv := Lib.hid (show ofR 3221225534 nr = (2, true) from by unfold ofR; rw [if_pos rfl, if_pos hb])
      have c0 : (w.alloc (.cells #[.int .u32 3221225534, .int .u32 1073741827, .int .u32 3221225534, .int .u32 1073741864, .int .u32 3221225655, .int .u32 3221225715] 32)).cell? ⟨w.heap.size, 0, none⟩ = some (.int .u32 3221225534) := HC.out 0 (by omega)
      obtain ⟨y, hy⟩ : ∃ y, y = nr / 1073741824 := ⟨_, rfl⟩
      have y0 : 0 ≤ y := by omega
      have y1 : y < 4 := by omega
      have hq : nr.tdiv 1073741824 = y := by rw [Int.tdiv_eq_ediv_of_nonneg n0, hy]
      have hr : y.tmod 2 = 1 := by rw [Int.tmod_eq_emod_of_nonneg y0]; omega
      rw [← hy] at hb
      have hy' := hy.symm
      clear hy
      go_enter Tryd.func17, Tryd.ntmps17
      go_wp2_with (go_at_call 14; ((with_reducible refine (HN.out).mono ?_); rintro e w1 ⟨rfl, rfl⟩))
      go_ret2
      exact ⟨by rw [hv.out]; rfl, B1.out⟩
    · have hv := Lib.hid (show ofR 3221225534 nr = (0, true) from by unfold ofR; rw [if_pos rfl, if_neg hb])
      have c0 : (w.alloc (.cells #[.int .u32 3221225534, .int .u32 1073741827, .int .u32 3221225534, .int .u32 1073741864, .int .u32 3221225655, .int .u32 3221225715] 32)).cell? ⟨w.heap.size, 0, none⟩ = some (.int .u32 3221225534) := HC.out 0 (by omega)
      obtain ⟨y, hy⟩ : ∃ y, y = nr / 1073741824 := ⟨_, rfl⟩
      have y0 : 0 ≤ y := by omega
      have y1 : y < 4 := by omega
      have hb0 : y % 2 = 0 := by omega
      have hy' := hy.symm
      clear hy hb
      go_enter Tryd.func17, Tryd.ntmps17
      go_wp2_with (go_at_call 14; ((with_reducible refine (HN.out).mono ?_); rintro e w1 ⟨rfl, rfl⟩))
      go_ret2
      exact ⟨by rw [hv.out]; rfl, B1.out⟩
  · have HV := Lib.hid (show ofR t nr = match findT t with | some k => ((k : Nat), true) | none => (0, false) from by unfold ofR; rw [if_neg ht])
    have c0 : (w.alloc (.cells #[.int .u32 3221225534, .int .u32 1073741827, .int .u32 3221225534, .int .u32 1073741864, .int .u32 3221225655, .int .u32 3221225715] 32)).cell? ⟨w.heap.size, 0, none⟩ = some (.int .u32 3221225534) := HC.out 0 (by omega)
    have hb : (t == 3221225534) = false := beq_eq_false_iff_ne.2 ht
    clear ht
    go_enter Tryd.func17, Tryd.ntmps17
    go_wp2_with (go_at_call 14; ((with_reducible refine (HN.out).mono ?_); rintro e w1 ⟨rfl, rfl⟩))
    generalize hW : w.alloc (.cells #[.int .u32 3221225534, .int .u32 1073741827, .int .u32 3221225534, .int .u32 1073741864, .int .u32 3221225655, .int .u32 3221225715] 32) = W at HC B1 ⊢
    clear hW HN c0
    go_loop [7] (fun i => ∃ k : Nat, k ≤ 6 ∧ i = .int .i64 k ∧ Hid (∀ j, j < k → archT.getD j 0 ≠ t)) (fun i => 6 - (intOf i).toNat)
    case atStart => exact ⟨0, by omega, rfl, Lib.hid (fun j hj => absurd hj (by omega))⟩
    case round =>
      obtain ⟨k, hk, rfl, hm⟩ := hrel
      by_cases hlt : k < 6
      · have hc := HC.out k hlt
        have k1 : (k : Int) < 6 := by omega
        have k0 : (0 : Int) ≤ k := by omega
        have HH := Lib.hid (fun h => findT_hit hlt h hm.out)
        have HS := Lib.hid (fun (h : archT.getD k 0 ≠ t) => (fun j hj => by
          by_cases e : j = k
          · rw [e]; exact h
          · exact hm.out j (by omega) : ∀ j, j < k + 1 → archT.getD j 0 ≠ t))
        obtain ⟨x, hx⟩ : ∃ x, x = archT.getD k 0 := ⟨_, rfl⟩
        rw [← hx] at hc HH HS
        clear hx hm
        by_cases he : x = t
        · subst he
          have hv := Lib.hid (HH.out rfl)
          have hbb : (x == x) = true := by simp
          clear HH HS
          go_wp2
          go_ret2
          exact ⟨by rw [HV.out, hv.out]; rfl, B1.out⟩
        · have hv := Lib.hid (HS.out he)
          have hbb : (x == t) = false := beq_eq_false_iff_ne.2 he
          clear HH HS he
          go_wp2
          go_round
          case rel => exact ⟨k + 1, by omega, by go_num, hv⟩
          case measure => simp [intOf]; omega
      · obtain rfl : k = 6 := by omega
        have hv := Lib.hid (findT_miss hm.out)
        go_wp2
        go_ret2
        exact ⟨by rw [HV.out, hv.out]; rfl, B1.out⟩
set_option maxHeartbeats 1600000 in
theorem refIn8 (a0 : Option Addr) (n cap : Nat) (l : List Int) (a : Int) (w : World) (hl : l.length = n) (hn : n ≤ 1099511627776) (hr : RdZ w w.heap.size a0 l) : Calls Tryd.prog 19 #[.slice a0 n cap, .int .i64 a] w fun e w' => e = .returned (.bool (inR l a)) ∧ w = w' := by
  have HL := Lib.hid hl
  have HR := Lib.hid hr
  have n1 : (n : Int) ≤ 1099511627776 := by omega
  clear hl hr hn
  go_enter Tryd.func19, Tryd.ntmps19
  go_wp2
  go_loop [5] (fun i => ∃ k : Nat, k ≤ n ∧ i = .int .i64 k ∧ Hid (∀ j, j < k → l.getD j 0 ≠ a)) (fun i => n - (intOf i).toNat)
  case atStart => exact ⟨0, by omega, rfl, Lib.hid (fun j hj => absurd hj (by omega))⟩
  case round =>
    obtain ⟨k, hk, rfl, hm⟩ := hrel
    by_cases hlt : k < n
    · obtain ⟨b, o, rfl, hb, hcs⟩ := HR.out (by rw [HL.out]; omega)
      have hc := hcs k (by rw [HL.out]; exact hlt)
      have k1 : (k : Int) < n := by omega
      have k0 : (0 : Int) ≤ k := by omega
      have HS := Lib.hid (fun (h : l.getD k 0 ≠ a) => (fun j hj => by
        by_cases e : j = k
        · rw [e]; exact h
        · exact hm.out j (by omega) : ∀ j, j < k + 1 → l.getD j 0 ≠ a))
      have HI := Lib.hid (fun (h : l.getD k 0 = a) => show inR l a = true from by
        unfold inR
        rw [decide_eq_true (show a ∈ l from by rw [← h, getD_of (by rw [HL.out]; exact hlt)]; exact List.getElem_mem _)]; rfl)
      obtain ⟨x, hx⟩ : ∃ x, x = l.getD k 0 := ⟨_, rfl⟩
      rw [← hx] at hc HI HS
      clear hx hm hcs hb
      by_cases he : x = a
      · subst he
        have hv := Lib.hid (HI.out rfl)
        have hbb : (x == x) = true := by simp
        clear HI HS
        go_wp2
        go_ret
        exact ⟨by rw [hv.out]; rfl, rfl⟩
      · have hv := Lib.hid (HS.out he)
        have hbb : (x == a) = false := beq_eq_false_iff_ne.2 he
        clear HI HS he
        go_wp2
        go_round
        case rel => exact ⟨k + 1, by omega, by go_num, hv⟩
        case measure => simp [intOf]; omega
    · obtain rfl : k = n := by omega
      have hv := Lib.hid (show inR l a = decide (k = 0) from by
        unfold inR
        rw [decide_eq_false (fun h => by
          obtain ⟨j, hj, e⟩ := List.mem_iff_getElem.1 h
          exact hm.out j (by have := HL.out; omega) (by rw [getD_of hj, e])), Bool.false_or, Bool.eq_iff_iff, List.isEmpty_iff, decide_eq_true_iff, ← HL.out, List.length_eq_zero_iff])
      by_cases h0 : k = 0
      · subst h0
        go_wp2
        go_ret
        exact ⟨by rw [hv.out]; rfl, rfl⟩
      · have hb : ((k : Int) == 0) = false := beq_eq_false_iff_ne.2 (by omega)
        have HZ := Lib.hid h0
        clear h0
        go_wp2
        go_ret
        exact ⟨by rw [hv.out, decide_eq_false HZ.out]; rfl, rfl⟩
end Go.Proofs.YtjfoipjifjblmaaDoor
