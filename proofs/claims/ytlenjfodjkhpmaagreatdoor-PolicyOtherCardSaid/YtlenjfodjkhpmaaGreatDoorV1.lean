/- The landed policy: whether numbers ascend, whether notes have an error, whether a call has an action; the initial policy. Conditions: at most 2,000,000 elements. -/
import Derived.Test.YtlenjfodjkhpmaaGreatDoorF5
import Derived.Test.YtlenjfodjkhpmaaGreatDoorBk
import Derived.Test.YtlenjfodjkhpmaaGreatDoorJp
import Derived.Test.YtlenjfodjkhpmaaGreatDoorD2
namespace Go.Proofs.YtlenjfodjkhpmaaGreatDoor
set_option maxRecDepth 100000
open Go.Lib (hid)
open Go.RowKit
set_option linter.unusedVariables false
set_option linter.unusedSimpArgs false
attribute [local go_sem ↓] Go.wp_at_zero Go.wp_at_succ

/-! ### the chapter -/
def okI (kn : Int → Bool) (l : List Int) (k : Nat) : Bool := match l[k]? with
 | none => true
 | some x => kn x && (decide (k = 0) || (match l[k - 1]? with | some y => decide (y < x) | none => true))
def ascL (kn : Int → Bool) (l : List Int) : Bool := (List.range l.length).all (okI kn l)
theorem asc_bad19 {kn : Int → Bool} {l : List Int} {k : Nat} (hk : k < l.length) (h : okI kn l k = false) : ascL kn l = false := List.all_eq_false.2 ⟨k, List.mem_range.2 hk, by rw [h]; simp⟩
theorem asc_all19 {kn : Int → Bool} {l : List Int} {n : Nat} (hn : n = l.length) (h : ∀ j, j < n → okI kn l j = true) : ascL kn l = true := List.all_eq_true.2 fun j hj => h j (by rw [hn]; exact List.mem_range.1 hj)
def knA (a : Int) : Bool := !(nameA8 a).toList.isEmpty
def knF (n : Int) : Bool := !((nameR famT n.toNat).getD ⟨#[]⟩).toList.isEmpty
def natI (l : List Nat) : List Int := l.map fun (x : Nat) => (x : Int)
def famOk (m : Nat) (l : List Nat) : Bool := if m = 0 then l.isEmpty else if m = 1 ∨ m = 2 then ascL knF (natI l) else false
def denyOk (d : Nat) : Bool := decide (d = 2147483648) || (decide (327680 ≤ d) && decide (d ≤ 331775))
def actB (c : Cl) : Bool := !decide (c.2 = 0)
def spOk (x : Nat) : Bool := decide (x &&& (18446744073709551615 - allN) = 0)
def mayP (P : Pol) : Bool := ascL knA P.ar && (famOk P.fm P.fa && (mayR knownR P.fl.1 P.fl.2 && (mayR knownR P.lg.1 P.lg.2 && (!P.lg.2.any actB && (denyOk P.dn && spOk P.sp)))))
def wrnB (x : Nte) : Bool := !warnsF x.err
def ixB {α : Type} (p : α → Bool) (l : List α) : Int := match l.findIdx? p with | some k => (k : Int) | none => -1
theorem ixb_hit19 {α : Type} {p : α → Bool} {l : List α} {k : Nat} {y : α} (hk : l[k]? = some y) (hp : p y = true) (hm : ∀ j x, j < k → l[j]? = some x → p x = false) : ixB p l = k := by
 unfold ixB
 have : l.findIdx? p = some k := List.findIdx?_eq_some_iff_getElem.2 ⟨(List.getElem?_eq_some_iff.1 hk).1, by rw [(List.getElem?_eq_some_iff.1 hk).2]; exact hp, fun j hj => by
  have hjl : j < l.length := Nat.lt_trans hj (List.getElem?_eq_some_iff.1 hk).1
  rw [hm j l[j] hj (List.getElem?_eq_getElem hjl)]; exact Bool.noConfusion⟩
 rw [this]
theorem ixb_miss19 {α : Type} {p : α → Bool} {l : List α} {n : Nat} (hn : n = l.length) (hm : ∀ j x, j < n → l[j]? = some x → p x = false) : ixB p l = -1 := by
 unfold ixB
 have : l.findIdx? p = none := List.findIdx?_eq_none_iff.2 fun x hx => by
  obtain ⟨j, hj⟩ := List.getElem?_of_mem hx
  exact hm j x (by rw [hn]; exact (List.getElem?_eq_some_iff.1 hj).1) hj
 rw [this]
theorem ixb_any19 {α : Type} {p : α → Bool} {l : List α} : decide (0 ≤ ixB p l) = l.any p := by
 unfold ixB
 cases h : l.findIdx? p with
 | none =>
  rw [List.any_eq_false.2 (fun x hx => by rw [List.findIdx?_eq_none_iff.1 h x hx]; exact Bool.noConfusion)]
  rfl
 | some k =>
  obtain ⟨h1, h2, _⟩ := List.findIdx?_eq_some_iff_getElem.1 h
  rw [List.any_eq_true.2 ⟨_, List.getElem_mem h1, h2⟩]
  exact decide_eq_true (show (0 : Int) ≤ k by omega)
/-! ### the calls -/
set_option maxHeartbeats 4000000 in
theorem act_c19 (c : Cl) (w : World) : Calls Tryz.prog 59 #[.agg #[.string c.1, .int .u32 (c.2 : Nat)]] w fun e w' => e = .returned (.bool (actB c)) ∧ Below w.heap.size w w' := by
 unfold actB
 obtain ⟨a, n⟩ := c
 simp only
 by_cases h : n = 0
 ·subst h
  go_enter Tryz.func59, Tryz.ntmps59
  go_wp2
  go_ret
  exact ⟨rfl, (Below.refl _ _).alloc (Nat.le_refl _) _⟩
 ·have t : ((n : Int) == 0) = false := beq_eq_false_iff_ne.2 (by omega)
  have t2 : ((n : Int) != 0) = true := bne_iff_ne.2 (by omega)
  rw [decide_eq_false h]
  clear h
  go_enter Tryz.func59, Tryz.ntmps59
  go_wp2
  go_ret
  exact ⟨rfl, (Below.refl _ _).alloc (Nat.le_refl _) _⟩
set_option maxHeartbeats 4000000 in
theorem fd1_c19 (x : Nte) (w : World) : Calls Tryz.prog 29 #[.agg #[.string x.file, .int .i64 x.line, .int .i64 x.err, .string x.text]] w fun e w' => e = .returned (.bool (wrnB x)) ∧ Below w.heap.size w w' := by
 unfold wrnB
 obtain ⟨fi, li, er, te⟩ := x
 simp only
 have HW := hid (fun W => warns_c er W)
 generalize warnsF er = z at HW ⊢
 go_enter Tryz.func29, Tryz.ntmps29
 go_wp2_with (go_at_call 30; ((with_reducible refine (HW.out _).mono ?_); rintro e w1 ⟨rfl, rfl⟩))
 go_ret
 exact ⟨rfl, (Below.refl _ _).alloc (Nat.le_refl _) _⟩
theorem RowsAt.row19 {w : World} {q : Option Addr} {n c : Nat} {N : List Nte} (h : RowsAt 4 encN w (.slice q n c) N) {k : Nat} {x : Nte} (hx : N[k]? = some x) : ∃ g o, q = some ⟨g, o, none⟩ ∧ w.cell? ⟨g, o + k * 4, none⟩ = some (.string x.file) ∧ w.cell? ⟨g, o + k * 4 + 1, none⟩ = some (.int .i64 x.line) ∧ w.cell? ⟨g, o + k * 4 + 2, none⟩ = some (.int .i64 x.err) ∧ w.cell? ⟨g, o + k * 4 + 3, none⟩ = some (.string x.text) := row_nte h hx
set_option maxHeartbeats 4000000 in
theorem ixn_c19 (q : Option Addr) (n c : Nat) (L : List Nte) (w : World) (hl : n = L.length) (hn : n ≤ 2000000) (h : RowsAt 4 encN w (.slice q n c) L) : Calls Tryz.prog 77 #[.slice q n c, .func (.func 29) #[] #[]] w fun e w' => e = .returned (.int .i64 (ixB wrnB L)) ∧ Below w.heap.size w w' := by
 have HN := hid (fun (W : World) (b : Below w.heap.size w W) => h.on b)
 have HL := hid hl
 skip
 obtain ⟨r, hr⟩ : ∃ r, r = ixB wrnB L := ⟨_, rfl⟩
 rw [← hr]
 have HR := hid hr
 clear h hl hr 
 go_enter Tryz.func77, Tryz.ntmps77
 go_wp2
 go_loopw [8] (fun v8 wr => ∃ k : Nat, k ≤ n ∧ v8 = .int .i64 k ∧ Hid (∀ j y, j < k → L[j]? = some y → wrnB y = false) ∧ Hid (Below w.heap.size w wr)) (fun v8 _ => n - (intOf v8).toNat)
 case atStart => exact ⟨0, Nat.zero_le _, rfl, hid (fun j y hj _ => absurd hj (by omega)), hid (Below.refl _ _)⟩
 case round =>
  obtain ⟨k, hk, rfl, HM, HB⟩ := hrel
  obtain ⟨V, rfl⟩ : ∃ wo : World, wo = wr := ⟨_, rfl⟩
  by_cases hlt : k < n
  ·obtain ⟨y, hy⟩ : ∃ y, L[k]? = some y := ⟨L[k]'(by rw [← HL.out]; exact hlt), List.getElem?_eq_getElem _⟩
   obtain ⟨g, o, rfl, c0, c1, c2, c3⟩ := RowsAt.row19 (HN.out V HB.out) hy
   have k1 : (k : Int) < n := by omega
   have k0 : (0 : Int) ≤ k := by omega
   have HHIT := hid (fun (e : wrnB y = true) => HR.out.trans (ixb_hit19 (p := wrnB) hy e HM.out))
   have HMS := hid (fun (e : wrnB y = false) => (fun j z hj hz => by
    by_cases ej : j = k
    ·subst ej; rw [hy] at hz; injection hz with hz; rw [← hz]; exact e
    ·exact HM.out j z (by omega) hz : ∀ j z, j < k + 1 → L[j]? = some z → wrnB z = false))
   have HK := hid (fd1_c19 y V)
   generalize wrnB y = z at HK HHIT HMS
   cases z with
   | true =>
    have hv := hid (HHIT.out rfl)
    clear HHIT HMS hy
    go_wp2_with (go_at_call 29; ((with_reducible refine (HK.out).mono ?_); rintro e w1 ⟨rfl, b1⟩); have B1 := hid (thn16 HB.out b1))
    go_ret
    exact ⟨by rw [hv.out]; rfl, B1.out⟩
   | false =>
    have hm := hid (HMS.out rfl)
    clear HHIT HMS hy
    go_wp2_with (go_at_call 29; ((with_reducible refine (HK.out).mono ?_); rintro e w1 ⟨rfl, b1⟩); have B1 := hid (thn16 HB.out b1))
    go_roundw
    case rel => exact ⟨k + 1, by omega, by go_num, hm, B1⟩
    case measure => first | (simp [intOf]; done) | (simp [intOf]; omega)
  ·obtain rfl : k = n := by omega
   have k1 : ¬ (k : Int) < (k : Nat) := by omega
   have hv := hid (HR.out.trans (ixb_miss19 HL.out HM.out))
   go_wp2
   go_ret
   exact ⟨by rw [hv.out]; rfl, HB.out⟩
set_option maxHeartbeats 4000000 in
theorem ixc_c19 (q : Option Addr) (n c : Nat) (L : List Cl) (w : World) (hl : n = L.length) (hn : n ≤ 2000000) (h : LsAt w q L) : Calls Tryz.prog 95 #[.slice q n c, .func (.func 59) #[] #[]] w fun e w' => e = .returned (.int .i64 (ixB actB L)) ∧ Below w.heap.size w w' := by
 have HN := hid (fun (W : World) (b : Below w.heap.size w W) => h.on b)
 have HL := hid hl
 skip
 obtain ⟨r, hr⟩ : ∃ r, r = ixB actB L := ⟨_, rfl⟩
 rw [← hr]
 have HR := hid hr
 clear h hl hr 
 go_enter Tryz.func95, Tryz.ntmps95
 go_wp2
 go_loopw [8] (fun v8 wr => ∃ k : Nat, k ≤ n ∧ v8 = .int .i64 k ∧ Hid (∀ j y, j < k → L[j]? = some y → actB y = false) ∧ Hid (Below w.heap.size w wr)) (fun v8 _ => n - (intOf v8).toNat)
 case atStart => exact ⟨0, Nat.zero_le _, rfl, hid (fun j y hj _ => absurd hj (by omega)), hid (Below.refl _ _)⟩
 case round =>
  obtain ⟨k, hk, rfl, HM, HB⟩ := hrel
  obtain ⟨V, rfl⟩ : ∃ wo : World, wo = wr := ⟨_, rfl⟩
  by_cases hlt : k < n
  ·obtain ⟨y, hy⟩ : ∃ y, L[k]? = some y := ⟨L[k]'(by rw [← HL.out]; exact hlt), List.getElem?_eq_getElem _⟩
   obtain ⟨g, o, rfl, c0, c1⟩ := HN.out V HB.out k y hy
   have k1 : (k : Int) < n := by omega
   have k0 : (0 : Int) ≤ k := by omega
   have HHIT := hid (fun (e : actB y = true) => HR.out.trans (ixb_hit19 (p := actB) hy e HM.out))
   have HMS := hid (fun (e : actB y = false) => (fun j z hj hz => by
    by_cases ej : j = k
    ·subst ej; rw [hy] at hz; injection hz with hz; rw [← hz]; exact e
    ·exact HM.out j z (by omega) hz : ∀ j z, j < k + 1 → L[j]? = some z → actB z = false))
   have HK := hid (act_c19 y V)
   generalize actB y = z at HK HHIT HMS
   cases z with
   | true =>
    have hv := hid (HHIT.out rfl)
    clear HHIT HMS hy
    go_wp2_with (go_at_call 59; ((with_reducible refine (HK.out).mono ?_); rintro e w1 ⟨rfl, b1⟩); have B1 := hid (thn16 HB.out b1))
    go_ret
    exact ⟨by rw [hv.out]; rfl, B1.out⟩
   | false =>
    have hm := hid (HMS.out rfl)
    clear HHIT HMS hy
    go_wp2_with (go_at_call 59; ((with_reducible refine (HK.out).mono ?_); rintro e w1 ⟨rfl, b1⟩); have B1 := hid (thn16 HB.out b1))
    go_roundw
    case rel => exact ⟨k + 1, by omega, by go_num, hm, B1⟩
    case measure => first | (simp [intOf]; done) | (simp [intOf]; omega)
  ·obtain rfl : k = n := by omega
   have k1 : ¬ (k : Int) < (k : Nat) := by omega
   have hv := hid (HR.out.trans (ixb_miss19 HL.out HM.out))
   go_wp2
   go_ret
   exact ⟨by rw [hv.out]; rfl, HB.out⟩
set_option maxHeartbeats 4000000 in
theorem con_n19 (q : Option Addr) (n c : Nat) (L : List Nte) (w : World) (hl : n = L.length) (hn : n ≤ 2000000) (h : RowsAt 4 encN w (.slice q n c) L) : Calls Tryz.prog 28 #[.slice q n c, .func (.func 29) #[] #[]] w fun e w' => e = .returned (.bool (L.any wrnB)) ∧ Below w.heap.size w w' := by
 have HI := hid (ixn_c19 q n c L w hl hn h)
 rw [← ixb_any19]
 generalize ixB wrnB L = r at HI ⊢
 clear hl hn h
 go_enter Tryz.func28, Tryz.ntmps28
 go_wp2_with (go_at_call 77; ((with_reducible refine (HI.out).mono ?_); rintro e w1 ⟨rfl, b1⟩))
 go_ret
 exact ⟨rfl, b1⟩
set_option maxHeartbeats 4000000 in
theorem con_c19 (q : Option Addr) (n c : Nat) (L : List Cl) (w : World) (hl : n = L.length) (hn : n ≤ 2000000) (h : LsAt w q L) : Calls Tryz.prog 58 #[.slice q n c, .func (.func 59) #[] #[]] w fun e w' => e = .returned (.bool (L.any actB)) ∧ Below w.heap.size w w' := by
 have HI := hid (ixc_c19 q n c L w hl hn h)
 rw [← ixb_any19]
 generalize ixB actB L = r at HI ⊢
 clear hl hn h
 go_enter Tryz.func58, Tryz.ntmps58
 go_wp2_with (go_at_call 95; ((with_reducible refine (HI.out).mono ?_); rintro e w1 ⟨rfl, b1⟩))
 go_ret
 exact ⟨rfl, b1⟩
set_option maxHeartbeats 4000000 in
theorem failed_c19 (q : Option Addr) (n c : Nat) (L : List Nte) (w : World) (hl : n = L.length) (hn : n ≤ 2000000) (h : RowsAt 4 encN w (.slice q n c) L) : Calls Tryz.prog 13 #[.slice q n c] w fun e w' => e = .returned (.bool (L.any wrnB)) ∧ Below w.heap.size w w' := by
 have HI := hid (con_n19 q n c L w hl hn h)
 generalize L.any wrnB = r at HI ⊢
 clear hl hn h
 go_enter Tryz.func13, Tryz.ntmps13
 go_wp2_with (go_at_call 28; ((with_reducible refine (HI.out).mono ?_); rintro e w1 ⟨rfl, b1⟩))
 go_ret
 exact ⟨rfl, b1⟩
set_option maxHeartbeats 4000000 in
theorem asc_i19 (q : Option Addr) (n c : Nat) (L : List Int) (kn : Int → Bool) (w : World) (hl : n = L.length) (hn : n ≤ 100000) (h : NumsAt .i64 w q L) (HP : ∀ (y : Int) (W : World), y ∈ L → Below w.heap.size w W → Calls Tryz.prog 55 #[.int .i64 y] W fun e w' => e = .returned (.bool (kn y)) ∧ Below W.heap.size W w') : Calls Tryz.prog 54 #[.slice q n c, .func (.func 55) #[] #[]] w fun e w' => e = .returned (.bool (ascL kn L)) ∧ Below w.heap.size w w' := by
 have HN := hid (fun (W : World) (b : Below w.heap.size w W) => h.on b)
 have HL := hid hl
 have HPP := hid HP
 clear h hl HP
 go_enter Tryz.func54, Tryz.ntmps54
 go_wp2
 go_loopw [9] (fun v9 wr => ∃ k : Nat, k ≤ n ∧ v9 = .int .i64 k ∧ Hid (∀ j, j < k → okI kn L j = true) ∧ Hid (Below w.heap.size w wr)) (fun v9 _ => n - (intOf v9).toNat)
 case atStart => exact ⟨0, Nat.zero_le _, rfl, hid (fun j hj => absurd hj (by omega)), hid (Below.refl _ _)⟩
 case round =>
  obtain ⟨k, hk, rfl, HM, HB⟩ := hrel
  obtain ⟨V, rfl⟩ : ∃ wo : World, wo = wr := ⟨_, rfl⟩
  by_cases hlt : k < n
  ·obtain ⟨y, hy⟩ : ∃ y, L[k]? = some y := ⟨L[k]'(by rw [← HL.out]; exact hlt), List.getElem?_eq_getElem _⟩
   obtain ⟨g, o, hq, hc⟩ := HN.out V HB.out k y hy
   have k1 : (k : Int) < n := by omega
   have k0 : (0 : Int) ≤ k := by omega
   have HK := hid (HPP.out y V (List.mem_of_getElem? hy) HB.out)
   have HY := hid hy
   by_cases hz : k = 0
   ·subst hz
    subst hq
    rw [Nat.add_zero] at hc
    have z1 : ¬ (0 : Int) < ((0 : Nat) : Int) := by omega
    have HOK := hid (show okI kn L 0 = kn y by unfold okI; rw [HY.out]; simp)
    generalize kn y = z at HK HOK
    cases z with
    | true =>
     clear hy
     go_wp2_with (go_at_call 55; ((with_reducible refine (HK.out).mono ?_); rintro e w1 ⟨rfl, b1⟩); have B1 := hid (thn16 HB.out b1))
     go_roundw
     case rel => exact ⟨1, by omega, by go_num, hid (fun j hj => by
      have hj0 : j = 0 := by omega
      rw [hj0]
      exact HOK.out), B1⟩
     case measure => first | (simp [intOf]; done) | (simp [intOf]; omega)
    | false =>
     clear hy
     go_wp2_with (go_at_call 55; ((with_reducible refine (HK.out).mono ?_); rintro e w1 ⟨rfl, b1⟩); have B1 := hid (thn16 HB.out b1))
     go_ret
     exact ⟨by rw [asc_bad19 (by rw [← HL.out]; omega) HOK.out]; rfl, B1.out⟩
   ·obtain ⟨k', rfl⟩ : ∃ k', k = k' + 1 := ⟨k - 1, by omega⟩
    obtain ⟨x, hx⟩ : ∃ x, L[k']? = some x := ⟨L[k']'(by rw [← HL.out]; omega), List.getElem?_eq_getElem _⟩
    obtain ⟨g', o', hq', hc'⟩ := HN.out V HB.out k' x hx
    subst hq
    injection hq' with hq'
    injection hq' with e1 e2 _
    subst e1 e2
    have z1 : (0 : Int) < ((k' + 1 : Nat) : Int) := by omega
    have e3 : IntKind.i64.wrap (((k' + 1 : Nat) : Int) - 1) = (k' : Nat) := by rw [IntKind.wrap_i64]; omega
    have e4 : (((k' + 1 : Nat) : Int) - 1) = (k' : Nat) := by omega
    have e5 : IntKind.i64.wrap ((k' : Nat) : Int) = (k' : Nat) := by rw [IntKind.wrap_i64]; omega
    have j1 : (k' : Int) < n := by omega
    have j0 : (0 : Int) ≤ k' := by omega
    have HOK := hid (show okI kn L (k' + 1) = (kn y && decide (x < y)) by unfold okI; rw [HY.out]; simp [hx])
    by_cases hxy : x < y
    ·have x1 : ¬ y ≤ x := by omega
     rw [decide_eq_true hxy, Bool.and_true] at HOK
     generalize kn y = z at HK HOK
     cases z with
     | true =>
      clear hy hx hxy
      go_wp2_with (go_at_call 55; ((with_reducible refine (HK.out).mono ?_); rintro e w1 ⟨rfl, b1⟩); have B1 := hid (thn16 HB.out b1))
      go_roundw
      case rel => exact ⟨k' + 1 + 1, by omega, by go_num, hid (fun j hj => by
       by_cases ej : j = k' + 1
       ·subst ej; exact HOK.out
       ·exact HM.out j (by omega)), B1⟩
      case measure => first | (simp [intOf]; done) | (simp [intOf]; omega)
     | false =>
      clear hy hx hxy
      go_wp2_with (go_at_call 55; ((with_reducible refine (HK.out).mono ?_); rintro e w1 ⟨rfl, b1⟩); have B1 := hid (thn16 HB.out b1))
      go_ret
      exact ⟨by rw [asc_bad19 (by rw [← HL.out]; omega) HOK.out]; rfl, B1.out⟩
    ·have x1 : y ≤ x := by omega
     rw [decide_eq_false hxy, Bool.and_false] at HOK
     clear hy hx hxy HK
     go_wp2_with fail
     go_ret
     exact ⟨by rw [asc_bad19 (by rw [← HL.out]; omega) HOK.out]; rfl, HB.out⟩
  ·obtain rfl : k = n := by omega
   have k1 : ¬ (k : Int) < (k : Nat) := by omega
   have hv := hid (asc_all19 HL.out HM.out)
   go_wp2
   go_ret
   exact ⟨by rw [hv.out]; rfl, HB.out⟩
set_option maxHeartbeats 4000000 in
theorem asc_u19 (q : Option Addr) (n c : Nat) (L : List Int) (kn : Int → Bool) (w : World) (hl : n = L.length) (hn : n ≤ 100000) (h : NumsAt .u32 w q L) (HP : ∀ (y : Int) (W : World), y ∈ L → Below w.heap.size w W → Calls Tryz.prog 93 #[.int .u32 y] W fun e w' => e = .returned (.bool (kn y)) ∧ Below W.heap.size W w') : Calls Tryz.prog 92 #[.slice q n c, .func (.func 93) #[] #[]] w fun e w' => e = .returned (.bool (ascL kn L)) ∧ Below w.heap.size w w' := by
 have HN := hid (fun (W : World) (b : Below w.heap.size w W) => h.on b)
 have HL := hid hl
 have HPP := hid HP
 clear h hl HP
 go_enter Tryz.func92, Tryz.ntmps92
 go_wp2
 go_loopw [9] (fun v9 wr => ∃ k : Nat, k ≤ n ∧ v9 = .int .i64 k ∧ Hid (∀ j, j < k → okI kn L j = true) ∧ Hid (Below w.heap.size w wr)) (fun v9 _ => n - (intOf v9).toNat)
 case atStart => exact ⟨0, Nat.zero_le _, rfl, hid (fun j hj => absurd hj (by omega)), hid (Below.refl _ _)⟩
 case round =>
  obtain ⟨k, hk, rfl, HM, HB⟩ := hrel
  obtain ⟨V, rfl⟩ : ∃ wo : World, wo = wr := ⟨_, rfl⟩
  by_cases hlt : k < n
  ·obtain ⟨y, hy⟩ : ∃ y, L[k]? = some y := ⟨L[k]'(by rw [← HL.out]; exact hlt), List.getElem?_eq_getElem _⟩
   obtain ⟨g, o, hq, hc⟩ := HN.out V HB.out k y hy
   have k1 : (k : Int) < n := by omega
   have k0 : (0 : Int) ≤ k := by omega
   have HK := hid (HPP.out y V (List.mem_of_getElem? hy) HB.out)
   have HY := hid hy
   by_cases hz : k = 0
   ·subst hz
    subst hq
    rw [Nat.add_zero] at hc
    have z1 : ¬ (0 : Int) < ((0 : Nat) : Int) := by omega
    have HOK := hid (show okI kn L 0 = kn y by unfold okI; rw [HY.out]; simp)
    generalize kn y = z at HK HOK
    cases z with
    | true =>
     clear hy
     go_wp2_with (go_at_call 93; ((with_reducible refine (HK.out).mono ?_); rintro e w1 ⟨rfl, b1⟩); have B1 := hid (thn16 HB.out b1))
     go_roundw
     case rel => exact ⟨1, by omega, by go_num, hid (fun j hj => by
      have hj0 : j = 0 := by omega
      rw [hj0]
      exact HOK.out), B1⟩
     case measure => first | (simp [intOf]; done) | (simp [intOf]; omega)
    | false =>
     clear hy
     go_wp2_with (go_at_call 93; ((with_reducible refine (HK.out).mono ?_); rintro e w1 ⟨rfl, b1⟩); have B1 := hid (thn16 HB.out b1))
     go_ret
     exact ⟨by rw [asc_bad19 (by rw [← HL.out]; omega) HOK.out]; rfl, B1.out⟩
   ·obtain ⟨k', rfl⟩ : ∃ k', k = k' + 1 := ⟨k - 1, by omega⟩
    obtain ⟨x, hx⟩ : ∃ x, L[k']? = some x := ⟨L[k']'(by rw [← HL.out]; omega), List.getElem?_eq_getElem _⟩
    obtain ⟨g', o', hq', hc'⟩ := HN.out V HB.out k' x hx
    subst hq
    injection hq' with hq'
    injection hq' with e1 e2 _
    subst e1 e2
    have z1 : (0 : Int) < ((k' + 1 : Nat) : Int) := by omega
    have e3 : IntKind.i64.wrap (((k' + 1 : Nat) : Int) - 1) = (k' : Nat) := by rw [IntKind.wrap_i64]; omega
    have e4 : (((k' + 1 : Nat) : Int) - 1) = (k' : Nat) := by omega
    have e5 : IntKind.i64.wrap ((k' : Nat) : Int) = (k' : Nat) := by rw [IntKind.wrap_i64]; omega
    have j1 : (k' : Int) < n := by omega
    have j0 : (0 : Int) ≤ k' := by omega
    have HOK := hid (show okI kn L (k' + 1) = (kn y && decide (x < y)) by unfold okI; rw [HY.out]; simp [hx])
    by_cases hxy : x < y
    ·have x1 : ¬ y ≤ x := by omega
     rw [decide_eq_true hxy, Bool.and_true] at HOK
     generalize kn y = z at HK HOK
     cases z with
     | true =>
      clear hy hx hxy
      go_wp2_with (go_at_call 93; ((with_reducible refine (HK.out).mono ?_); rintro e w1 ⟨rfl, b1⟩); have B1 := hid (thn16 HB.out b1))
      go_roundw
      case rel => exact ⟨k' + 1 + 1, by omega, by go_num, hid (fun j hj => by
       by_cases ej : j = k' + 1
       ·subst ej; exact HOK.out
       ·exact HM.out j (by omega)), B1⟩
      case measure => first | (simp [intOf]; done) | (simp [intOf]; omega)
     | false =>
      clear hy hx hxy
      go_wp2_with (go_at_call 93; ((with_reducible refine (HK.out).mono ?_); rintro e w1 ⟨rfl, b1⟩); have B1 := hid (thn16 HB.out b1))
      go_ret
      exact ⟨by rw [asc_bad19 (by rw [← HL.out]; omega) HOK.out]; rfl, B1.out⟩
    ·have x1 : y ≤ x := by omega
     rw [decide_eq_false hxy, Bool.and_false] at HOK
     clear hy hx hxy HK
     go_wp2_with fail
     go_ret
     exact ⟨by rw [asc_bad19 (by rw [← HL.out]; omega) HOK.out]; rfl, HB.out⟩
  ·obtain rfl : k = n := by omega
   have k1 : ¬ (k : Int) < (k : Nat) := by omega
   have hv := hid (asc_all19 HL.out HM.out)
   go_wp2
   go_ret
   exact ⟨by rw [hv.out]; rfl, HB.out⟩
set_option maxHeartbeats 4000000 in
theorem knA_c19 (a : Int) (w : World) (hG : GA8 w) : Calls Tryz.prog 55 #[.int .i64 a] w fun e w' => e = .returned (.bool (knA a)) ∧ Below w.heap.size w w' := by
 have HN := hid (name8 a w hG)
 unfold knA
 generalize nameA8 a = s at HN ⊢
 go_enter Tryz.func55, Tryz.ntmps55
 go_wp2_with (go_at_call 38; ((with_reducible refine (HN.out).mono ?_); rintro e w1 ⟨rfl, b1⟩))
 go_ret
 exact ⟨rfl, b1⟩
set_option maxHeartbeats 4000000 in
theorem knF_c19 (n : Nat) (w : World) (hG : GN w) : Calls Tryz.prog 93 #[.int .u32 (n : Nat)] w fun e w' => e = .returned (.bool (knF (n : Nat))) ∧ Below w.heap.size w w' := by
 have HN := hid (familyNameN n w hG)
 unfold knF
 rw [show ((n : Nat) : Int).toNat = n from rfl]
 generalize (nameR famT n).getD ⟨#[]⟩ = s at HN ⊢
 go_enter Tryz.func93, Tryz.ntmps93
 go_wp2_with (go_at_call 87; ((with_reducible refine (HN.out).mono ?_); rintro e w1 ⟨rfl, b1⟩))
 go_ret
 exact ⟨rfl, b1⟩
set_option maxHeartbeats 4000000 in
theorem deny_c19 (d : Nat) (w : World) : Calls Tryz.prog 60 #[.int .u32 (d : Nat)] w fun e w' => e = .returned (.bool (denyOk d)) ∧ w = w' := by
 unfold denyOk
 by_cases h0 : d = 2147483648
 ·subst h0
  go_enter Tryz.func60, Tryz.ntmps60
  go_wp2
  go_ret
  exact ⟨rfl, rfl⟩
 ·have t0 : ((d : Int) == 2147483648) = false := beq_eq_false_iff_ne.2 (by omega)
  rw [decide_eq_false h0]
  by_cases h1 : 327680 ≤ d
  ·have t1 : (327680 : Int) ≤ d := by omega
   rw [decide_eq_true h1]
   by_cases h2 : d ≤ 331775
   ·have t2 : (d : Int) ≤ 331775 := by omega
    rw [decide_eq_true h2]
    clear h0 h1 h2
    go_enter Tryz.func60, Tryz.ntmps60
    go_wp2
    go_ret
    exact ⟨rfl, rfl⟩
   ·have t2 : ¬ (d : Int) ≤ 331775 := by omega
    rw [decide_eq_false h2]
    clear h0 h1 h2
    go_enter Tryz.func60, Tryz.ntmps60
    go_wp2
    go_ret
    exact ⟨rfl, rfl⟩
  ·have t1 : ¬ (327680 : Int) ≤ d := by omega
   rw [decide_eq_false h1]
   clear h0 h1
   go_enter Tryz.func60, Tryz.ntmps60
   go_wp2
   go_ret
   exact ⟨rfl, rfl⟩
set_option maxHeartbeats 4000000 in
theorem mayf_c19 (m : Nat) (q : Option Addr) (n c : Nat) (L : List Nat) (w : World) (hG : GN w) (hm : m < 256) (hl : n = L.length) (hn : n ≤ 100000) (h : NumsAt .u32 w q (natI L)) : Calls Tryz.prog 56 #[.int .u8 (m : Nat), .slice q n c] w fun e w' => e = .returned (.bool (famOk m L)) ∧ Below w.heap.size w w' := by
 have HA := hid (asc_u19 q n c (natI L) knF w (by unfold natI; rw [List.length_map]; exact hl) hn h (fun y W hy b => by
  obtain ⟨x, _, rfl⟩ := List.mem_map.1 hy
  exact knF_c19 x W (hG.on b)))
 unfold famOk
 by_cases h0 : m = 0
 ·subst h0
  rw [if_pos rfl]
  by_cases e : n = 0
  ·have he : L.isEmpty = true := by cases L with | nil => rfl | cons a b => simp at hl; omega
   subst e
   rw [he]
   clear h hl he hn HA
   go_enter Tryz.func56, Tryz.ntmps56
   go_wp2
   go_ret
   exact ⟨rfl, Below.refl _ _⟩
  ·have he : L.isEmpty = false := by cases L with | nil => exact absurd hl e | cons a b => rfl
   have t : ((n : Int) == 0) = false := beq_eq_false_iff_ne.2 (by omega)
   rw [he]
   clear h hl he hn HA e
   go_enter Tryz.func56, Tryz.ntmps56
   go_wp2
   go_ret
   exact ⟨rfl, Below.refl _ _⟩
 ·rw [if_neg h0]
  generalize ascL knF (natI L) = z at HA ⊢
  by_cases h1 : m = 1
  ·subst h1
   rw [if_pos (.inl rfl)]
   clear h hl hn h0
   go_enter Tryz.func56, Tryz.ntmps56
   go_wp2_with (go_at_call 92; ((with_reducible refine (HA.out).mono ?_); rintro e w1 ⟨rfl, b1⟩))
   go_ret
   exact ⟨rfl, b1⟩
  ·by_cases h2 : m = 2
   ·subst h2
    rw [if_pos (.inr rfl)]
    clear h hl hn h0 h1
    go_enter Tryz.func56, Tryz.ntmps56
    go_wp2_with (go_at_call 92; ((with_reducible refine (HA.out).mono ?_); rintro e w1 ⟨rfl, b1⟩))
    go_ret
    exact ⟨rfl, b1⟩
   ·rw [if_neg (by omega)]
    have t0 : ((m : Int) == 0) = false := beq_eq_false_iff_ne.2 (by omega)
    have t1 : ((m : Int) == 1) = false := beq_eq_false_iff_ne.2 (by omega)
    have t2 : ((m : Int) == 2) = false := beq_eq_false_iff_ne.2 (by omega)
    clear h hl hn h0 h1 h2 HA
    go_enter Tryz.func56, Tryz.ntmps56
    go_wp2
    go_ret
    exact ⟨rfl, Below.refl _ _⟩
end Go.Proofs.YtlenjfodjkhpmaaGreatDoor
