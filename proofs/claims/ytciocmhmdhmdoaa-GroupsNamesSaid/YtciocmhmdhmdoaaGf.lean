/- Are two lists of names the same; what the calls of the package groups have to return, as the chapter says it; the chapter's rows. -/
import Derived.Test.YtciocmhmdhmdoaaGe
import Derived.Deep.RegionWith
import Derived.BigQuiet
import Derived.Deep.QuietTactic
import Derived.WalkSmall
namespace Go.Proofs.Ytciocmhmdhmdoaa
open Go.RowKit
set_option linter.unusedVariables false
set_option linter.unusedSimpArgs false
attribute [local go_sem ↓] Go.wp_at_zero Go.wp_at_succ

theorem StrsAt.lit (w : World) (l : List ByteArray) (t : TypeId) : StrsAt (w.alloc (.cells (sG l).toArray t)) (.slice (some ⟨w.heap.size, 0, none⟩) l.length l.length) l := by
  refine ⟨_, _, rfl, fun k s hk => ⟨w.heap.size, 0, rfl, ?_⟩⟩
  rw [Nat.zero_add, cell_of_row _ _ k _ _ (0, 0) (heap_alloc_new w _), List.getElem?_toArray]
  exact sG_get hk
set_option maxHeartbeats 4000000 in
theorem same_c (u v : Value) (a b : List ByteArray) (w : World) (hu : StrsAt w u a) (hv : StrsAt w v b) (ha : a.length ≤ 100000) : Calls Try.prog 9 #[u, v] w fun e w' => e = .returned (.bool (decide (a = b))) ∧ Below w.heap.size w w' := by
  obtain ⟨q, c, rfl, hr⟩ := hu
  obtain ⟨q2, c2, rfl, hr2⟩ := hv
  have HA := Lib.hid hr
  have HB := Lib.hid hr2
  have HEQ := Lib.hid (fun (h : a.length = b.length) (h2 : ∀ k x, a[k]? = some x → b[k]? = some x) => show a = b from List.ext_getElem? fun k => by
    cases hk : a[k]? with
    | some x => exact (h2 k x hk).symm
    | none => rw [List.getElem?_eq_none_iff] at hk; rw [List.getElem?_eq_none_iff.2 (by omega)])
  have HNE := Lib.hid (fun (h : a.length ≠ b.length) => show decide (a = b) = false from decide_eq_false fun e => h (by rw [e]))
  have HNX := Lib.hid (fun (k : Nat) (x y : ByteArray) (h1 : a[k]? = some x) (h2 : b[k]? = some y) (h : x ≠ y) => show decide (a = b) = false from decide_eq_false fun e => h (by rw [e, h2] at h1; exact (Option.some.inj h1).symm))
  obtain ⟨r, hrr⟩ : ∃ r, r = decide (a = b) := ⟨_, rfl⟩
  have HR := Lib.hid hrr
  rw [← hrr]
  obtain ⟨n, hn⟩ : ∃ n, n = a.length := ⟨_, rfl⟩
  obtain ⟨m, hm⟩ : ∃ m, m = b.length := ⟨_, rfl⟩
  have HN := Lib.hid hn
  have HM := Lib.hid hm
  rw [← hn] at ha ⊢
  rw [← hm]
  clear hr hr2 hrr hn hm
  by_cases hnm : n = m
  · subst hnm
    have t1 : ((n : Int) != (n : Int)) = false := by simp
    go_enter Try.func9, Try.ntmps9
    go_wp2_with fail
    go_loopw [5] (fun v5 wr => ∃ k : Nat, k ≤ n ∧ v5 = .int .i64 k ∧ Hid (∀ j, j < k → ∀ x, a[j]? = some x → b[j]? = some x) ∧ Hid (Below w.heap.size w wr)) (fun v5 _ => n - (intOf v5).toNat)
    case atStart => exact ⟨0, by omega, rfl, Lib.hid (fun j hj => absurd hj (by omega)), Lib.hid (Below.refl _ _)⟩
    case round =>
      obtain ⟨k, hk, rfl, PS, PB⟩ := hrel
      obtain ⟨V, rfl⟩ : ∃ wo : World, wo = wr := ⟨_, rfl⟩
      by_cases hlt : k < n
      · have hx : a[k]? = some (a[k]'(by rw [← HN.out]; exact hlt)) := List.getElem?_eq_getElem _
        have hy : b[k]? = some (b[k]'(by rw [← HM.out]; exact hlt)) := List.getElem?_eq_getElem _
        obtain ⟨x, ex⟩ : ∃ t, t = a[k]'(by rw [← HN.out]; exact hlt) := ⟨_, rfl⟩
        obtain ⟨y, ey⟩ : ∃ t, t = b[k]'(by rw [← HM.out]; exact hlt) := ⟨_, rfl⟩
        rw [← ex] at hx
        rw [← ey] at hy
        obtain ⟨g1, o1, rfl, d1⟩ := HA.out k x hx
        obtain ⟨g2, o2, rfl, d2⟩ := HB.out k y hy
        have c0 := (PB.out.cell (World.block_lt_of_cell? w _ d1)).trans d1
        have c1 := (PB.out.cell (World.block_lt_of_cell? w _ d2)).trans d2
        have k1 : (k : Int) < n := by omega
        have k0 : (0 : Int) ≤ k := by omega
        have hw1 : IntKind.i64.wrap ((k : Int) + 1) = k + 1 := by rw [IntKind.wrap_i64]; omega
        have HXY := Lib.hid (HNX.out k x y hx hy)
        have HX := Lib.hid hx
        have HY := Lib.hid hy
        clear hx hy ex ey d1 d2
        by_cases hxy : x = y
        · subst hxy
          have t2 : (x.toList != x.toList) = false := by simp
          clear HXY
          go_wp2_with fail
          go_quiet (fail)
          go_wp2_with fail
          go_roundw
          case rel => exact ⟨k + 1, by omega, by go_num, Lib.hid (fun j hj z hz => by
            rcases Nat.lt_succ_iff_lt_or_eq.1 hj with h | h
            · exact PS.out j h z hz
            · subst h; rw [HX.out] at hz; rw [← hz]; exact HY.out), Lib.hid (below_drewN PB.out _)⟩
          case measure => simp [intOf]; omega
        · have t2 : (x.toList != y.toList) = true := by
            rw [bne_iff_ne]; exact fun e => hxy (list_of_bytes11 e)
          have t3 : (x.toList == y.toList) = false := beq_eq_false_iff_ne.2 (fun e => hxy (list_of_bytes11 e))
          have hv := Lib.hid (show r = false by rw [HR.out]; exact HXY.out hxy)
          clear HXY hxy
          go_wp2_with fail
          go_quiet (fail)
          go_wp2_with fail
          go_ret
          exact ⟨by first | (rw [hv.out]; done) | (rw [hv.out]; rfl), below_drewN PB.out _⟩
      · obtain rfl : k = n := by omega
        have k1 : ¬ (k : Int) < k := by omega
        have hv := Lib.hid (show r = true by
          rw [HR.out]
          exact decide_eq_true (HEQ.out (by rw [← HN.out, ← HM.out]) fun j x hj => PS.out j (by rw [HN.out]; exact (List.getElem?_eq_some_iff.1 hj).1) x hj))
        go_wp2_with fail
        go_ret
        exact ⟨by first | (rw [hv.out]; done) | (rw [hv.out]; rfl), PB.out⟩
  · have t1 : ((n : Int) != (m : Int)) = true := by rw [bne_iff_ne]; omega
    have hv := Lib.hid (show r = false by rw [HR.out]; exact HNE.out (by rw [← HN.out, ← HM.out]; exact hnm))
    clear hnm
    go_enter Try.func9, Try.ntmps9
    go_wp2_with fail
    go_ret
    exact ⟨by first | (rw [hv.out]; done) | (rw [hv.out]; rfl), Below.refl _ _⟩
theorem same_yes (u v : Value) (a : List ByteArray) (w : World) (hu : StrsAt w u a) (hv : StrsAt w v a) (ha : a.length ≤ 100000) : Calls Try.prog 9 #[u, v] w fun e w' => e = .returned (.bool true) ∧ Below w.heap.size w w' := by
  have := same_c u v a a w hu hv ha
  rw [decide_eq_true (rfl : a = a)] at this
  exact this

/-- What groups.Names and so on have to return, over what must lie in memory; and calls.Known, over what it says. -/
structure GroupsC (G : World → Prop) (kn : ByteArray → Bool) : Prop where
  on : ∀ {w w' : World}, G w → Below w.heap.size w w' → G w'
  names : ∀ (w : World), G w → Calls Try.prog 12 #[] w fun e w' => ∃ v, e = .returned v ∧ StrsAt w' v (grpT.map (·.1)) ∧ Below w.heap.size w w'
  known : ∀ (s : ByteArray) (w : World), G w → s.size ≤ maxLen → Calls Try.prog 15 #[.string s] w fun e w' => e = .returned (.bool (!(memR s).isEmpty)) ∧ Below w.heap.size w w'
  members : ∀ (s : ByteArray) (w : World), G w → s.size ≤ maxLen → Calls Try.prog 17 #[.string s] w fun e w' => ∃ v, e = .returned v ∧ w'.ownsRow w.heap.size 9 1 v (memR s).length (sG (memR s)) ∧ Below w.heap.size w w'
  deep : ∀ (s : ByteArray) (w : World), G w → s.size ≤ maxLen → Calls Try.prog 13 #[.string s] w fun e w' => e = .returned (.int .i64 (deepR s : Nat)) ∧ Below w.heap.size w w'
  expand : ∀ (s : ByteArray) (w : World), G w → s.size ≤ maxLen → Calls Try.prog 7 #[.string s] w fun e w' => ∃ v, e = .returned (.tuple #[v, .int .i64 (expE s)]) ∧ StrsAt w' v (expL s) ∧ Below w.heap.size w w'
  isCall : ∀ (s : ByteArray) (w : World), G w → s.size ≤ maxLen → Calls Try.prog 19 #[.string s] w fun e w' => e = .returned (.bool (kn s)) ∧ Below w.heap.size w w'
theorem ex11_0 : expL ⟨#[64, 102, 105, 108, 101]⟩ = [⟨#[99, 108, 111, 115, 101]⟩, ⟨#[105, 111, 99, 116, 108]⟩, ⟨#[111, 112, 101, 110]⟩, ⟨#[111, 112, 101, 110, 97, 116]⟩, ⟨#[114, 101, 97, 100]⟩, ⟨#[119, 114, 105, 116, 101]⟩] ∧ expE ⟨#[64, 102, 105, 108, 101]⟩ = 0 := by constructor <;> kernel_rfl
theorem ex11_1 : expL ⟨#[64, 110, 101, 115, 116]⟩ = [] ∧ expE ⟨#[64, 110, 101, 115, 116]⟩ = 111 := by constructor <;> kernel_rfl
theorem ex11_2 : expL ⟨#[64, 110, 101, 115, 116, 45, 50]⟩ = [⟨#[101, 120, 105, 116]⟩, ⟨#[103, 101, 116, 117, 105, 100]⟩, ⟨#[114, 101, 97, 100]⟩, ⟨#[115, 101, 116, 117, 105, 100]⟩] ∧ expE ⟨#[64, 110, 101, 115, 116, 45, 50]⟩ = 0 := by constructor <;> kernel_rfl
theorem ex11_3 : expL ⟨#[102, 105, 108, 101]⟩ = [] ∧ expE ⟨#[102, 105, 108, 101]⟩ = 110 := by constructor <;> kernel_rfl
theorem de11_0 : ((deepR ⟨#[64, 115, 121, 115, 116, 101, 109]⟩ : Nat) : Int) = 3 := by kernel_rfl
theorem de11_1 : ((deepR ⟨#[64, 99, 108, 111, 99, 107]⟩ : Nat) : Int) = 1 := by kernel_rfl
theorem de11_2 : ((deepR ⟨#[114, 101, 97, 100]⟩ : Nat) : Int) = 0 := by kernel_rfl
theorem lit11_0 (u : Value) (X : World) (h : StrsAt X u [⟨#[99, 108, 111, 115, 101]⟩, ⟨#[105, 111, 99, 116, 108]⟩, ⟨#[111, 112, 101, 110]⟩, ⟨#[111, 112, 101, 110, 97, 116]⟩, ⟨#[114, 101, 97, 100]⟩, ⟨#[119, 114, 105, 116, 101]⟩]) : Calls Try.prog 9 #[u, .slice (some ⟨X.heap.size, 0, none⟩) 6 6] (X.alloc (.cells #[.string ⟨#[99, 108, 111, 115, 101]⟩, .string ⟨#[105, 111, 99, 116, 108]⟩, .string ⟨#[111, 112, 101, 110]⟩, .string ⟨#[111, 112, 101, 110, 97, 116]⟩, .string ⟨#[114, 101, 97, 100]⟩, .string ⟨#[119, 114, 105, 116, 101]⟩] 9)) fun e w' => e = .returned (.bool true) ∧ Below X.heap.size X w' := by
  have hA : Below X.heap.size X (X.alloc (.cells (sG [⟨#[99, 108, 111, 115, 101]⟩, ⟨#[105, 111, 99, 116, 108]⟩, ⟨#[111, 112, 101, 110]⟩, ⟨#[111, 112, 101, 110, 97, 116]⟩, ⟨#[114, 101, 97, 100]⟩, ⟨#[119, 114, 105, 116, 101]⟩]).toArray 9)) := (Below.refl _ X).alloc (Nat.le_refl _) _
  refine (same_yes u (.slice (some ⟨X.heap.size, 0, none⟩) 6 6) [⟨#[99, 108, 111, 115, 101]⟩, ⟨#[105, 111, 99, 116, 108]⟩, ⟨#[111, 112, 101, 110]⟩, ⟨#[111, 112, 101, 110, 97, 116]⟩, ⟨#[114, 101, 97, 100]⟩, ⟨#[119, 114, 105, 116, 101]⟩] (X.alloc (.cells (sG [⟨#[99, 108, 111, 115, 101]⟩, ⟨#[105, 111, 99, 116, 108]⟩, ⟨#[111, 112, 101, 110]⟩, ⟨#[111, 112, 101, 110, 97, 116]⟩, ⟨#[114, 101, 97, 100]⟩, ⟨#[119, 114, 105, 116, 101]⟩]).toArray 9)) (h.on hA) (StrsAt.lit X [⟨#[99, 108, 111, 115, 101]⟩, ⟨#[105, 111, 99, 116, 108]⟩, ⟨#[111, 112, 101, 110]⟩, ⟨#[111, 112, 101, 110, 97, 116]⟩, ⟨#[114, 101, 97, 100]⟩, ⟨#[119, 114, 105, 116, 101]⟩] _) (by decide)).mono ?_
  rintro e w' ⟨rfl, b⟩
  exact ⟨rfl, hA.trans (b.mono hA.size)⟩
theorem lit11_2 (u : Value) (X : World) (h : StrsAt X u [⟨#[101, 120, 105, 116]⟩, ⟨#[103, 101, 116, 117, 105, 100]⟩, ⟨#[114, 101, 97, 100]⟩, ⟨#[115, 101, 116, 117, 105, 100]⟩]) : Calls Try.prog 9 #[u, .slice (some ⟨X.heap.size, 0, none⟩) 4 4] (X.alloc (.cells #[.string ⟨#[101, 120, 105, 116]⟩, .string ⟨#[103, 101, 116, 117, 105, 100]⟩, .string ⟨#[114, 101, 97, 100]⟩, .string ⟨#[115, 101, 116, 117, 105, 100]⟩] 9)) fun e w' => e = .returned (.bool true) ∧ Below X.heap.size X w' := by
  have hA : Below X.heap.size X (X.alloc (.cells (sG [⟨#[101, 120, 105, 116]⟩, ⟨#[103, 101, 116, 117, 105, 100]⟩, ⟨#[114, 101, 97, 100]⟩, ⟨#[115, 101, 116, 117, 105, 100]⟩]).toArray 9)) := (Below.refl _ X).alloc (Nat.le_refl _) _
  refine (same_yes u (.slice (some ⟨X.heap.size, 0, none⟩) 4 4) [⟨#[101, 120, 105, 116]⟩, ⟨#[103, 101, 116, 117, 105, 100]⟩, ⟨#[114, 101, 97, 100]⟩, ⟨#[115, 101, 116, 117, 105, 100]⟩] (X.alloc (.cells (sG [⟨#[101, 120, 105, 116]⟩, ⟨#[103, 101, 116, 117, 105, 100]⟩, ⟨#[114, 101, 97, 100]⟩, ⟨#[115, 101, 116, 117, 105, 100]⟩]).toArray 9)) (h.on hA) (StrsAt.lit X [⟨#[101, 120, 105, 116]⟩, ⟨#[103, 101, 116, 117, 105, 100]⟩, ⟨#[114, 101, 97, 100]⟩, ⟨#[115, 101, 116, 117, 105, 100]⟩] _) (by decide)).mono ?_
  rintro e w' ⟨rfl, b⟩
  exact ⟨rfl, hA.trans (b.mono hA.size)⟩
set_option maxRecDepth 100000 in
set_option maxHeartbeats 3000000 in
theorem awake11_any {G : World → Prop} {kn : ByteArray → Bool} (HC : GroupsC G kn) (w : World) (hG : G w) : Calls Try.prog 10 #[] w fun e w' => e = .returned (.bool true) ∧ Below w.heap.size w w' := by
  have HON := Lib.hid (fun (w w' : World) => HC.on (w := w) (w' := w'))
  have HG := Lib.hid hG
  have E0 := Lib.hid (fun (W : World) (g : G W) => HC.expand ⟨#[64, 102, 105, 108, 101]⟩ W g (by unfold maxLen; decide))
  rw [ex11_0.1, ex11_0.2] at E0
  have E1 := Lib.hid (fun (W : World) (g : G W) => HC.expand ⟨#[64, 110, 101, 115, 116]⟩ W g (by unfold maxLen; decide))
  rw [ex11_1.1, ex11_1.2] at E1
  have E2 := Lib.hid (fun (W : World) (g : G W) => HC.expand ⟨#[64, 110, 101, 115, 116, 45, 50]⟩ W g (by unfold maxLen; decide))
  rw [ex11_2.1, ex11_2.2] at E2
  have E3 := Lib.hid (fun (W : World) (g : G W) => HC.expand ⟨#[102, 105, 108, 101]⟩ W g (by unfold maxLen; decide))
  rw [ex11_3.1, ex11_3.2] at E3
  have D0 := Lib.hid (fun (W : World) (g : G W) => HC.deep ⟨#[64, 115, 121, 115, 116, 101, 109]⟩ W g (by unfold maxLen; decide))
  rw [de11_0] at D0
  have D1 := Lib.hid (fun (W : World) (g : G W) => HC.deep ⟨#[64, 99, 108, 111, 99, 107]⟩ W g (by unfold maxLen; decide))
  rw [de11_1] at D1
  have D2 := Lib.hid (fun (W : World) (g : G W) => HC.deep ⟨#[114, 101, 97, 100]⟩ W g (by unfold maxLen; decide))
  rw [de11_2] at D2
  have S0 := Lib.hid (fun (u : Value) (X : World) (h : StrsAt X u [⟨#[99, 108, 111, 115, 101]⟩, ⟨#[105, 111, 99, 116, 108]⟩, ⟨#[111, 112, 101, 110]⟩, ⟨#[111, 112, 101, 110, 97, 116]⟩, ⟨#[114, 101, 97, 100]⟩, ⟨#[119, 114, 105, 116, 101]⟩]) => lit11_0 u X h)
  have S1 := Lib.hid (fun (u : Value) (X : World) (h : StrsAt X u [⟨#[101, 120, 105, 116]⟩, ⟨#[103, 101, 116, 117, 105, 100]⟩, ⟨#[114, 101, 97, 100]⟩, ⟨#[115, 101, 116, 117, 105, 100]⟩]) => lit11_2 u X h)
  clear HC hG
  go_enter Try.func10, Try.ntmps10
  go_wp2_with (first
    | (go_at_call 7; ((with_reducible refine (E0.out _ HG.out).mono ?_); rintro e v1 ⟨l1, rfl, s1, b1⟩); have G1 := HON.out _ _ HG.out b1; have T1 := Lib.hid s1; clear s1)
    | (go_at_call 7; ((with_reducible refine (E1.out _ G1).mono ?_); rintro e v2 ⟨l2, rfl, s2, b2⟩); have G2 := HON.out _ _ G1 b2; have B2 := b1.trans (b2.mono b1.size); have T2 := Lib.hid (T1.out.on b2); clear s2)
    | (go_at_call 7; ((with_reducible refine (E2.out _ G2).mono ?_); rintro e v3 ⟨l3, rfl, s3, b3⟩); have G3 := HON.out _ _ G2 b3; have B3 := B2.trans (b3.mono B2.size); have T3 := Lib.hid (T2.out.on b3); have U3 := Lib.hid s3; clear s3)
    | (go_at_call 7; ((with_reducible refine (E3.out _ G3).mono ?_); rintro e v4 ⟨l4, rfl, s4, b4⟩); have G4 := HON.out _ _ G3 b4; have B4 := B3.trans (b4.mono B3.size); have T4 := Lib.hid (T3.out.on b4); have U4 := Lib.hid (U3.out.on b4); clear s4)
    | (go_at_call 9; ((with_reducible refine (S0.out _ v4 T4.out).mono ?_); rintro e v5 ⟨rfl, X5⟩); have G5 := HON.out _ _ G4 X5; have B5 := B4.trans (X5.mono B4.size); have U5 := Lib.hid (U4.out.on X5))
    | (go_at_call 9; ((with_reducible refine (S1.out _ v5 U5.out).mono ?_); rintro e v6 ⟨rfl, X6⟩); have G6 := HON.out _ _ G5 X6; have B6 := B5.trans (X6.mono B5.size))
    | (go_at_call 13; ((with_reducible refine (D0.out _ G6).mono ?_); rintro e v7 ⟨rfl, b7⟩); have G7 := HON.out _ _ G6 b7; have B7 := B6.trans (b7.mono B6.size))
    | (go_at_call 13; ((with_reducible refine (D1.out _ G7).mono ?_); rintro e v8 ⟨rfl, b8⟩); have G8 := HON.out _ _ G7 b8; have B8 := B7.trans (b8.mono B7.size))
    | (go_at_call 13; ((with_reducible refine (D2.out _ G8).mono ?_); rintro e v9 ⟨rfl, b9⟩); have G9 := HON.out _ _ G8 b9; have B9 := B8.trans (b9.mono B8.size)))
  go_ret
  exact ⟨by first | rfl | simp, B9⟩
end Go.Proofs.Ytciocmhmdhmdoaa
