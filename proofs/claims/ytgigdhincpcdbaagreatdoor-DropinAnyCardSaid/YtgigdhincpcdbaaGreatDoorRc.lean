/- The landed May; the library's HasSuffix, Compare, Clone, IndexFunc as they are called; the first name that may not be; a file with bytes of its own. Condition: strings and files that lie in memory. -/
import Derived.Test.YtgigdhincpcdbaaGreatDoorPq
import Derived.Lib.SliceRun
import Derived.Lib.Bytealg
import Derived.Laws.Externs
namespace Go.Proofs.YtgigdhincpcdbaaGreatDoor
open Go.RowKit
set_option linter.unusedVariables false
set_option linter.unusedSimpArgs false
attribute [local go_sem ↓] Go.wp_at_zero Go.wp_at_succ

set_option maxHeartbeats 4000000 in
theorem hasL_c (s : ByteArray) (h5 : 5 ≤ s.size) (hs : s.size ≤ maxLen) (w : World) : Calls Tryz.prog 42 #[.string s, .string ⟨#[46, 99, 111, 110, 102]⟩] w fun e w' => e = .returned (.bool (s.data.toList.drop (s.data.toList.length - 5) == [46, 99, 111, 110, 102])) ∧ w = w' := by
  unfold maxLen at hs
  have hsl : s.data.toList.length = s.size := by simp
  have n1 : (5 : Int) ≤ s.size := by omega
  have n2 : (s.size : Int) ≥ 5 := n1
  have hw1 : IntKind.i64.wrap ((s.size : Int) - 5) = s.size - 5 := by rw [IntKind.wrap_i64]; omega
  have n4 : (0 : Int) ≤ (s.size : Int) - 5 := by omega
  have n5 : (s.size : Int) - 5 ≤ s.size := by omega
  have n6 : ((s.size : Int) - 5).toNat = s.size - 5 := by omega
  have hsub : (s.extract (s.size - 5) s.size).toList = s.data.toList.drop (s.data.toList.length - 5) := by
    rw [ByteArray.toList_eq, hsl]
    have h := ext_bs s (s.size - 5) s.size
    rw [h, bs_list, List.take_of_length_le (by simp)]
  obtain ⟨b, hb⟩ : ∃ b, b = (s.data.toList.drop (s.data.toList.length - 5) == [46, 99, 111, 110, 102]) := ⟨_, rfl⟩
  have t1 : ((s.extract (s.size - 5) s.size).toList == [46, 99, 111, 110, 102]) = b := by rw [hsub, hb]
  rw [← hb]
  clear hsl hs hsub hb
  go_enter Tryz.func42, Tryz.ntmps42
  go_wp2
  go_ret
  exact ⟨rfl, rfl⟩
theorem hasS_c (s : ByteArray) (h5 : 5 ≤ s.size) (hs : s.size ≤ maxLen) (w : World) : Calls Tryz.prog 28 #[.string s, .string ⟨#[46, 99, 111, 110, 102]⟩] w fun e w' => e = .returned (.bool (s.data.toList.drop (s.data.toList.length - 5) == [46, 99, 111, 110, 102])) ∧ w = w' := by
  have HH := Lib.hid (fun W => hasL_c s h5 hs W)
  generalize (s.data.toList.drop (s.data.toList.length - 5) == [46, 99, 111, 110, 102]) = b at HH ⊢
  go_enter Tryz.func28, Tryz.ntmps28
  go_wp2_with (go_at_call 42; ((with_reducible refine (HH.out _).mono ?_); rintro e w1 ⟨rfl, rfl⟩))
  go_ret
  exact ⟨rfl, rfl⟩
set_option maxRecDepth 100000 in
set_option maxHeartbeats 8000000 in
theorem may14 (s : ByteArray) (hs : s.size ≤ maxLen) (w : World) : Calls Tryz.prog 13 #[.string s] w fun e w' => e = .returned (.bool (mayL s.data.toList)) ∧ w = w' := by
  have HSF := Lib.hid (fun (h5 : 5 ≤ s.size) W => hasS_c s h5 hs W)
  unfold maxLen at hs
  have hsl : s.data.toList.length = s.size := by simp
  by_cases h6 : s.size < 6
  · have HE := Lib.hid (may_short (l := s.data.toList) (by omega))
    have n1 : (s.size : Int) < 6 := by omega
    clear hsl h6 hs
    go_enter Tryz.func13, Tryz.ntmps13
    go_wp2
    go_ret
    exact ⟨by rw [HE.out] <;> rfl, rfl⟩
  have n1 : ¬ (s.size : Int) < 6 := by omega
  by_cases h60 : 60 < s.size
  · have HE := Lib.hid (may_long (l := s.data.toList) (by omega))
    have n2 : (s.size : Int) > 60 := by omega
    have n3 : (60 : Int) < s.size := by omega
    clear hsl h6 h60 hs
    go_enter Tryz.func13, Tryz.ntmps13
    go_wp2
    go_ret
    exact ⟨by rw [HE.out] <;> rfl, rfl⟩
  have n2 : ¬ (60 : Int) < s.size := by omega
  have n3 : ¬ (s.size : Int) > 60 := by omega
  have HS2 := Lib.hid (HSF.out (by omega))
  cases he : (s.data.toList.drop (s.data.toList.length - 5) == [46, 99, 111, 110, 102]) with
  | false =>
    have HE := Lib.hid (may_end he)
    rw [he] at HS2
    clear hsl h6 h60 hs he HSF
    go_enter Tryz.func13, Tryz.ntmps13
    go_wp2_with (go_at_call 28; ((with_reducible refine (HS2.out _).mono ?_); rintro e w1 ⟨rfl, rfl⟩))
    go_ret
    exact ⟨by rw [HE.out] <;> rfl, rfl⟩
  | true =>
    have HYES := Lib.hid (fun h => may_yes (l := s.data.toList) (by omega) (by omega) he h)
    have HNO := Lib.hid (fun j (hj : j < s.data.toList.length) h => may_bad (l := s.data.toList) hj h)
    rw [he] at HS2
    have HSL := Lib.hid hsl
    clear hsl h6 h60 he HSF
    go_enter Tryz.func13, Tryz.ntmps13
    go_wp2_with (go_at_call 28; ((with_reducible refine (HS2.out _).mono ?_); rintro e w1 ⟨rfl, rfl⟩))
    clear n1 n2 n3 HS2
    go_loop [20] (fun v3 => ∃ k : Nat, k ≤ s.size ∧ v3 = .int .i64 k ∧ Hid (∀ j (hj : j < s.data.toList.length), j < k → okN s.data.toList[j] = true)) (fun v3 => s.size - (intOf v3).toNat)
    case atStart => exact ⟨0, Nat.zero_le _, rfl, Lib.hid (fun j hj h => absurd h (Nat.not_lt_zero _))⟩
    case round =>
      obtain ⟨k, hk, rfl, HM⟩ := hrel
      by_cases hlt : k < s.size
      · have hk2 : k < s.data.toList.length := by rw [HSL.out]; exact hlt
        obtain ⟨c, hc⟩ : ∃ c, c = s.data.toList[k] := ⟨_, rfl⟩
        have HC := Lib.hid (show ∀ hj, s.data.toList[k]'hj = c from fun _ => hc.symm)
        obtain ⟨x, hx⟩ : ∃ x, x = (c.toNat : Int) := ⟨_, rfl⟩
        have hidx : ((s[k]'hlt).toNat : Int) = x := by rw [hx, hc]; rfl
        have k1 : (k : Int) < s.size := by omega
        have k0 : (0 : Int) ≤ k := by omega
        have hw2 : IntKind.i64.wrap ((k : Int) + 1) = k + 1 := by rw [IntKind.wrap_i64]; omega
        have hb := HNO.out k hk2
        rw [← hc] at hb
        by_cases h1 : x < 33
        · have HE := Lib.hid (hb (by unfold okN; rw [decide_eq_false (by omega)]; rfl))
          clear hb hc hx hk2
          go_wp2
          go_ret
          exact ⟨by rw [HE.out] <;> rfl, rfl⟩
        · by_cases h2 : 126 < x
          · have HE := Lib.hid (hb (by unfold okN; rw [decide_eq_false (p := c.toNat < 127) (by omega), Bool.and_false]; rfl))
            have h3 : x > 126 := h2
            clear hb hc hx hk2
            go_wp2
            go_ret
            exact ⟨by rw [HE.out] <;> rfl, rfl⟩
          · have h4 : ¬ x > 126 := h2
            by_cases h3 : x = 47
            · have HE := Lib.hid (hb (by unfold okN; rw [decide_eq_false (p := c.toNat ≠ 47) (by omega), Bool.and_false]))
              have t3 : (x == 47) = true := by rw [h3]; rfl
              clear hb hc hx hk2
              go_wp2
              go_ret
              exact ⟨by rw [HE.out] <;> rfl, rfl⟩
            · have HK := Lib.hid (show okN c = true by unfold okN; rw [decide_eq_true (by omega), decide_eq_true (p := c.toNat < 127) (by omega), decide_eq_true (p := c.toNat ≠ 47) (by omega)]; rfl)
              have t3 : (x == 47) = false := beq_eq_false_iff_ne.2 h3
              clear hb hc hx hk2
              go_wp2
              go_round
              case rel => exact ⟨k + 1, by omega, by go_num, Lib.hid (fun j hj h => by
                by_cases e : j = k
                · subst e; rw [HC.out]; exact HK.out
                · exact HM.out j hj (by omega))⟩
              case measure => simp [intOf]; omega
      · obtain rfl : k = s.size := by omega
        have k1 : ¬ (s.size : Int) < s.size := by omega
        have HE := Lib.hid (HYES.out (fun j hj => HM.out j hj (by rw [← HSL.out]; exact hj)))
        go_wp2
        go_ret
        exact ⟨by rw [HE.out] <;> rfl, rfl⟩
/-! ### the first name that may not be -/
theorem wrong1_c (x : ByteArray) (d : Int) (p : Option Addr) (n c : Nat) (hx : x.size ≤ maxLen) (b : Bool) (hb : mayL x.data.toList = b) (w : World) : Calls Tryz.prog 37 #[.agg #[.string x, .int .i64 d, .slice p n c]] w fun e w' => e = .returned (.bool (!b)) ∧ Below w.heap.size w w' := by
  have HM := Lib.hid (fun W => may14 x hx W)
  rw [hb] at HM
  clear hx hb
  go_enter Tryz.func37, Tryz.ntmps37
  go_wp2_with (go_at_call 13; ((with_reducible refine (HM.out _).mono ?_); rintro e w1 ⟨rfl, rfl⟩))
  go_ret
  exact ⟨rfl, (Below.refl _ _).alloc (Nat.le_refl _) _⟩
def idxR (K n : Nat) : Int := if K < n then (K : Int) else -1
theorem idxR_yes {K n : Nat} (h : K < n) : idxR K n = (K : Int) := if_pos h
theorem idxR_no {K n : Nat} (h : ¬ K < n) : idxR K n = -1 := if_neg h
set_option maxRecDepth 100000 in
set_option maxHeartbeats 8000000 in
theorem index14 (D : List Fle) (a : Option Addr) (n cap K : Nat) (w : World) (h : FsAt w a n cap D) (hn : n ≤ 1000) (hK : K ≤ n) (h1 : ∀ j, j < K → mayL (D.getD j f0).name.data.toList = true) (h2 : K < n → mayL (D.getD K f0).name.data.toList = false) : Calls Tryz.prog 36 #[.slice a n cap, .func (.func 37) #[] #[]] w fun e w' =>
    e = .returned (.int .i64 (idxR K n)) ∧ Below w.heap.size w w' := by
  obtain ⟨g, o, hbase, hcells⟩ := h.base
  have HA := Lib.hid hbase
  have HCL := Lib.hid (fun (W : World) (b : Below w.heap.size w W) k (hk : k < n) => (show W.cell? ⟨g, o + k * 3, none⟩ = some (.string (D.getD k f0).name) ∧ W.cell? ⟨g, o + k * 3 + 1, none⟩ = some (.int .i64 (D.getD k f0).dir) ∧ W.cell? ⟨g, o + k * 3 + 2, none⟩ = some (.slice (D.getD k f0).ptr (D.getD k f0).len (D.getD k f0).cap) from
    ⟨(b.cell (World.block_lt_of_cell? w _ (hcells k hk).1)).trans (hcells k hk).1, (b.cell (World.block_lt_of_cell? w _ (hcells k hk).2.1)).trans (hcells k hk).2.1, (b.cell (World.block_lt_of_cell? w _ (hcells k hk).2.2)).trans (hcells k hk).2.2⟩))
  have HW := Lib.hid (fun k (hk : k < n) (b : Bool) (hb : mayL (D.getD k f0).name.data.toList = b) W => wrong1_c (D.getD k f0).name (D.getD k f0).dir (D.getD k f0).ptr (D.getD k f0).len (D.getD k f0).cap (by obtain ⟨_, _, _, _, _, _, hf⟩ := h.at hk; exact hf.nm) b hb W)
  have H1 := Lib.hid h1
  have H2 := Lib.hid h2
  have HK := Lib.hid hK
  have HN := Lib.hid hn
  clear h hbase hcells h1 h2 hK hn
  go_enter Tryz.func36, Tryz.ntmps36
  go_wp2_with fail
  go_loopw [8] (fun v8 wr => ∃ k : Nat, k ≤ K ∧ v8 = .int .i64 k ∧ Hid (Below w.heap.size w wr)) (fun v8 _ => K - (intOf v8).toNat)
  case atStart => exact ⟨0, Nat.zero_le _, rfl, Lib.hid (Below.refl _ _)⟩
  case round =>
    obtain ⟨k, hk, rfl, PB⟩ := hrel
    obtain ⟨V, rfl⟩ : ∃ wo : World, wo = wr := ⟨_, rfl⟩
    by_cases hlt : k < n
    · obtain rfl := HA.out (by omega)
      obtain ⟨c0, c1, c2⟩ := HCL.out V PB.out k hlt
      have k1 : (k : Int) < n := by omega
      have k0 : (0 : Int) ≤ k := by omega
      have hw1 : IntKind.i64.wrap ((k : Int) + 1) = k + 1 := by have := HN.out; rw [IntKind.wrap_i64]; omega
      have HY := Lib.hid (HW.out k hlt)
      by_cases hkK : k < K
      · have HZ := Lib.hid (HY.out true (H1.out k hkK))
        obtain ⟨d, hd⟩ : ∃ d, d = D.getD k f0 := ⟨_, rfl⟩
        rw [← hd] at c0 c1 c2 HZ
        obtain ⟨dn, dd, dp, dl, dc, db⟩ := d
        simp only at c0 c1 c2 HZ
        clear hd HY
        go_wp2_with (go_at_call 37; ((with_reducible refine (HZ.out _).mono ?_); rintro e w1 ⟨rfl, b1⟩); have B1 := Lib.hid (thn13 PB.out b1); clear b1)
        go_roundw
        case rel => exact ⟨k + 1, by omega, by go_num, B1⟩
        case measure => simp [intOf]; omega
      · obtain rfl : k = K := by omega
        have HZ := Lib.hid (HY.out false (H2.out hlt))
        have HE := Lib.hid (idxR_yes hlt)
        obtain ⟨d, hd⟩ : ∃ d, d = D.getD k f0 := ⟨_, rfl⟩
        rw [← hd] at c0 c1 c2 HZ
        obtain ⟨dn, dd, dp, dl, dc, db⟩ := d
        simp only at c0 c1 c2 HZ
        clear hd HY
        go_wp2_with (go_at_call 37; ((with_reducible refine (HZ.out _).mono ?_); rintro e w1 ⟨rfl, b1⟩); have B1 := Lib.hid (thn13 PB.out b1); clear b1)
        go_ret
        exact ⟨by rw [HE.out] <;> rfl, B1.out⟩
    · have hKn := HK.out
      have k1 : ¬ (k : Int) < n := by omega
      have HE := Lib.hid (idxR_no (K := K) (n := n) (by omega))
      clear hKn
      go_wp2_with fail
      go_ret
      exact ⟨by rw [HE.out] <;> rfl, PB.out⟩
theorem wrong14 (D : List Fle) (a : Option Addr) (n cap K : Nat) (w : World) (h : FsAt w a n cap D) (hn : n ≤ 1000) (hK : K ≤ n) (h1 : ∀ j, j < K → mayL (D.getD j f0).name.data.toList = true) (h2 : K < n → mayL (D.getD K f0).name.data.toList = false) : Calls Tryz.prog 22 #[.slice a n cap] w fun e w' =>
    e = .returned (.int .i64 (idxR K n)) ∧ Below w.heap.size w w' := by
  have HI := Lib.hid (index14 D a n cap K w h hn hK h1 h2)
  generalize idxR K n = r at HI ⊢
  clear h hn hK h1 h2
  go_enter Tryz.func22, Tryz.ntmps22
  go_wp2_with (go_at_call 36; ((with_reducible refine (HI.out).mono ?_); rintro e w1 ⟨rfl, b1⟩); have B1 := Lib.hid b1; clear b1)
  go_ret
  exact ⟨rfl, B1.out⟩
/-! ### two names compared -/
set_option maxRecDepth 100000 in
theorem cmpS_c (a b : ByteArray) (w : World) : Calls Tryz.prog 41 #[.string a, .string b] w fun e w' => e = .returned (.int .i64 (Lib.compareBytes a.data.toList b.data.toList)) ∧ w = w' := by
  go_enter Tryz.func41, Tryz.ntmps41
  go_wp2
  rw [run_callFunc_extern Tryz.func60 (by kernel_rfl) (by kernel_rfl) (by kernel_rfl) (e := Extern.BytealgCompare.compare) (by kernel_rfl), Lib.run_compareString]
  simp only [Result.andThen]
  rw [Oper.upon_value]
  go_wp2
  go_ret
  exact ⟨rfl, rfl⟩
theorem compare_c (a b : ByteArray) (w : World) : Calls Tryz.prog 27 #[.string a, .string b] w fun e w' => e = .returned (.int .i64 (Lib.compareBytes a.data.toList b.data.toList)) ∧ w = w' := by
  have HC := Lib.hid (fun W => cmpS_c a b W)
  generalize Lib.compareBytes a.data.toList b.data.toList = r at HC ⊢
  go_enter Tryz.func27, Tryz.ntmps27
  go_wp2_with (go_at_call 41; ((with_reducible refine (HC.out _).mono ?_); rintro e w1 ⟨rfl, rfl⟩))
  go_ret
  exact ⟨rfl, rfl⟩
/-! ### a file with bytes of its own -/
set_option maxRecDepth 100000 in
theorem clone_c (p : Option Addr) (l c : Nat) (B : Nat) (b : List UInt8) (w : World) (hl : b.length = l) (hm : l ≤ 1099511627776) (hnil : p = none → l = 0) (hr : RdB w w.heap.size p b) : Calls Tryz.prog 38 #[.slice p l c] w fun e w' => ∃ q k, e = .returned (.slice q l k) ∧ w'.ownsRow w.heap.size 5 1 (.slice q l k) l (bL b) ∧ Below w.heap.size w w' := by
  have q22 : ∀ (w : World) (a : Option Addr) (n c n' c' : Nat), (binOp .eql 22 (.slice a n c) (.slice none n' c')).run Tryz.prog w = .ok (.bool a.isNone) w := fun w a n c n' c' => Lib.run_eql_slice_nil w _ _ a n c n' c' Tryz.underlying22
  cases p with
  | none =>
    obtain rfl := hnil rfl
    have e := List.eq_nil_of_length_eq_zero hl
    subst e
    clear hl hm hnil hr
    go_enter Tryz.func38, Tryz.ntmps38
    go_wp2
    go_ret
    first | exact ⟨none, 0, rfl, World.ownsRow_nil _ _ _ _, Below.refl _ _⟩ | exact ⟨none, rfl, World.ownsRow_nil _ _ _ _, Below.refl _ _⟩ | exact ⟨World.ownsRow_nil _ _ _ _, Below.refl _ _⟩
  | some a =>
    obtain ⟨j0, hj0, hy0, hy1, hy2⟩ := info_parts u8_info12
    have JI := Lib.hid hj0
    have JZ0 := Lib.hid hy0
    have JZ1 := Lib.hid hy1
    have JZ2 := Lib.hid hy2
    have HLE := Lib.hid (And.intro hl hm)
    have HRD := Lib.hid hr
    have OL := Lib.hid (World.ownsRow_lit (base := w.heap.size) (e := 5) (size := 1) w #[] 0 (Nat.le_refl _) (Nat.zero_le _) rfl)
    clear hl hm hnil hr hj0 hy0 hy1 hy2
    go_enter Tryz.func38, Tryz.ntmps38
    go_wp2_with (at_builtin
                 refine wpList_app_r rfl (.tmp 5) (.tmp 6) 22 rfl w.heap.size 5 j0 _ 1 1 Tryz.underlying22 JI.out JZ0.out JZ1.out JZ2.out rfl (by omega) (.slice (some ⟨w.heap.size, 0, none⟩) 0 0) 0 [] rfl OL.out (some a) l c (bL b) rfl (by rw [bL_length, HLE.out.1, Nat.mul_one]) (rdb_news HLE.out.1 (HRD.out.on ((Below.refl _ _).alloc (Nat.le_refl _) _))) (bL_one _) (by have := HLE.out.2; unfold maxLen; omega) (by have := HLE.out.2; omega) (by rw [World.size_alloc]; exact Nat.le_succ _) ?_
                 intro v1 w1 o1 h1
                 rw [Nat.zero_add, List.nil_append] at o1
                 have B1 := Lib.hid (((Below.refl w.heap.size w).alloc (Nat.le_refl _) (.cells #[] 5)).grown h1 (by rw [World.size_alloc]; exact Nat.le_succ _) (fun x e => by have e2 : w.heap.size = x := Option.some.inj e; omega))
                 obtain ⟨q, k, rfl⟩ := own_form12 o1
                 have O1 := Lib.hid o1
                 clear o1 h1)
    go_ret
    first | exact ⟨q, k, rfl, O1.out, B1.out⟩ | exact ⟨q, rfl, k, rfl, O1.out, B1.out⟩
theorem heap_setCells14 (g : Nat) : ∀ (vs : List Value) (o : Nat) (V : World) (k : Nat), k ≠ g → (V.setCells g o vs).heap[k]? = V.heap[k]?
  | [], _, _, _, _ => rfl
  | v :: vs, o, V, k, h => (heap_setCells14 g vs (o + 1) (V.setCell ⟨g, o, none⟩ v) k h).trans (RowKit.Below.heap_setCell _ _ _ _ h)
theorem own_blocks14 {V V' : World} {B n s : Nat} {e : TypeId} {v : Value} {xs : List Value} (h : V.ownsRow B e s v n xs) (hk : ∀ k, B ≤ k → k < V.heap.size → V'.heap[k]? = V.heap[k]?) : V'.ownsRow B e s v n xs :=
  ⟨h.1, h.2.imp id fun ⟨g, cap, cur, hv, hg, hh, r⟩ => ⟨g, cap, cur, hv, hg, (hk g hg (Array.getElem?_eq_some_iff.1 hh).1).trans hh, r⟩⟩
set_option maxRecDepth 100000 in
set_option maxHeartbeats 8000000 in
theorem own_c (f : Fle) (w : World) (hf : FleAt w.heap.size w f) (hm : f.len ≤ 1099511627776) : Calls Tryz.prog 23 #[.agg #[.string f.name, .int .i64 f.dir, .slice f.ptr f.len f.cap]] w fun e w' => ∃ q k, e = .returned (.agg #[.string f.name, .int .i64 f.dir, .slice q f.len k]) ∧ OwnB w.heap.size w' ⟨f.name, f.dir, q, f.len, k, f.bytes⟩ ∧ Below w.heap.size w w' := by
  obtain ⟨n, d, p, l, c, b⟩ := f
  have hinf : (Tryz.prog.info? 24).map (·.size) = some 3 := by kernel_rfl
  have HIN := Lib.hid hinf
  have HNM := Lib.hid hf.nm
  have HCN := Lib.hid (fun (W : World) (hb : Below w.heap.size w W) => clone_c p l c 0 b W hf.len hm (fun e => by have h1 := hf.nil e; have h2 := hf.fit; simp only at h1 h2; omega) (hf.rd.on hb))
  obtain ⟨W0, hW0⟩ : ∃ W0, W0 = (w.alloc (.cells #[.string n, .int .i64 d, .slice p l c] 24)).alloc (.cells #[.string ⟨#[]⟩, .int .i64 0, .slice none 0 0] 24) := ⟨_, rfl⟩
  have HBX := Lib.hid (show W0.heap[w.heap.size]? = some (.cells #[.string n, .int .i64 d, .slice p l c] 24 (0, 0)) from (by rw [hW0]; exact (Below.heap_alloc (w.alloc (.cells #[.string n, .int .i64 d, .slice p l c] 24)) (.cells #[.string ⟨#[]⟩, .int .i64 0, .slice none 0 0] 24) w.heap.size (by rw [World.size_alloc]; exact Nat.lt_succ_self _)).trans (heap_alloc_new w _)))
  have HRC := Lib.hid (show W0.heap[w.heap.size + 1]? = some (.cells #[.string ⟨#[]⟩, .int .i64 0, .slice none 0 0] 24 (0, 0)) from (by rw [hW0]; have := heap_alloc_new (w.alloc (.cells #[.string n, .int .i64 d, .slice p l c] 24)) (.cells #[.string ⟨#[]⟩, .int .i64 0, .slice none 0 0] 24); rwa [World.size_alloc] at this))
  have HB0 := Lib.hid (show Below w.heap.size w W0 from (by rw [hW0]; exact ((Below.refl w.heap.size w).alloc (Nat.le_refl _) _).alloc (by rw [World.size_alloc]; exact Nat.le_succ _) _))
  have HS0 := Lib.hid (show W0.heap.size = w.heap.size + 2 from (by rw [hW0, World.size_alloc, World.size_alloc]))
  have HW0 := Lib.hid hW0
  clear hinf hW0 hf hm
  go_enter Tryz.func23, Tryz.ntmps23
  go_wp2_with (first
    | (go_at_call 38
       rw [← HW0.out]
       with_reducible refine (HCN.out _ HB0.out).mono ?_
       rintro e W1 ⟨q, k, rfl, ow, b1⟩
       have hx := (b1.block w.heap.size (by rw [HS0.out]; omega)).trans HBX.out
       have x0 := (cell_of_row W1 w.heap.size 0 _ _ (0, 0) hx).trans (show _ = some (Value.string n) from rfl)
       have x1 := (cell_of_row W1 w.heap.size 1 _ _ (0, 0) hx).trans (show _ = some (Value.int .i64 d) from rfl)
       have x2 := (cell_of_row W1 w.heap.size 2 _ _ (0, 0) hx).trans (show _ = some (Value.slice p l c) from rfl)
       have x3 := frozen_of_row W1 w.heap.size 2 _ _ hx
       have HX1 := Lib.hid ((b1.block (w.heap.size + 1) (by rw [HS0.out]; omega)).trans HRC.out)
       have O1 := Lib.hid ow
       have B1 := Lib.hid (HB0.out.trans (b1.mono HB0.out.size))
       have HSZ := Lib.hid b1.size
       clear ow b1 hx)
    | ((with_reducible show wpList _ _ _ (⟨none, .store 24 (.tmp 2) (.tmp 7), _, _, _, _⟩ :: _) _ _)
       have HR2 := Lib.hid (show (W1.setCell ⟨w.heap.size, 2, none⟩ (.slice q l k)).heap[w.heap.size + 1]? = some (.cells #[.string ⟨#[]⟩, .int .i64 0, .slice none 0 0] 24 (0, 0)) from (RowKit.Below.heap_setCell _ _ _ _ (by show w.heap.size + 1 ≠ w.heap.size; omega)).trans HX1.out)
       obtain ⟨hld, hb3⟩ := ret14 HR2.out (B1.out.setCell (p := ⟨w.heap.size, 2, none⟩) (Nat.le_refl _) _) (Nat.le_succ _) n d q l k
       refine wpList_store_mid rfl 24 (.tmp 2) (.tmp 7) rfl (w.heap.size + 1) 0 #[.string n, .int .i64 d, .slice q l k] rfl rfl (row_there14 HR2.out) HIN.out (by kernel_rfl) ?_
       have O3 := Lib.hid (own_blocks14 (V' := (W1.setCell ⟨w.heap.size, 2, none⟩ (.slice q l k)).setCells (w.heap.size + 1) 0 [.string n, .int .i64 d, .slice q l k]) O1.out (fun j hj _ => by
         have h0 := HS0.out
         rw [heap_setCells14 _ _ _ _ _ (by omega)]
         exact RowKit.Below.heap_setCell _ _ _ _ (by show j ≠ w.heap.size; omega)))
       show wpList _ _ _ _ _ ((W1.setCell ⟨w.heap.size, 2, none⟩ (.slice q l k)).setCells (w.heap.size + 1) 0 [.string n, .int .i64 d, .slice q l k])
       generalize (W1.setCell ⟨w.heap.size, 2, none⟩ (.slice q l k)).setCells (w.heap.size + 1) 0 [.string n, .int .i64 d, .slice q l k] = w3 at hld hb3 O3 ⊢))
  refine bodyPost_ret (v := .agg #[.string n, .int .i64 d, .slice q l k]) (results_row14 Tryz.results23 rfl hld) rfl ⟨_, _, rfl, ?_, hb3⟩
  exact ⟨HNM.out, own_base14 O3.out (by rw [HS0.out]; omega)⟩
end Go.Proofs.YtgigdhincpcdbaaGreatDoor
