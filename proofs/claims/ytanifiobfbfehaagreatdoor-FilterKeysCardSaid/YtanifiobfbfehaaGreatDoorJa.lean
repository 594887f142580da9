/- Names of errnos, families, namespaces as the chapter says them: tables, what is found in one; the document's own tables, Find, Name. No condition. What the document's own Errno, Digits, ErrnoName, All, Flags of the names return. Condition: a text of at most 2^62 bytes. What the document's own Digits, ErrnoName, All, Flags of the names return. Condition: none. What the document's own All, Flags of the namespaces return. No condition. What the calls of the package names have to return, as the chapter says it; the chapter's rows. -/
import Derived.Test.YtanifiobfbfehaaGreatDoorWd
import Derived.Deep.AppendLies
import Derived.Deep.DrawnRows
import Derived.RegionTactic
import Derived.BigRegion
import Derived.Laws.IdiomStrings
import Derived.Laws.Concat
namespace Go.Proofs.YtanifiobfbfehaaGreatDoor
open Go.RowKit
set_option linter.unusedVariables false
attribute [local go_sem ↓] Go.wp_at_zero Go.wp_at_succ

abbrev En10 := ByteArray × Nat
def errnoT : List En10 := [(⟨#[69, 80, 69, 82, 77]⟩, 1), (⟨#[69, 78, 79, 69, 78, 84]⟩, 2), (⟨#[69, 73, 79]⟩, 5), (⟨#[69, 66, 65, 68, 70]⟩, 9), (⟨#[69, 65, 71, 65, 73, 78]⟩, 11), (⟨#[69, 78, 79, 77, 69, 77]⟩, 12), (⟨#[69, 65, 67, 67, 69, 83]⟩, 13), (⟨#[69, 70, 65, 85, 76, 84]⟩, 14), (⟨#[69, 66, 85, 83, 89]⟩, 16), (⟨#[69, 78, 79, 68, 69, 86]⟩, 19), (⟨#[69, 73, 78, 86, 65, 76]⟩, 22), (⟨#[69, 78, 79, 83, 89, 83]⟩, 38), (⟨#[69, 79, 80, 78, 79, 84, 83, 85, 80, 80]⟩, 95), (⟨#[69, 65, 70, 78, 79, 83, 85, 80, 80, 79, 82, 84]⟩, 97), (⟨#[69, 84, 73, 77, 69, 68, 79, 85, 84]⟩, 110)]
/-- The number of a name. -/
def findR : List En10 → ByteArray → Option Nat
  | [], _ => none
  | e :: r, s => if e.1 = s then some e.2 else findR r s
theorem find_at {l : List En10} {k : Nat} {e : En10} (h : l[k]? = some e) (s : ByteArray) : findR (l.drop k) s = if e.1 = s then some e.2 else findR (l.drop (k + 1)) s := by
  obtain ⟨hk, rfl⟩ := List.getElem?_eq_some_iff.1 h
  rw [List.drop_eq_getElem_cons hk]; rfl
/-- A table's cells; they lie in memory. -/
def esN (l : List En10) : List Value := l.flatMap fun e => [.string e.1, .int .u64 (e.2 : Nat)]
theorem esN_get : ∀ {l : List En10} {k : Nat} {e : En10}, l[k]? = some e → (esN l)[k * 2]? = some (.string e.1) ∧ (esN l)[k * 2 + 1]? = some (.int .u64 (e.2 : Nat))
  | [], k, e, h => by simp at h
  | x :: r, 0, e, h => by injection h with h; subst h; exact ⟨rfl, rfl⟩
  | x :: r, k + 1, e, h => by
    have := esN_get (l := r) (k := k) (e := e) (by simpa using h)
    have e1 : esN (x :: r) = .string x.1 :: .int .u64 (x.2 : Nat) :: esN r := rfl
    rw [e1, show (k + 1) * 2 = k * 2 + 1 + 1 by omega]
    exact this
def RowsN (w : World) (g : Nat) (l : List En10) : Prop := ∀ k e, l[k]? = some e → w.cell? ⟨g, k * 2, none⟩ = some (.string e.1) ∧ w.cell? ⟨g, k * 2 + 1, none⟩ = some (.int .u64 (e.2 : Nat))
theorem RowsN.on {w w' : World} {g : Nat} {l : List En10} (h : RowsN w g l) (hb : Below w.heap.size w w') : RowsN w' g l := fun k e hk =>
  ⟨(hb.cell (World.block_lt_of_cell? w _ (h k e hk).1)).trans (h k e hk).1, (hb.cell (World.block_lt_of_cell? w _ (h k e hk).2)).trans (h k e hk).2⟩
theorem RowsN.new (w : World) (l : List En10) (t : TypeId) : RowsN (w.alloc (.cells (esN l).toArray t)) w.heap.size l := fun k e hk => by
  obtain ⟨h1, h2⟩ := esN_get hk
  constructor
  · rw [cell_of_row _ _ _ _ _ (0, 0) (heap_alloc_new w _), List.getElem?_toArray]; exact h1
  · rw [cell_of_row _ _ _ _ _ (0, 0) (heap_alloc_new w _), List.getElem?_toArray]; exact h2
theorem list_of_bytes10 {a b : ByteArray} (h : a.toList = b.toList) : a = b := by
  apply ByteArray.ext
  have h2 := congrArg List.toArray h
  simpa [ByteArray.toList_eq] using h2
/-- What the document's tables return. -/
def TabTo (l : List En10) (w : World) (e : Ending) (w' : World) : Prop := e = .returned (.slice (some ⟨w.heap.size, 0, none⟩) l.length l.length) ∧ RowsN w' w.heap.size l ∧ Below w.heap.size w w'
set_option maxHeartbeats 4000000 in
set_option maxRecDepth 100000 in
theorem refErrnos (w : World) : Calls Tryz.prog 52 #[] w (TabTo errnoT w) := by
  go_enter Tryz.func52, Tryz.ntmps52
  go_wp2
  go_ret
  exact ⟨rfl, RowsN.new w errnoT 124, (Below.refl _ _).alloc (Nat.le_refl _) _⟩
set_option maxHeartbeats 1600000 in
theorem refFind (l : List En10) (g : Nat) (s : ByteArray) (er : Int) (w : World) (hl : l.length ≤ 100) (h : RowsN w g l) : Calls Tryz.prog 51 #[.slice (some ⟨g, 0, none⟩) l.length l.length, .string s, .int .i64 er] w fun e w' =>
    e = .returned (.tuple #[.int .u64 ((findR l s).getD 0 : Nat), .int .i64 (if (findR l s).isSome = true then 0 else er)]) ∧ w = w' := by
  have HR := Lib.hid h
  have HD := Lib.hid (show findR (l.drop 0) s = findR l s by rw [List.drop_zero])
  obtain ⟨n, hn⟩ : ∃ n, n = l.length := ⟨_, rfl⟩
  have HN := Lib.hid hn
  rw [← hn] at hl ⊢
  obtain ⟨r, hr⟩ : ∃ r, r = findR l s := ⟨_, rfl⟩
  rw [← hr] at HD ⊢
  obtain ⟨ev, hev⟩ : ∃ v : Int, v = if r.isSome = true then 0 else er := ⟨_, rfl⟩
  rw [← hev]
  have HEV := Lib.hid hev
  clear h hn hr hev
  go_enter Tryz.func51, Tryz.ntmps51
  go_wp2
  go_loop [8] (fun i => ∃ k : Nat, k ≤ n ∧ i = .int .i64 k ∧ Hid (findR (l.drop k) s = r)) (fun i => n - (intOf i).toNat)
  case atStart => exact ⟨0, by omega, rfl, HD⟩
  case round =>
    obtain ⟨k, hk, rfl, hm⟩ := hrel
    by_cases hlt : k < n
    · have hx : l[k]? = some (l[k]'(by rw [← HN.out]; exact hlt)) := List.getElem?_eq_getElem _
      obtain ⟨⟨x, y⟩, he⟩ : ∃ e, e = l[k]'(by rw [← HN.out]; exact hlt) := ⟨_, rfl⟩
      rw [← he] at hx
      obtain ⟨c0, c1⟩ := HR.out k _ hx
      simp only at c0 c1
      have HA := Lib.hid (find_at hx s)
      have k1 : (k : Int) < n := by omega
      have k0 : (0 : Int) ≤ k := by omega
      clear hx he
      by_cases hs : x = s
      · subst hs
        have hv := Lib.hid (show r = some y by rw [← hm.out, HA.out, if_pos rfl])
        have t1 : (x.toList == x.toList) = true := by simp
        clear HA hm
        go_wp2
        go_ret2
        exact ⟨by rw [HEV.out, hv.out]; rfl, rfl⟩
      · have hv := Lib.hid (show findR (l.drop (k + 1)) s = r by rw [← hm.out, HA.out, if_neg hs])
        have hb : (x.toList == s.toList) = false := beq_eq_false_iff_ne.2 (fun e => hs (list_of_bytes10 e))
        clear HA hm hs
        go_wp2
        go_round
        case rel => exact ⟨k + 1, by omega, by go_num, hv⟩
        case measure => simp [intOf]; omega
    · obtain rfl : k = n := by omega
      have k1 : ¬ (k : Int) < k := by omega
      have hv := Lib.hid (show r = none by rw [← hm.out, HN.out, List.drop_length]; rfl)
      go_wp2
      go_ret2
      exact ⟨by rw [HEV.out, hv.out]; rfl, rfl⟩
end Go.Proofs.YtanifiobfbfehaaGreatDoor
namespace Go.Proofs.YtanifiobfbfehaaGreatDoor
open Go.RowKit
set_option linter.unusedVariables false
set_option linter.unusedSimpArgs false
attribute [local go_sem ↓] Go.wp_at_zero Go.wp_at_succ

def digB10 (c : UInt8) : Bool := decide (48 ≤ c.toNat) && decide (c.toNat ≤ 57)
def valD (l : List UInt8) : Nat := l.foldl (fun a c => 10 * a + (c.toNat - 48)) 0
/-- A number of one to four digits, up to 4095. -/
def parse4 (l : List UInt8) : Option Nat := if l ≠ [] ∧ l.length ≤ 4 ∧ l.all digB10 = true then (if valD l ≤ 4095 then some (valD l) else none) else none
/-- The number of an errno that is written. -/
def errnoR (s : ByteArray) : Option Nat := match findR errnoT s with | some x => some x | none => parse4 s.data.toList
theorem valD_snoc (l : List UInt8) (c : UInt8) : valD (l ++ [c]) = 10 * valD l + (c.toNat - 48) := by unfold valD; rw [List.foldl_append]; rfl
theorem valD_lt : ∀ (l : List UInt8), l.all digB10 = true → valD l < 10 ^ l.length := by
  intro l
  induction h : l.length generalizing l with
  | zero => intro _; rw [List.length_eq_zero_iff.1 h]; decide
  | succ n ih =>
    intro ha
    obtain ⟨m, c, rfl⟩ : ∃ m c, l = m ++ [c] := ⟨l.dropLast, l.getLast (by intro e; simp [e] at h), (List.dropLast_concat_getLast _).symm⟩
    rw [List.all_append, Bool.and_eq_true] at ha
    have h1 := ih m (by simpa using h) ha.1
    have hc : c.toNat ≤ 57 := by
      have := ha.2
      simp [digB10] at this
      omega
    rw [valD_snoc, Nat.pow_succ]
    omega
theorem parse4_long {l : List UInt8} (h : 4 < l.length) : parse4 l = none := by unfold parse4; rw [if_neg (by rintro ⟨_, h2, _⟩; omega)]
theorem parse4_bad {l : List UInt8} {k : Nat} {c : UInt8} (hk : l[k]? = some c) (h : digB10 c = false) : parse4 l = none := by
  unfold parse4
  rw [if_neg]
  rintro ⟨_, _, h3⟩
  have := List.all_eq_true.1 h3 c (List.mem_of_getElem? hk)
  rw [h] at this; cases this
set_option maxHeartbeats 3200000 in
set_option maxRecDepth 100000 in
theorem refErrno (s : ByteArray) (hs : s.size ≤ maxLen) (w : World) : Calls Tryz.prog 31 #[.string s] w fun e w' =>
    e = .returned (.tuple #[.int .u32 ((errnoR s).getD 0 : Nat), .int .i64 (if (errnoR s).isSome = true then 0 else 160)]) ∧ Below w.heap.size w w' := by
  have HT := Lib.hid (refErrnos w)
  have HF := Lib.hid (fun W (h : RowsN W w.heap.size errnoT) => refFind errnoT w.heap.size s 160 W (by decide) h)
  obtain ⟨ev, hev⟩ : ∃ v : Int, v = if (errnoR s).isSome = true then 0 else 160 := ⟨_, rfl⟩
  rw [← hev]
  have HEV := Lib.hid hev
  clear hev
  unfold TabTo at HT
  cases hf : findR errnoT s with
  | some x =>
    rw [hf] at HF
    have HV := Lib.hid (show errnoR s = some x by unfold errnoR; rw [hf])
    have hx : x < 4294967296 := by
      have : ∀ l : List En10, (l.all fun e => decide (e.2 < 4294967296)) = true → findR l s = some x → x < 4294967296 := by
        intro l
        induction l with
        | nil => intro _ h; cases h
        | cons e r ih =>
          intro ha h
          rw [List.all_cons, Bool.and_eq_true] at ha
          unfold findR at h
          split at h
          · injection h with h; rw [← h]; exact of_decide_eq_true ha.1
          · exact ih ha.2 h
      exact this errnoT (by decide) hf
    have hw : IntKind.u32.wrap (x : Int) = x := by rw [IntKind.wrap_u32]; omega
    clear hf hs
    go_enter Tryz.func31, Tryz.ntmps31
    go_wp2_with (first
      | (go_at_call 52; ((with_reducible refine (HT.out).mono ?_); rintro e w1 ⟨rfl, r1, b1⟩); have R1 := Lib.hid r1; have B1 := Lib.hid b1; clear r1 b1)
      | (go_at_call 51; ((with_reducible refine (HF.out _ R1.out).mono ?_); rintro e w2 ⟨rfl, rfl⟩)))
    go_ret2
    exact ⟨by rw [HEV.out, HV.out]; simp, B1.out⟩
  | none =>
    rw [hf] at HF
    have HV := Lib.hid (show errnoR s = parse4 s.data.toList by unfold errnoR; rw [hf])
    obtain ⟨n, hn⟩ : ∃ n, n = s.size := ⟨_, rfl⟩
    have HN := Lib.hid hn
    have hsz : s.size = n := hn.symm
    have hnm : (n : Int) ≤ 9223372036854775807 := by rw [hn]; unfold maxLen at hs; omega
    clear hf hs hn
    go_enter Tryz.func31, Tryz.ntmps31
    go_wp2_with (first
      | (go_at_call 52; ((with_reducible refine (HT.out).mono ?_); rintro e w1 ⟨rfl, r1, b1⟩); have R1 := Lib.hid r1; have B1 := Lib.hid b1; clear r1 b1)
      | (go_at_call 51; ((with_reducible refine (HF.out _ R1.out).mono ?_); rintro e w2 ⟨rfl, rfl⟩)))
    go_loop [6, 7] (fun v6 v7 => ∃ k : Nat, k ≤ n ∧ k ≤ 4 ∧ v7 = .int .i64 k ∧ v6 = .int .i64 (valD (s.data.toList.take k) : Nat) ∧ Hid ((s.data.toList.take k).all digB10 = true)) (fun _ v7 => n - (intOf v7).toNat)
    case atStart => exact ⟨0, by omega, by omega, rfl, rfl, Lib.hid rfl⟩
    case round =>
      obtain ⟨k, hk, hk4, rfl, rfl, hm⟩ := hrel
      by_cases hlt : k < n
      · have hkb : k < s.size := by rw [hsz]; exact hlt
        have hck : s.data.toList[k]? = some s[k] := by
          rw [List.getElem?_eq_getElem (by simpa using hkb)]; rfl
        have k1 : (k : Int) < n := by omega
        have k0 : (0 : Int) ≤ k := by omega
        have HVL := Lib.hid (valD_lt _ hm.out)
        have HTK := Lib.hid (show s.data.toList.take (k + 1) = s.data.toList.take k ++ [s[k]] by rw [List.take_add_one, hck]; rfl)
        by_cases hd : digB10 s[k] = true
        · have hd2 := hd
          unfold digB10 at hd2
          rw [Bool.and_eq_true, decide_eq_true_eq, decide_eq_true_eq] at hd2
          have q1 : ¬ (s[k].toNat : Int) < 48 := by omega
          have q2 : ¬ (57 : Int) < (s[k].toNat : Int) := by omega
          by_cases h4 : 3 < k
          · have q3 : (3 : Int) < k := by omega
            have hv := Lib.hid (show parse4 s.data.toList = none from parse4_long (by have : s.data.toList.length = s.size := by simp
                                                                                      omega))
            clear hd hd2 HTK HVL
            go_wp2
            go_ret2
            exact ⟨by rw [HEV.out, HV.out, hv.out]; rfl, B1.out⟩
          · have q3 : ¬ (3 : Int) < k := by omega
            have hpw : 10 ^ ((s.data.toList.take k).length) ≤ 1000 := by
              have h1 : (s.data.toList.take k).length ≤ 3 := by rw [List.length_take]; omega
              calc 10 ^ ((s.data.toList.take k).length) ≤ 10 ^ 3 := Nat.pow_le_pow_right (by decide) h1
                _ = 1000 := rfl
            have hvl : valD (s.data.toList.take k) < 1000 := Nat.lt_of_lt_of_le HVL.out hpw
            have HSN := Lib.hid (show valD (s.data.toList.take (k + 1)) = 10 * valD (s.data.toList.take k) + (s[k].toNat - 48) by rw [HTK.out, valD_snoc])
            have HAL := Lib.hid (show (s.data.toList.take (k + 1)).all digB10 = true by rw [HTK.out, List.all_append, hm.out]; simp [hd])
            obtain ⟨v, hv⟩ : ∃ v, v = valD (s.data.toList.take k) := ⟨_, rfl⟩
            rw [← hv] at hvl HSN ⊢
            have w1' : IntKind.i64.wrap (10 * (v : Int)) = 10 * v := IntWalk.i64_in _ (by omega)
            have w2' : IntKind.i64.wrap (10 * (v : Int) + ((s[k].toNat : Int) - 48)) = 10 * v + (s[k].toNat - 48) := IntWalk.i64_in _ (by omega)
            have w3' : IntKind.u8.wrap ((s[k].toNat : Int) - 48) = s[k].toNat - 48 := IntWalk.u8_in _ (by omega)
            clear hd hv hpw HTK HVL
            go_wp2
            go_round
            case rel =>
              refine ⟨k + 1, by omega, by omega, by go_num, ?_, HAL⟩
              rw [HSN.out]
              first
              | (congr 1; omega)
              | (rw [show wrap64 (10 * (v : Int)) = 10 * v from IntWalk.i64_in _ (by omega), show wrap64 (10 * (v : Int) + ((s[k].toNat : Int) - 48)) = 10 * v + (s[k].toNat - 48) from IntWalk.i64_in _ (by omega)]; congr 1; omega)
            case measure => simp [intOf]; omega
        · have hd' : digB10 s[k] = false := by simpa using hd
          have hv := Lib.hid (show parse4 s.data.toList = none from parse4_bad hck hd')
          by_cases h1 : s[k].toNat < 48
          · have q1 : (s[k].toNat : Int) < 48 := by omega
            clear hd hd' HTK HVL
            go_wp2
            go_ret2
            exact ⟨by rw [HEV.out, HV.out, hv.out]; rfl, B1.out⟩
          · have q1 : ¬ (s[k].toNat : Int) < 48 := by omega
            have q2 : (57 : Int) < (s[k].toNat : Int) := by
              unfold digB10 at hd'
              rw [Bool.and_eq_false_iff, decide_eq_false_iff_not, decide_eq_false_iff_not] at hd'
              omega
            clear hd hd' HTK HVL
            go_wp2
            go_ret2
            exact ⟨by rw [HEV.out, HV.out, hv.out]; rfl, B1.out⟩
      · obtain rfl : k = n := by omega
        have k1 : ¬ (k : Int) < k := by omega
        have hl : s.data.toList.length = k := by simp; exact hsz
        rw [List.take_of_length_le (by omega)] at hm ⊢
        have HVL := valD_lt _ hm.out
        have hpw : 10 ^ s.data.toList.length ≤ 10000 := by
          calc 10 ^ s.data.toList.length ≤ 10 ^ 4 := Nat.pow_le_pow_right (by decide) (by omega)
            _ = 10000 := rfl
        by_cases h0 : k = 0
        · have hnil : s.data.toList = [] := List.length_eq_zero_iff.1 (by omega)
          have hv := Lib.hid (show parse4 s.data.toList = none by rw [hnil]; rfl)
          have e1 : s.toList.isEmpty = true := by rw [ByteArray.toList_eq, hnil]; rfl
          clear hnil hpw HVL hl
          go_wp2
          go_ret2
          exact ⟨by rw [HEV.out, HV.out, hv.out]; rfl, B1.out⟩
        · have hne : s.data.toList ≠ [] := fun e => by rw [e] at hl; simp at hl; omega
          have e1 : s.toList.isEmpty = false := by
            rw [ByteArray.toList_eq]
            cases hc : s.data.toList with
            | nil => exact absurd hc hne
            | cons => rfl
          have HP := Lib.hid (show parse4 s.data.toList = if valD s.data.toList ≤ 4095 then some (valD s.data.toList) else none by unfold parse4; rw [if_pos ⟨hne, by omega, hm.out⟩])
          obtain ⟨v, hv⟩ : ∃ v, v = valD s.data.toList := ⟨_, rfl⟩
          rw [← hv] at HP HVL ⊢
          by_cases h5 : v ≤ 4095
          · have q1 : ¬ (4095 : Int) < v := by omega
            have hr := Lib.hid (show parse4 s.data.toList = some v by rw [HP.out, if_pos h5])
            have hw : IntKind.u32.wrap (v : Int) = v := by rw [IntKind.wrap_u32]; omega
            clear hne HP hv HVL hpw hl h5
            go_wp2
            go_ret2
            exact ⟨by rw [HEV.out, HV.out, hr.out]; simp, B1.out⟩
          · have q1 : (4095 : Int) < v := by omega
            have hr := Lib.hid (show parse4 s.data.toList = none by rw [HP.out, if_neg h5])
            clear hne HP hv HVL hpw hl h5
            go_wp2
            go_ret2
            exact ⟨by rw [HEV.out, HV.out, hr.out]; rfl, B1.out⟩
end Go.Proofs.YtanifiobfbfehaaGreatDoor
namespace Go.Proofs.YtanifiobfbfehaaGreatDoor
open Go.RowKit
set_option linter.unusedVariables false
set_option linter.unusedSimpArgs false
attribute [local go_sem ↓] Go.wp_at_zero Go.wp_at_succ

def db (n : Nat) : UInt8 := UInt8.ofNat (48 + n)
end Go.Proofs.YtanifiobfbfehaaGreatDoor
namespace Go.Proofs.YtanifiobfbfehaaGreatDoor
open Go.RowKit
set_option linter.unusedVariables false
set_option linter.unusedSimpArgs false
attribute [local go_sem ↓] Go.wp_at_zero Go.wp_at_succ

end Go.Proofs.YtanifiobfbfehaaGreatDoor
namespace Go.Proofs.YtanifiobfbfehaaGreatDoor
open Go.RowKit
set_option linter.unusedVariables false
set_option linter.unusedSimpArgs false
attribute [local go_sem ↓] Go.wp_at_zero Go.wp_at_succ

def errE (o : Option Nat) (e : Int) : Int := if o.isSome = true then 0 else e
end Go.Proofs.YtanifiobfbfehaaGreatDoor
