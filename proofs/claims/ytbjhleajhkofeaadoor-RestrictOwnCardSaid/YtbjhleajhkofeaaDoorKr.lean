/- What the landed Turned, Text and the two ways of a suffix return. Conditions: strings of at most 2^47 bytes; the tables lie in their variables. What all calls of the landed values return, as the chapter says it. Conditions: the tables lie in their variables; strings of at most a million bytes. -/
import Derived.Test.YtbjhleajhkofeaaDoorKq
import Derived.Test.YtbjhleajhkofeaaDoorTg
import Derived.Test.YtbjhleajhkofeaaDoorJp
import Derived.Test.YtbjhleajhkofeaaDoorJa
import Derived.Test.YtbjhleajhkofeaaDoorHc
import Derived.Lib.ParseIntB
import Derived.Lib.AppendIntMem
import Derived.Lib.AtoiErrMem
import Derived.OwnWalk
import Derived.Deep.RegionHeld3
import Derived.Test.YtbjhleajhkofeaaDoorKh
import Derived.Deep.MidRow
namespace Go.Proofs.YtbjhleajhkofeaaDoor
open Go.RowKit Go.Shelf
set_option linter.unusedVariables false
set_option linter.unusedSimpArgs false
attribute [local go_sem ↓] Go.wp_at_zero Go.wp_at_succ

theorem bs_subV (l : List UInt8) (a b : Nat) : (bs l).extract a b = bs ((l.drop a).take (b - a)) := by
  rw [Lib.extract_eq, bs_list]; rfl
theorem til_is (l : List UInt8) : turnR (bs l) = (bs (Lib.trimPrefix l [126]), Lib.hasPrefix l [126]) := by
  unfold turnR
  rw [bs_list]
  cases l with
  | nil => rfl
  | cons c r =>
    by_cases h : c = 126
    · subst h; rfl
    · rw [if_neg (show ¬ (c :: r).head? = some 126 from fun e => h (Option.some.inj e))]
      have hp : Lib.hasPrefix (c :: r) [126] = false := by
        show (List.isPrefixOf [126] (c :: r)) = false
        simp [List.isPrefixOf, Ne.symm h]
      unfold Lib.trimPrefix
      rw [hp, if_neg Bool.false_ne_true]
theorem turned15 (s : ByteArray) (w : World) : Calls Tryd.prog 16 #[.string s] w fun e w' => e = .returned (.tuple #[.string (turnR s).1, .bool (turnR s).2]) ∧ Below w.heap.size w w' := by
  obtain ⟨l, rfl⟩ : ∃ l, s = bs l := ⟨s.data.toList, (bs_self s).symm⟩
  have HC := Lib.hid (show ∀ W, Calls Tryd.prog 28 #[.string (bs l), .string ⟨#[126]⟩] W fun e w' => e = .returned (.tuple #[.string (bs (Lib.trimPrefix l [126])), .bool (Lib.hasPrefix l [126])]) ∧ W = w' from fun W => (Tryd.strings_CutPrefix (bs l) ⟨#[126]⟩ W).mono fun e w' ⟨h1, h2⟩ => ⟨h1, h2.symm⟩)
  rw [til_is]
  go_enter Tryd.func16, Tryd.ntmps16
  go_wp2_with (go_at_call 28; ((with_reducible refine (HC.out _).mono ?_); rintro e w1 ⟨rfl, rfl⟩))
  go_ret2
  exact ⟨rfl, Below.refl _ _⟩
end Go.Proofs.YtbjhleajhkofeaaDoor
namespace Go.Proofs.YtbjhleajhkofeaaDoor
open Go.RowKit Go.Shelf
set_option linter.unusedVariables false
set_option linter.unusedSimpArgs false
attribute [local go_sem ↓] Go.wp_at_zero Go.wp_at_succ

/-- The words for truth values, as the table has them. -/
def boolW : List ByteArray := [⟨#[110, 111]⟩, ⟨#[102, 97, 108, 115, 101]⟩, ⟨#[111, 102, 102]⟩, ⟨#[48]⟩, ⟨#[121, 101, 115]⟩, ⟨#[116, 114, 117, 101]⟩, ⟨#[111, 110]⟩, ⟨#[49]⟩]
def boolC : List Value := boolW.map Value.string
/-- What lies in memory. -/
structure G15 (w : World) : Prop where
  gn : GN w
  boo : LaidAt w 0 boolC
theorem G15.on {w w' : World} (h : G15 w) (b : Below w.heap.size w w') : G15 w' := ⟨h.gn.on b, h.boo.on (by decide) b⟩
theorem range_boo {w : World} (h : LaidAt w 0 boolC) : w.rangeAt 0 0 boolC := fun j v hv => by rw [Nat.zero_add]; exact h j v hv
theorem info_boo : (Tryd.prog.info? 69).map (·.size) = some boolC.length := by kernel_rfl
theorem run_boo (i : Nat) (hi : i < 2) (w : World) : ∃ a b c d, boolW[4 * i]? = some a ∧ boolW[4 * i + 1]? = some b ∧ boolW[4 * i + 2]? = some c ∧ boolW[4 * i + 3]? = some d ∧ ∀ w, (Instr.index 69 (.agg boolC.toArray) (.int .i64 i)).run Tryd.prog w = .ok (.agg #[.string a, .string b, .string c, .string d]) w := by
  match i, hi with
  | 0, _ => exact ⟨_, _, _, _, rfl, rfl, rfl, rfl, fun w => by kernel_rfl⟩
  | 1, _ => exact ⟨_, _, _, _, rfl, rfl, rfl, rfl, fun w => by kernel_rfl⟩
theorem run_wrd (a b c d : ByteArray) (j : Nat) (hj : j < 4) (w : World) : (Instr.index 68 (.agg #[.string a, .string b, .string c, .string d]) (.int .i64 j)).run Tryd.prog w = .ok (.string (([a, b, c, d] : List ByteArray)[j]'hj)) w := by
  match j, hj with
  | 0, _ => show _ = _; kernel_rfl
  | 1, _ => show _ = _; kernel_rfl
  | 2, _ => show _ = _; kernel_rfl
  | 3, _ => show _ = _; kernel_rfl
theorem wpList_idx15 {ops : Array Oper} {rest : List Oper} {op : Oper} {a : Act} {w : World} {Q : Exit → Act → World → Prop} (hgd : op.guard = none) (t : TypeId) (x y : Operand) (ho : op.op = .index t x y) (u v r : Value)
    (hx : a.eval x = u) (hy : a.eval y = v) (hr : (Instr.index t u v).run Tryd.prog w = .ok r w) (h : wpList Tryd.prog ops Q rest (a.put op.dst r) w) : wpList Tryd.prog ops Q (op :: rest) a w :=
  wpList_plain hgd fun _ hK => by
    unfold Oper.wp execOp
    simp only [ho, hx, hy, Sem.run_bind, Sem.run_pure, Result.andThen_ok, hr]
    exact hK _ _ h
theorem boolW_dec : (List.range 8).all (fun k => match boolW[k]? with | some x => decide (boolR x = some (decide (4 ≤ k))) | none => false) = true := by decide +kernel
theorem boolW_at {k : Nat} {x : ByteArray} (h : boolW[k]? = some x) : boolR x = some (decide (4 ≤ k)) := by
  have hk : k < 8 := (List.getElem?_eq_some_iff.1 h).1
  have := List.all_eq_true.1 boolW_dec k (List.mem_range.2 hk)
  rw [h] at this
  exact of_decide_eq_true this
theorem boolW_none {s : ByteArray} (h : ∀ (k : Nat) (x : ByteArray), boolW[k]? = some x → x ≠ s) : boolR s = none := by
  have hy : isIn yesT s = false := isIn_no (fun (t : ByteArray) (ht : t ∈ yesT) (e : s = t) => by
    have : t ∈ boolW := by
      have h1 : yesT.all (fun t => boolW.any fun u => decide (u = t)) = true := by decide +kernel
      obtain ⟨u, hu, h2⟩ := List.any_eq_true.1 (List.all_eq_true.1 h1 t ht)
      exact of_decide_eq_true h2 ▸ hu
    obtain ⟨k, hk⟩ := List.getElem?_of_mem this
    exact h k t hk e.symm)
  have hn : isIn noT s = false := isIn_no (fun (t : ByteArray) (ht : t ∈ noT) (e : s = t) => by
    have : t ∈ boolW := by
      have h1 : noT.all (fun t => boolW.any fun u => decide (u = t)) = true := by decide +kernel
      obtain ⟨u, hu, h2⟩ := List.any_eq_true.1 (List.all_eq_true.1 h1 t ht)
      exact of_decide_eq_true h2 ▸ hu
    obtain ⟨k, hk⟩ := List.getElem?_of_mem this
    exact h k t hk e.symm)
  unfold boolR
  rw [hy, if_neg Bool.noConfusion, hn, if_neg Bool.noConfusion]
/-- None of the first k words. -/
abbrev NotIn (s : ByteArray) (k : Nat) : Prop := ∀ j x, j < k → boolW[j]? = some x → x ≠ s
theorem NotIn.step {s x : ByteArray} {k : Nat} (h : NotIn s k) (hx : boolW[k]? = some x) (hn : x ≠ s) : NotIn s (k + 1) := fun j y hj hy => by
  rcases Nat.lt_or_ge j k with h1 | h1
  · exact h j y h1 hy
  · obtain rfl : j = k := by omega
    rw [hx] at hy; injection hy with hy; rw [← hy]; exact hn
set_option maxRecDepth 100000 in
set_option maxHeartbeats 4000000 in
theorem bool15 (s : ByteArray) (w : World) (hG : LaidAt w 0 boolC) : Calls Tryd.prog 15 #[.string s] w fun e w' => e = .returned (.tuple #[.bool ((boolR s).getD false), .int .i64 (boolE s)]) ∧ Below w.heap.size w w' := by
  have GX := Lib.hid hG
  have HI := Lib.hid info_boo
  obtain ⟨rb, hrb⟩ : ∃ x, x = (boolR s).getD false := ⟨_, rfl⟩
  obtain ⟨re, hre⟩ : ∃ x, x = boolE s := ⟨_, rfl⟩
  rw [← hrb, ← hre]
  have HRB := Lib.hid hrb
  have HRE := Lib.hid hre
  clear hG hrb hre
  go_enter Tryd.func15, Tryd.ntmps15
  go_wp2_with ((with_reducible show wpList _ _ _ (⟨some 8, .load 69 _, _, _, _, _⟩ :: _) _ _)
               refine wpList_load_mid rfl 69 (.global 0) rfl 0 0 rfl boolC _ (range_boo GX.out) Tryd.underlying69 rfl HI.out ?_
               generalize hbc : boolC.toArray = bcv)
  have HBC := Lib.hid hbc
  clear hbc
  go_loopw [9] (fun v9 wr => ∃ i : Nat, i ≤ 2 ∧ v9 = .int .i64 i ∧ Hid (NotIn s (4 * i)) ∧ Hid (Below w.heap.size w wr)) (fun v9 _ => 2 - (intOf v9).toNat)
  case atStart => exact ⟨0, by omega, rfl, Lib.hid (fun j x h _ => absurd h (by omega)), Lib.hid (Below.refl _ _)⟩
  case round =>
    obtain ⟨i, hi, rfl, HN, HB⟩ := hrel
    have hsz := HB.out.size
    obtain ⟨V0, rfl⟩ : ∃ wo : World, wo = wr := ⟨_, rfl⟩
    by_cases hlt : i < 2
    · obtain ⟨a, b, c, d, ha, hb, hc, hd, hrun⟩ := run_boo i hlt V0
      rw [HBC.out] at hrun
      have HRUN := Lib.hid hrun
      have HW := Lib.hid (show ∀ (j : Nat) (hj : j < 4), boolW[4 * i + j]? = some (([a, b, c, d] : List ByteArray)[j]'hj) from fun j hj => by
        match j, hj with
        | 0, _ => exact ha
        | 1, _ => exact hb
        | 2, _ => exact hc
        | 3, _ => exact hd)
      have HR2 := Lib.hid (run_wrd a b c d)
      have k1 : (i : Int) < 2 := by omega
      have HB2 := Lib.hid (HB.out.alloc hsz (.cells #[.string a, .string b, .string c, .string d] 68))
      clear hrun ha hb hc hd HBC
      go_wp2_with ((with_reducible show wpList _ _ _ (⟨some 12, .index _ _ _, _, _, _, _⟩ :: _) _ _)
                   refine wpList_idx15 rfl 69 (.tmp 8) (.tmp 9) rfl _ _ _ rfl rfl (HRUN.out _) ?_)
      go_loopw [14] (fun v14 wx => ∃ j : Nat, j ≤ 4 ∧ v14 = .int .i64 j ∧ Hid (NotIn s (4 * i + j)) ∧ Hid (Below w.heap.size w wx)) (fun v14 _ => 4 - (intOf v14).toNat)
      case atStart => exact ⟨0, by omega, rfl, HN, HB2⟩
      case round =>
        obtain ⟨j, hj, rfl, HN, HB⟩ := hrel
        by_cases hjl : j < 4
        · have hw := HW.out j hjl
          have hr := HR2.out j hjl
          obtain ⟨x, hx⟩ : ∃ x, x = ([a, b, c, d] : List ByteArray)[j]'hjl := ⟨_, rfl⟩
          rw [← hx] at hw hr
          have HR3 := Lib.hid hr
          have hv := boolW_at hw
          have j1 : (j : Int) < 4 := by omega
          clear hx hr
          by_cases hs : x = s
          · subst hs
            have t1 : (x.toList == x.toList) = true := by simp
            have t2 : Hid (rb = decide (4 ≤ 4 * i + j)) := Lib.hid (by rw [HRB.out, hv]; rfl)
            have t3 : Hid (re = 0) := Lib.hid (by rw [HRE.out]; unfold boolE; rw [hv]; rfl)
            have t4 : Hid (decide (4 ≤ 4 * i + j) = decide ((i : Int) = 1)) := Lib.hid (by congr 1; apply propext; constructor <;> (intro; omega))
            clear hv hw HN
            go_wp2_with ((with_reducible show wpList _ _ _ (⟨some 16, .index _ _ _, _, _, _, _⟩ :: _) _ _)
                         refine wpList_idx15 rfl 68 (.tmp 13) (.tmp 14) rfl _ _ _ rfl rfl (HR3.out _) ?_)
            go_ret2
            exact ⟨by rw [t3.out, t2.out, t4.out]; first | rfl | simp, HB.out⟩
          · have t1 : (x.toList == s.toList) = false := beq_eq_false_iff_ne.2 (fun e => hs (list_of_bytes10 e))
            have HN2 := Lib.hid (NotIn.step HN.out hw hs)
            clear hv hw hs HN
            go_wp2_with ((with_reducible show wpList _ _ _ (⟨some 16, .index _ _ _, _, _, _, _⟩ :: _) _ _)
                         refine wpList_idx15 rfl 68 (.tmp 13) (.tmp 14) rfl _ _ _ rfl rfl (HR3.out _) ?_)
            go_roundw
            case rel => exact ⟨j + 1, by omega, by go_num, HN2, HB⟩
            case measure => first | (simp [intOf]; done) | (simp [intOf]; omega)
        · obtain rfl : j = 4 := by omega
          go_wp2
          go_roundw
          case rel => exact ⟨i + 1, by omega, by go_num, HN, HB⟩
          case measure => first | (simp [intOf]; done) | (simp [intOf]; omega)
    · obtain rfl : i = 2 := by omega
      have hv : boolR s = none := boolW_none (fun k x hk => HN.out k x (by have := (List.getElem?_eq_some_iff.1 hk).1; exact this) hk)
      have t2 : Hid (rb = false) := Lib.hid (by rw [HRB.out, hv]; rfl)
      have t3 : Hid (re = 150) := Lib.hid (by rw [HRE.out]; unfold boolE; rw [hv]; rfl)
      clear hv HBC
      go_wp2
      go_ret2
      exact ⟨by rw [t2.out, t3.out]; rfl, HB.out⟩
/-- The closure that tells white space. -/
theorem among_pays15 (B : Nat) (w : World) (hB : Boxed w B 9 (.string (⟨#[32, 9, 13]⟩ : ByteArray))) : PredGrows Tryd.prog 40 #[.pointer (some ⟨B, 0, none⟩)] whR15 w := by
  intro W x hx hb
  have hc := (boxed_below hB hb).cell
  have HC := Lib.hid (fun W => contains_white x W)
  clear hb hB hx
  show Calls Tryd.prog 40 #[.int .i32 x, .pointer (some ⟨B, 0, none⟩)] W _
  go_enter Tryd.func40, Tryd.ntmps40
  go_wp2_with (go_at_call 41; ((with_reducible refine (HC.out _).mono ?_); rintro e w1 ⟨rfl, b1⟩))
  go_ret
  exact ⟨rfl, b1⟩
theorem among15 (s : ByteArray) (w : World) : Calls Tryd.prog 27 #[.string s] w fun e w' => e = .returned (.func (.func 40) #[] #[.pointer (some ⟨w.heap.size, 0, none⟩)]) ∧ w' = w.alloc (.cells #[.string s] 9) := by
  go_enter Tryd.func27, Tryd.ntmps27
  go_wp2
  go_ret
  exact ⟨rfl, rfl⟩
theorem words15 (s : ByteArray) (w : World) (hs : s.size ≤ 1000000) : Calls Tryd.prog 14 #[.string s] w fun e w' => ∃ q c, e = .returned (.slice q (wdL s.data.toList).length c) ∧ WdsAt w' q (wdL s.data.toList) ∧ Below w.heap.size w w' := by
  have HA := Lib.hid (fun W => among15 (⟨#[32, 9, 13]⟩ : ByteArray) W)
  have eg : ∀ args w, (callFunc 40 args).run Tryd.prog w = .ok (.enter 40 args) w := enters_of Tryd.func40 (by kernel_rfl) rfl
  have HT := Tryd.strings_FieldsFunc_grows 40 _ eg whR15 s (w.alloc (.cells #[.string (⟨#[32, 9, 13]⟩ : ByteArray)] 9)) (by omega) (among_pays15 w.heap.size _ (Boxed.new w _ _))
  rw [fields_words, List.length_map] at HT
  have HT := Lib.hid HT
  have HB := Lib.hid (ball w (.cells #[.string (⟨#[32, 9, 13]⟩ : ByteArray)] 9))
  obtain ⟨L, hL⟩ : ∃ L, L = wdL s.data.toList := ⟨_, rfl⟩
  rw [← hL] at HT ⊢
  clear hs eg hL
  go_enter Tryd.func14, Tryd.ntmps14
  go_wp2_with (first
    | (go_at_call 27; ((with_reducible refine (HA.out _).mono ?_); rintro e w1 ⟨rfl, rfl⟩))
    | (go_at_call 26; ((with_reducible refine (HT.out).mono ?_); rintro e w2 ⟨A, rfl, hA, ho, b2⟩)))
  go_ret
  exact ⟨_, _, rfl, WdsAt.of_own (by rw [List.map_map] at ho; exact ho) rfl, th2 HB.out b2⟩
end Go.Proofs.YtbjhleajhkofeaaDoor
