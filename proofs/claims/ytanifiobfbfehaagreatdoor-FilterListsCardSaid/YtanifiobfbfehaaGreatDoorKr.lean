/- What the landed Turned, Text and the two ways of a suffix return. Conditions: strings of at most 2^47 bytes; the tables lie in their variables. What all calls of the landed values return, as the chapter says it. Conditions: the tables lie in their variables; strings of at most a million bytes. -/
import Derived.Test.YtanifiobfbfehaaGreatDoorKq
import Derived.Test.YtanifiobfbfehaaGreatDoorKc
import Derived.Deep.RegionHeld3
import Derived.Test.YtanifiobfbfehaaGreatDoorKh
import Derived.Deep.MidRow
namespace Go.Proofs.YtanifiobfbfehaaGreatDoor
open Go.RowKit Go.Shelf
set_option linter.unusedVariables false
set_option linter.unusedSimpArgs false
attribute [local go_sem ↓] Go.wp_at_zero Go.wp_at_succ

theorem thn_v {w V W : World} (a : Below w.heap.size w V) (b : Below V.heap.size V W) : Below w.heap.size w W := a.trans (b.mono a.size)
theorem bs_subV (l : List UInt8) (a b : Nat) : (bs l).extract a b = bs ((l.drop a).take (b - a)) := by
  rw [Lib.extract_eq, bs_list]; rfl
theorem col_index : ∀ (l : List UInt8), (Lib.indexByte l 58 = -1 ∧ colA l = l.length) ∨ (Lib.indexByte l 58 = (colA l : Nat) ∧ colA l < l.length)
  | [] => Or.inl ⟨rfl, rfl⟩
  | c :: r => by
    by_cases h : c = 58
    · subst h
      refine Or.inr ⟨rfl, ?_⟩
      rw [show colA (58 :: r) = 0 from rfl]
      exact Nat.succ_pos _
    · have hc : colA (c :: r) = colA r + 1 := by
        unfold colA
        rw [List.findIdx_cons, show (c == (58 : UInt8)) = false from beq_eq_false_iff_ne.2 h]; rfl
      unfold Lib.indexByte
      rw [beq_eq_false_iff_ne.2 h, if_neg Bool.false_ne_true, hc, List.length_cons]
      rcases col_index r with ⟨h1, h2⟩ | ⟨h1, h2⟩
      · rw [h1]
        exact Or.inl ⟨rfl, by rw [h2]⟩
      · rw [h1]
        refine Or.inr ⟨?_, by omega⟩
        rw [if_neg (by rw [beq_iff_eq]; omega)]
        omega
set_option maxRecDepth 100000 in
theorem index58_call (l : List UInt8) (w : World) : Calls Tryz.prog 121 #[.string (bs l), .string ⟨#[58]⟩] w fun e w' => e = .returned (.int .i64 (Lib.indexByte l 58)) ∧ w = w' := by
  have HC := Lib.hid (show ∀ W, Calls Tryz.prog 129 #[.string (bs l), .int .u8 58] W fun e w' => e = .returned (.int .i64 (Lib.indexByte l 58)) ∧ W = w' from fun W => (index8_call l 58 W).mono fun e w' ⟨h1, h2⟩ => ⟨h1, by first | exact h2 | exact h2.symm⟩)
  by_cases h : l = [58]
  · have e1 : ([58] == (bs l).toList) = true := by rw [ByteArray.toList_eq, bs_list, h]; rfl
    have HR := Lib.hid (show Lib.indexByte l 58 = 0 by rw [h]; rfl)
    clear h
    go_enter Tryz.func121, Tryz.ntmps121
    go_wp2
    go_ret
    exact ⟨congrArg (fun v => Ending.returned (.int .i64 v)) HR.out.symm, rfl⟩
  · have e1 : ([58] == (bs l).toList) = false := beq_eq_false_iff_ne.2 fun e => h (by rw [e, ByteArray.toList_eq, bs_list])
    clear h
    go_enter Tryz.func121, Tryz.ntmps121
    go_wp2_with (go_at_call 129; refine (HC.out _).mono ?_; rintro e w1 ⟨rfl, rfl⟩)
    go_ret
    exact ⟨rfl, rfl⟩
theorem cut58_in (l : List UInt8) (hl : l.length ≤ 140737488355328) (w : World) : Calls Tryz.prog 99 #[.string (bs l), .string ⟨#[58]⟩] w fun e w' => e = .returned (.tuple #[.string (bs (l.take (colA l))), .string (bs (l.drop (colA l + 1))), .bool (decide (colA l < l.length))]) ∧ Below w.heap.size w w' := by
  have HC := Lib.hid (fun W => index58_call l W)
  have hsz : (bs l).size = l.length := bs_size l
  rcases col_index l with ⟨h1, h2⟩ | ⟨h1, hi⟩
  · rw [h1] at HC
    rw [decide_eq_false (show ¬ colA l < l.length by omega), h2, List.take_of_length_le (Nat.le_refl _), List.drop_of_length_le (Nat.le_succ _)]
    clear h1 h2 hsz
    go_enter Tryz.func99, Tryz.ntmps99
    go_wp2_with (go_at_call 121; ((with_reducible refine (HC.out _).mono ?_); rintro e w1 ⟨rfl, rfl⟩))
    go_ret3
    exact ⟨rfl, Below.refl _ _⟩
  · rw [h1] at HC
    rw [decide_eq_true hi]
    obtain ⟨i, hie⟩ : ∃ i, i = colA l := ⟨_, rfl⟩
    rw [← hie] at HC hi ⊢
    have H2 := Lib.hid (show (bs l).extract 0 i = bs (l.take i) by rw [bs_subV]; rfl)
    have H3 := Lib.hid (show (bs l).extract (i + 1) l.length = bs (l.drop (i + 1)) by rw [bs_subV, List.take_of_length_le (by simp)])
    obtain ⟨n, hn⟩ : ∃ n, n = l.length := ⟨_, rfl⟩
    rw [← hn] at hsz hi hl H3
    have i0 : (0 : Int) ≤ i := by omega
    have i1 : (i : Int) < n := by omega
    have i2 : (n : Int) ≤ 140737488355328 := by omega
    have w1 : IntKind.i64.wrap ((i : Int) + 1) = i + 1 := IntWalk.i64_in _ (by omega)
    have j0 : (0 : Int) ≤ (i : Int) + 1 := by omega
    have j1 : ((i : Int) + 1).toNat = i + 1 := by omega
    clear h1 hn hie
    go_enter Tryz.func99, Tryz.ntmps99
    go_wp2_with (go_at_call 121; ((with_reducible refine (HC.out _).mono ?_); rintro e w1 ⟨rfl, rfl⟩))
    go_quiet (fail)
    go_wp2
    go_ret3
    exact ⟨by rw [H2.out, H3.out]; rfl, Go.below_drewN (Below.refl _ _) nq⟩
theorem cut58_call (l : List UInt8) (hl : l.length ≤ 140737488355328) (w : World) : Calls Tryz.prog 83 #[.string (bs l), .string ⟨#[58]⟩] w fun e w' => e = .returned (.tuple #[.string (bs (l.take (colA l))), .string (bs (l.drop (colA l + 1))), .bool (decide (colA l < l.length))]) ∧ Below w.heap.size w w' := by
  have HC := Lib.hid (fun W => cut58_in l hl W)
  obtain ⟨b, hb⟩ : ∃ b, b = decide (colA l < l.length) := ⟨_, rfl⟩
  rw [← hb] at HC ⊢
  clear hl hb
  go_enter Tryz.func83, Tryz.ntmps83
  go_wp2_with (go_at_call 99; ((with_reducible refine (HC.out _).mono ?_); rintro e w1 ⟨rfl, b1⟩))
  go_ret3
  exact ⟨rfl, b1⟩
theorem til_is (l : List UInt8) : turnR (bs l) = (bs (Lib.trimPrefix l [126]), Lib.hasPrefix l [126]) := by
  unfold turnR
  rw [bs_list]
  cases l with
  | nil => rfl
  | cons c r =>
    by_cases h : c = 126
    · subst h; rfl
    · rw [if_neg (show ¬ (c :: r).head? = some 126 from fun e => h (Option.some.inj e))]
      have hp : Lib.hasPrefix (c :: r) [126] = false := by
        show (List.isPrefixOf [126] (c :: r)) = false
        simp [List.isPrefixOf, Ne.symm h]
      unfold Lib.trimPrefix
      rw [hp, if_neg Bool.false_ne_true]
theorem turned15 (s : ByteArray) (w : World) : Calls Tryz.prog 69 #[.string s] w fun e w' => e = .returned (.tuple #[.string (turnR s).1, .bool (turnR s).2]) ∧ Below w.heap.size w w' := by
  obtain ⟨l, rfl⟩ : ∃ l, s = bs l := ⟨s.data.toList, (bs_self s).symm⟩
  have HC := Lib.hid (show ∀ W, Calls Tryz.prog 82 #[.string (bs l), .string ⟨#[126]⟩] W fun e w' => e = .returned (.tuple #[.string (bs (Lib.trimPrefix l [126])), .bool (Lib.hasPrefix l [126])]) ∧ W = w' from fun W => (Tryz.strings_CutPrefix (bs l) ⟨#[126]⟩ W).mono fun e w' ⟨h1, h2⟩ => ⟨h1, h2.symm⟩)
  rw [til_is]
  go_enter Tryz.func69, Tryz.ntmps69
  go_wp2_with (go_at_call 82; ((with_reducible refine (HC.out _).mono ?_); rintro e w1 ⟨rfl, rfl⟩))
  go_ret2
  exact ⟨rfl, Below.refl _ _⟩
/-- What a suffix means. -/
def sufR (s : ByteArray) : Nat × Int := if s = killB then (2147483648, 0) else match errnoR s with | none => (0, 160) | some n => (327680 + n, 0)
set_option maxHeartbeats 1600000 in
theorem suffixA15 (s : ByteArray) (hs : s.size ≤ 1000000) (w : World) (hG : GN w) : Calls Tryz.prog 84 #[.string s] w fun e w' => e = .returned (.tuple #[.int .u32 (sufR s).1, .int .i64 (sufR s).2]) ∧ Below w.heap.size w w' := by
  have HE := Lib.hid (errnoN s w hG (by unfold maxLen; omega))
  by_cases hk : s = killB
  · have hv := Lib.hid (show sufR s = (2147483648, 0) from if_pos hk)
    have t1 : (s.toList == [107, 105, 108, 108]) = true := by rw [hk, show killB = bs [107, 105, 108, 108] from rfl, bs_toList]; rfl
    rw [hv.out]
    clear hs hG hk
    go_enter Tryz.func84, Tryz.ntmps84
    go_wp2
    go_ret2
    exact ⟨rfl, Below.refl _ _⟩
  · have t1 : (s.toList == [107, 105, 108, 108]) = false := beq_eq_false_iff_ne.2 (fun e => hk (list_of_bytes10 (e.trans (bs_toList [107, 105, 108, 108]).symm)))
    cases he : errnoR s with
    | none =>
      have hv := Lib.hid (show sufR s = (0, 160) by unfold sufR; rw [if_neg hk, he])
      rw [he] at HE
      rw [hv.out]
      clear hs hG hk he
      go_enter Tryz.func84, Tryz.ntmps84
      go_wp2_with (go_at_call 30; ((with_reducible refine (HE.out).mono ?_); rintro e w1 ⟨rfl, b1⟩))
      go_ret2
      exact ⟨rfl, b1⟩
    | some x =>
      have hv := Lib.hid (show sufR s = (327680 + x, 0) by unfold sufR; rw [if_neg hk, he])
      have hx4 := errnoR_lt he
      rw [he] at HE
      rw [hv.out]
      have hor : bits .or .u32 (327680 : Int) (x : Int) = ((327680 + x : Nat) : Int) := by
        have h : (327680 ||| x : Nat) = 327680 + x := by
          have := Nat.two_pow_add_eq_or_of_lt (i := 16) (b := x) (by omega) 5
          rw [show 2 ^ 16 * 5 = 327680 from rfl] at this
          exact this.symm
        rw [← h]
        exact u32_or_nat 327680 x (by omega) (by omega)
      clear hs hG hk he
      go_enter Tryz.func84, Tryz.ntmps84
      go_wp2_with (go_at_call 30; ((with_reducible refine (HE.out).mono ?_); rintro e w1 ⟨rfl, b1⟩))
      go_ret2
      exact ⟨rfl, b1⟩
end Go.Proofs.YtanifiobfbfehaaGreatDoor
namespace Go.Proofs.YtanifiobfbfehaaGreatDoor
open Go.RowKit Go.Shelf
set_option linter.unusedVariables false
set_option linter.unusedSimpArgs false
attribute [local go_sem ↓] Go.wp_at_zero Go.wp_at_succ

/-- The words for truth values, as the table has them. -/
def boolW : List ByteArray := [⟨#[110, 111]⟩, ⟨#[102, 97, 108, 115, 101]⟩, ⟨#[111, 102, 102]⟩, ⟨#[48]⟩, ⟨#[121, 101, 115]⟩, ⟨#[116, 114, 117, 101]⟩, ⟨#[111, 110]⟩, ⟨#[49]⟩]
/-- None of the first k words. -/
abbrev NotIn (s : ByteArray) (k : Nat) : Prop := ∀ j x, j < k → boolW[j]? = some x → x ≠ s
theorem NotIn.step {s x : ByteArray} {k : Nat} (h : NotIn s k) (hx : boolW[k]? = some x) (hn : x ≠ s) : NotIn s (k + 1) := fun j y hj hy => by
  rcases Nat.lt_or_ge j k with h1 | h1
  · exact h j y h1 hy
  · obtain rfl : j = k := by omega
    rw [hx] at hy; injection hy with hy; rw [← hy]; exact hn
/-- The closure that tells white space. -/
theorem among_pays15 (B : Nat) (w : World) (hB : Boxed w B 9 (.string (⟨#[32, 9, 13]⟩ : ByteArray))) : PredGrows Tryz.prog 80 #[.pointer (some ⟨B, 0, none⟩)] whR15 w := by
  intro W x hx hb
  have hc := (boxed_below hB hb).cell
  have HC := Lib.hid (fun W => contains_white x W)
  clear hb hB hx
  show Calls Tryz.prog 80 #[.int .i32 x, .pointer (some ⟨B, 0, none⟩)] W _
  go_enter Tryz.func80, Tryz.ntmps80
  go_wp2_with (go_at_call 81; ((with_reducible refine (HC.out _).mono ?_); rintro e w1 ⟨rfl, b1⟩))
  go_ret
  exact ⟨rfl, b1⟩
theorem among15 (s : ByteArray) (w : World) : Calls Tryz.prog 68 #[.string s] w fun e w' => e = .returned (.func (.func 80) #[] #[.pointer (some ⟨w.heap.size, 0, none⟩)]) ∧ w' = w.alloc (.cells #[.string s] 9) := by
  go_enter Tryz.func68, Tryz.ntmps68
  go_wp2
  go_ret
  exact ⟨rfl, rfl⟩
theorem rd_suf {l : List UInt8} (h : ¬ colA l = 0) (h2 : colA l < l.length) : rdL l = if (sufR (bs (l.drop (colA l + 1)))).2 = 0 then (⟨bs (l.take (colA l)), (sufR (bs (l.drop (colA l + 1)))).1, true⟩, 0) else (e0, 160) := by
  unfold sufR
  by_cases hk : bs (l.drop (colA l + 1)) = killB
  · rw [rd_k h (by omega) hk, if_pos hk]; rfl
  · rw [if_neg hk]
    cases he : errnoR (bs (l.drop (colA l + 1))) with
    | none => rw [rd_x h (by omega) hk he]; rfl
    | some x => rw [rd_e h (by omega) hk he]; rfl
theorem suf_err (s : ByteArray) : (sufR s).2 = 0 ∨ (sufR s).2 = 160 := by
  unfold sufR
  split
  · exact Or.inl rfl
  · split
    · exact Or.inr rfl
    · exact Or.inl rfl
theorem thereV {V : World} {g : Nat} {u v x : Value} (h : V.heap[g]? = some (.cells #[u, v, x] 104 (0, 0))) : V.there g 0 3 := fun j hj => by
  refine ⟨?_, frozen_of_row _ _ _ _ _ h⟩
  rw [cell_of_row _ _ (0 + j) _ _ (0, 0) h]
  match j, hj with
  | 0, _ => rfl
  | 1, _ => rfl
  | 2, _ => rfl
  | j + 3, hj => omega
theorem oneV (a : ByteArray) (b : Int) (c : Bool) : (#[.string a, .int .u32 b, .bool c] : Array Value).all (·.oneCell') = true := by kernel_rfl
/-- An entry, stored into the result's own cells. -/
theorem retV {w V : World} {g : Nat} {u v z : Value} (h : V.heap[g]? = some (.cells #[u, v, z] 104 (0, 0))) (hB : Below w.heap.size w V) (hg : w.heap.size ≤ g) (a : ByteArray) (b : Int) (c : Bool) :
    (loadVar 104 ⟨g, 0, none⟩).run Tryz.prog (V.setCells g 0 [.string a, .int .u32 b, .bool c]) = .ok (.agg #[.string a, .int .u32 b, .bool c]) (V.setCells g 0 [.string a, .int .u32 b, .bool c]) ∧ Below w.heap.size w (V.setCells g 0 [.string a, .int .u32 b, .bool c]) := by
  have hinf : (Tryz.prog.info? 104).map (·.size) = some 3 := by kernel_rfl
  exact ⟨run_loadVar_mid (P := Tryz.prog) _ g 0 104 [.string a, .int .u32 b, .bool c] _ (World.rangeAt_setCells_same V g 0 [.string a, .int .u32 b, .bool c] (thereV h)) Tryz.underlying104 rfl hinf, below_setCells15 hg _ _ _ hB⟩
set_option maxRecDepth 100000 in
set_option maxHeartbeats 8000000 in
theorem read15 (s : ByteArray) (w : World) (hG : GN w) (hs : s.size ≤ 1000000) : Calls Tryz.prog 70 #[.string s] w fun e w' => e = .returned (.tuple #[entV (rdE s).1, .int .i64 (rdE s).2]) ∧ Below w.heap.size w w' := by
  obtain ⟨l, hl⟩ : ∃ l, s = bs l := ⟨s.data.toList, (bs_self s).symm⟩
  have hll : l.length ≤ 1000000 := by rw [← bs_size, ← hl]; exact hs
  have hE : rdE s = rdL l := by unfold rdE; rw [hl, bs_list]
  rw [hE, hl]
  have HC := Lib.hid (fun W => cut58_call l (by omega) W)
  have HON := Lib.hid (fun (w w' : World) => GN.on (w := w) (w' := w'))
  have HG := Lib.hid hG
  have HIN := Lib.hid (show (Tryz.prog.info? 104).map (·.size) = some 3 from by kernel_rfl)
  obtain ⟨S, hS⟩ : ∃ S, S = bs l := ⟨_, rfl⟩
  rw [← hS] at HC ⊢
  by_cases h0 : colA l = 0
  · have hv := Lib.hid (rd_0 h0)
    obtain ⟨X, hX⟩ : ∃ X, X = bs (l.take (colA l)) := ⟨_, rfl⟩
    have t1 : X.toList.isEmpty = true := by rw [hX, h0, List.take_zero, bs_toList]; rfl
    rw [← hX] at HC
    obtain ⟨Y, hY⟩ : ∃ Y, Y = bs (l.drop (colA l + 1)) := ⟨_, rfl⟩
    obtain ⟨t, ht⟩ : ∃ t, t = decide (colA l < l.length) := ⟨_, rfl⟩
    rw [← hY, ← ht] at HC
    rw [hv.out]
    clear hl hll hE hG hs h0 hX hY ht hS
    go_enter Tryz.func70, Tryz.ntmps70
    go_wp2_with (first
      | (go_at_call 83
         (with_reducible refine (HC.out _).mono ?_)
         rintro e w1 ⟨rfl, b1⟩
         have F0 := Lib.hid ((b1.block w.heap.size (by simp only [World.size_alloc]; omega)).trans (heap_alloc_new w _))
         have BW := Lib.hid (thn_v ((Below.refl _ _).alloc (Nat.le_refl _) _) b1)
         have ⟨hl, hb3⟩ := retV F0.out BW.out (Nat.le_refl _) ⟨#[]⟩ 0 false
         clear b1)
      | ((with_reducible show wpList _ _ _ (⟨none, .store 104 (.tmp 2) (.tmp 17), _, _, _, _⟩ :: _) _ _)
         refine wpList_store_mid rfl 104 (.tmp 2) (.tmp 17) rfl w.heap.size 0 #[.string ⟨#[]⟩, .int .u32 0, .bool false] rfl rfl (thereV F0.out) HIN.out (oneV _ _ _) ?_
         show wpList _ _ _ _ _ (w1.setCells w.heap.size 0 [.string ⟨#[]⟩, .int .u32 0, .bool false])
         generalize w1.setCells w.heap.size 0 [.string ⟨#[]⟩, .int .u32 0, .bool false] = w3 at hl hb3 ⊢))
    exact bodyPost_ret (v := .tuple #[.agg #[.string ⟨#[]⟩, .int .u32 0, .bool false], .int .i64 161]) (results_two15 Tryz.results70 rfl rfl hl) rfl ⟨rfl, hb3⟩
  · have hne : (bs (l.take (colA l))).toList.isEmpty = false := by
      rw [bs_toList]
      cases h : l.take (colA l) with
      | nil =>
        have := congrArg List.length h
        rw [List.length_take, List.length_nil] at this
        have := col_le l
        omega
      | cons _ _ => rfl
    by_cases h1 : colA l < l.length
    · have hr := Lib.hid (rd_suf h0 h1)
      rw [decide_eq_true h1] at HC
      obtain ⟨X, hX⟩ : ∃ X, X = bs (l.take (colA l)) := ⟨_, rfl⟩
      obtain ⟨Y, hY⟩ : ∃ Y, Y = bs (l.drop (colA l + 1)) := ⟨_, rfl⟩
      rw [← hX] at hne
      have hYs : Y.size ≤ 1000000 := by rw [hY, bs_size, List.length_drop]; omega
      have HX := Lib.hid (fun (W : World) (g : GN W) => suffixA15 Y hYs W g)
      rw [← hX, ← hY] at HC hr
      rw [hr.out]
      obtain ⟨x, hx⟩ : ∃ x : Nat, x = (sufR Y).1 := ⟨_, rfl⟩
      have hse := suf_err Y
      obtain ⟨y, hy⟩ : ∃ y, y = (sufR Y).2 := ⟨_, rfl⟩
      rw [← hx, ← hy] at HX ⊢
      rw [← hy] at hse
      clear hl hll hE hG hs h0 h1 hX hY hYs hx hy hr hS
      rcases hse with rfl | rfl
      · rw [if_pos rfl]
        go_enter Tryz.func70, Tryz.ntmps70
        go_wp2_with (first
          | (go_at_call 83
             (with_reducible refine (HC.out _).mono ?_)
             rintro e w1 ⟨rfl, b1⟩
             have F0 := Lib.hid ((b1.block w.heap.size (by simp only [World.size_alloc]; omega)).trans (heap_alloc_new w _))
             have BW := Lib.hid (thn_v ((Below.refl _ _).alloc (Nat.le_refl _) _) b1)
             clear b1)
          | (go_at_call 84
             (with_reducible refine (HX.out _ (HON.out _ _ HG.out BW.out)).mono ?_)
             rintro e w2 ⟨rfl, b2⟩
             have F0 := Lib.hid ((b2.block w.heap.size (Array.getElem?_eq_some_iff.1 F0.out).1).trans F0.out)
             have BW := Lib.hid (thn_v BW.out b2)
             have ⟨hl, hb3⟩ := retV F0.out BW.out (Nat.le_refl _) X (x : Nat) true
             clear b2)
          | ((with_reducible show wpList _ _ _ (⟨none, .store 104 (.tmp 2) (.tmp 33), _, _, _, _⟩ :: _) _ _)
             refine wpList_store_mid rfl 104 (.tmp 2) (.tmp 33) rfl w.heap.size 0 #[.string X, .int .u32 (x : Nat), .bool true] rfl rfl (thereV F0.out) HIN.out (oneV _ _ _) ?_
             show wpList _ _ _ _ _ (w2.setCells w.heap.size 0 [.string X, .int .u32 (x : Nat), .bool true])
             generalize w2.setCells w.heap.size 0 [.string X, .int .u32 (x : Nat), .bool true] = w3 at hl hb3 ⊢))
        exact bodyPost_ret (v := .tuple #[.agg #[.string X, .int .u32 (x : Nat), .bool true], .int .i64 0]) (results_two15 Tryz.results70 rfl rfl hl) rfl ⟨rfl, hb3⟩
      · rw [if_neg (by decide)]
        go_enter Tryz.func70, Tryz.ntmps70
        go_wp2_with (first
          | (go_at_call 83
             (with_reducible refine (HC.out _).mono ?_)
             rintro e w1 ⟨rfl, b1⟩
             have F0 := Lib.hid ((b1.block w.heap.size (by simp only [World.size_alloc]; omega)).trans (heap_alloc_new w _))
             have BW := Lib.hid (thn_v ((Below.refl _ _).alloc (Nat.le_refl _) _) b1)
             clear b1)
          | (go_at_call 84
             (with_reducible refine (HX.out _ (HON.out _ _ HG.out BW.out)).mono ?_)
             rintro e w2 ⟨rfl, b2⟩
             have F0 := Lib.hid ((b2.block w.heap.size (Array.getElem?_eq_some_iff.1 F0.out).1).trans F0.out)
             have BW := Lib.hid (thn_v BW.out b2)
             have ⟨hl, hb3⟩ := retV F0.out BW.out (Nat.le_refl _) ⟨#[]⟩ 0 false
             clear b2)
          | ((with_reducible show wpList _ _ _ (⟨none, .store 104 (.tmp 2) (.tmp 29), _, _, _, _⟩ :: _) _ _)
             refine wpList_store_mid rfl 104 (.tmp 2) (.tmp 29) rfl w.heap.size 0 #[.string ⟨#[]⟩, .int .u32 0, .bool false] rfl rfl (thereV F0.out) HIN.out (oneV _ _ _) ?_
             show wpList _ _ _ _ _ (w2.setCells w.heap.size 0 [.string ⟨#[]⟩, .int .u32 0, .bool false])
             generalize w2.setCells w.heap.size 0 [.string ⟨#[]⟩, .int .u32 0, .bool false] = w3 at hl hb3 ⊢))
        exact bodyPost_ret (v := .tuple #[.agg #[.string ⟨#[]⟩, .int .u32 0, .bool false], .int .i64 160]) (results_two15 Tryz.results70 rfl rfl hl) rfl ⟨rfl, hb3⟩
    · have hm : colA l = l.length := by have := col_le l; omega
      have hv := Lib.hid (rd_n h0 hm)
      rw [decide_eq_false h1, hm, List.take_of_length_le (Nat.le_refl _), ← hS] at HC
      rw [hm, List.take_of_length_le (Nat.le_refl _), ← hS] at hne
      rw [hv.out, ← hS]
      obtain ⟨Y, hY⟩ : ∃ Y, Y = bs (l.drop (l.length + 1)) := ⟨_, rfl⟩
      rw [← hY] at HC
      clear hl hll hE hG hs h0 h1 hm hY hS hv
      go_enter Tryz.func70, Tryz.ntmps70
      go_wp2_with (first
        | (go_at_call 83
           (with_reducible refine (HC.out _).mono ?_)
           rintro e w1 ⟨rfl, b1⟩
           have F0 := Lib.hid ((b1.block w.heap.size (by simp only [World.size_alloc]; omega)).trans (heap_alloc_new w _))
           have BW := Lib.hid (thn_v ((Below.refl _ _).alloc (Nat.le_refl _) _) b1)
           have ⟨hl, hb3⟩ := retV F0.out BW.out (Nat.le_refl _) S 0 false
           clear b1)
        | ((with_reducible show wpList _ _ _ (⟨none, .store 104 (.tmp 2) (.tmp 21), _, _, _, _⟩ :: _) _ _)
           refine wpList_store_mid rfl 104 (.tmp 2) (.tmp 21) rfl w.heap.size 0 #[.string S, .int .u32 0, .bool false] rfl rfl (thereV F0.out) HIN.out (oneV _ _ _) ?_
           show wpList _ _ _ _ _ (w1.setCells w.heap.size 0 [.string S, .int .u32 0, .bool false])
           generalize w1.setCells w.heap.size 0 [.string S, .int .u32 0, .bool false] = w3 at hl hb3 ⊢))
      exact bodyPost_ret (v := .tuple #[.agg #[.string S, .int .u32 0, .bool false], .int .i64 0]) (results_two15 Tryz.results70 rfl rfl hl) rfl ⟨rfl, hb3⟩
end Go.Proofs.YtanifiobfbfehaaGreatDoor
