/- The landed Trim and Comment: what they return of any string. Conditions: the library's two tables lie in their variables; a string has at most 2^48 bytes. The landed iterator over a file's lines, with their numbers: what it hands over. Condition: a file of at most 2^47 bytes. The landed Count: how many lines a file has. Condition: a file of at most 2^47 bytes. -/
import Derived.Test.YtgigdhincpcdbaaGreatDoorZe
import Derived.Test.YtgigdhincpcdbaaGreatDoorZa
import Derived.Test.YtgigdhincpcdbaaGreatDoorLa
import Derived.Laws.EntriesVeiled
import Derived.Laws.IdiomStrings
namespace Go.Proofs.YtgigdhincpcdbaaGreatDoor
open Go.RowKit Go.Shelf
set_option linter.unusedVariables false
set_option linter.unusedSimpArgs false
attribute [local go_sem ↓] Go.wp_at_zero Go.wp_at_succ

/-- What lies in memory: the library's two tables. -/
abbrev G12 (w : World) : Prop := Lib.Utf8Tabs 1 2 w
theorem G12_on {w w' : World} (h : G12 w) (b : Below w.heap.size w w') : G12 w' := Utf8Tabs_below h b
set_option maxRecDepth 100000 in
set_option maxHeartbeats 4000000 in
theorem idx_bad (x : Nat) (h0 : 128 ≤ x) (hv : Lib.validRune x = false) (hx : x ≠ 65533) (w : World) : Calls Tryz.prog 109 #[.string (⟨#[32, 9, 13]⟩ : ByteArray), .int .i32 x] w fun e w' => e = .returned (.int .i64 (-1)) ∧ Below w.heap.size w w' := by
  have HV := Lib.hid (fun W => Tryz.utf8_ValidRune (x : Int) W)
  rw [hv] at HV
  have q0 : ((x : Int) == 65533) = false := beq_eq_false_iff_ne.2 (by omega)
  have q1 : ¬ (x : Int) < 128 := by omega
  have q2 : (0 : Int) ≤ x := by omega
  clear hv hx h0
  go_enter Tryz.func109, Tryz.ntmps109
  go_wp2_with (go_at_call 117; ((with_reducible refine (HV.out _).mono ?_); rintro e w1 ⟨rfl, rfl⟩))
  go_ret
  exact ⟨rfl, Below.refl _ _⟩
theorem idx_none (x : Nat) (h0 : 128 ≤ x) (w : World) : Calls Tryz.prog 109 #[.string (⟨#[32, 9, 13]⟩ : ByteArray), .int .i32 x] w fun e w' => e = .returned (.int .i64 (-1)) ∧ Below w.heap.size w w' := by
  by_cases hx : x = 65533
  · subst hx; exact idx_err w
  · cases hv : Lib.validRune x with
    | false => exact idx_bad x h0 hv hx w
    | true =>
      obtain ⟨rs, m, c, h1, h2, h3, h4, h5, h6⟩ := enc_last h0
      have : m = 1 ∨ m = 2 ∨ m = 3 := by omega
      rcases this with rfl | rfl | rfl
      · exact idx_high1 x h0 hv hx rs c h1 h2 h5 h6 w
      · exact idx_high2 x h0 hv hx rs c h1 h2 h5 h6 w
      · exact idx_high3 x h0 hv hx rs c h1 h2 h5 h6 w
theorem white_low : ∀ x : Nat, x < 128 → decide (0 ≤ Lib.indexByte [32, 9, 13] x.toUInt8) = whR x := by decide
theorem contains_white (x : Nat) (w : World) : Calls Tryz.prog 105 #[.string (⟨#[32, 9, 13]⟩ : ByteArray), .int .i32 x] w fun e w' => e = .returned (.bool (whR x)) ∧ Below w.heap.size w w' := by
  by_cases h : x < 128
  · refine (Tryz.strings_ContainsRune_ascii (⟨#[32, 9, 13]⟩ : ByteArray) (x : Int) w (by omega) (by omega)).mono ?_
    rintro e w' ⟨rfl, rfl⟩
    refine ⟨?_, Below.refl _ _⟩
    rw [Int.toNat_natCast]
    exact congrArg (fun b => Ending.returned (.bool b)) (white_low x h)
  · have HI := Lib.hid (fun W => idx_none x (by omega) W)
    rw [whR_big (show 128 ≤ x by omega)]
    clear h
    go_enter Tryz.func105, Tryz.ntmps105
    go_wp2_with (go_at_call 109; ((with_reducible refine (HI.out _).mono ?_); rintro e w1 ⟨rfl, b1⟩))
    go_ret
    exact ⟨rfl, b1⟩
/-- The closure that tells white space. -/
theorem among_pays (B : Nat) (w : World) (hB : Boxed w B 9 (.string (⟨#[32, 9, 13]⟩ : ByteArray))) : PredGrows Tryz.prog 104 #[.pointer (some ⟨B, 0, none⟩)] whR w := by
  intro W x hx hb
  have hc := (boxed_below hB hb).cell
  have HC := Lib.hid (fun W => contains_white x W)
  clear hb hB hx
  show Calls Tryz.prog 104 #[.int .i32 x, .pointer (some ⟨B, 0, none⟩)] W _
  go_enter Tryz.func104, Tryz.ntmps104
  go_wp2_with (go_at_call 105; ((with_reducible refine (HC.out _).mono ?_); rintro e w1 ⟨rfl, b1⟩))
  go_ret
  exact ⟨rfl, b1⟩
theorem among_call (s : ByteArray) (w : World) : Calls Tryz.prog 87 #[.string s] w fun e w' => e = .returned (.func (.func 104) #[] #[.pointer (some ⟨w.heap.size, 0, none⟩)]) ∧ w' = w.alloc (.cells #[.string s] 9) := by
  go_enter Tryz.func87, Tryz.ntmps87
  go_wp2
  go_ret
  exact ⟨rfl, rfl⟩
theorem trim_in (l : List UInt8) (hl : l.length ≤ maxLen) (w : World) (hG : G12 w) : Calls Tryz.prog 66 #[.string (bs l)] w fun e w' => e = .returned (.string (bs (trimL l))) ∧ Below w.heap.size w w' := by
  have HA := Lib.hid (fun W => among_call (⟨#[32, 9, 13]⟩ : ByteArray) W)
  have eg : ∀ args w, (callFunc 104 args).run Tryz.prog w = .ok (.enter 104 args) w := enters_of Tryz.func104 (by kernel_rfl) rfl
  have HT := Lib.hid (Tryz.strings_TrimFunc_grows 104 _ eg whR (bs l) (w.alloc (.cells #[.string (⟨#[32, 9, 13]⟩ : ByteArray)] 9)) (by rw [bs_size]; unfold maxLen at hl; omega) (G12_on hG (ball w _)) (among_pays w.heap.size _ (Boxed.new w _ _)))
  rw [trim_is] at HT
  have HB := Lib.hid (ball w (.cells #[.string (⟨#[32, 9, 13]⟩ : ByteArray)] 9))
  clear hl hG eg
  go_enter Tryz.func66, Tryz.ntmps66
  go_wp2_with (first
    | (go_at_call 87; ((with_reducible refine (HA.out _).mono ?_); rintro e w1 ⟨rfl, rfl⟩))
    | (go_at_call 86; ((with_reducible refine (HT.out).mono ?_); rintro e w2 ⟨rfl, b2⟩)))
  go_ret
  exact ⟨rfl, th2 HB.out b2⟩
theorem bs_nil_is (l : List UInt8) (h : l = []) : bs l = ⟨#[]⟩ := by rw [h]; rfl
theorem com_in (l : List UInt8) (hl : l.length ≤ maxLen) (w : World) (hG : G12 w) : Calls Tryz.prog 69 #[.string (bs l)] w fun e w' => e = .returned (.bool (comL l)) ∧ Below w.heap.size w w' := by
  have HA := Lib.hid (fun W => among_call (⟨#[32, 9, 13]⟩ : ByteArray) W)
  have eg : ∀ args w, (callFunc 104 args).run Tryz.prog w = .ok (.enter 104 args) w := enters_of Tryz.func104 (by kernel_rfl) rfl
  have HT := Lib.hid (Tryz.strings_TrimLeftFunc_grows 104 _ eg whR (bs l) (w.alloc (.cells #[.string (⟨#[32, 9, 13]⟩ : ByteArray)] 9)) (among_pays w.heap.size _ (Boxed.new w _ _)))
  rw [left_is] at HT
  have HB := Lib.hid (ball w (.cells #[.string (⟨#[32, 9, 13]⟩ : ByteArray)] 9))
  rw [com_rest l]
  clear hl hG eg
  obtain ⟨r, hr⟩ : ∃ r, r = l.dropWhile blkB := ⟨_, rfl⟩
  rw [← hr] at HT ⊢
  clear hr
  cases r with
  | nil =>
    have e0 : (bs []).toList.isEmpty = true := by rw [bs_toList]; rfl
    have e1 : bs [] = ⟨#[]⟩ := rfl
    rw [e1] at HT
    go_enter Tryz.func69, Tryz.ntmps69
    go_wp2_with (first
      | (go_at_call 87; ((with_reducible refine (HA.out _).mono ?_); rintro e w1 ⟨rfl, rfl⟩))
      | (go_at_call 88; ((with_reducible refine (HT.out).mono ?_); rintro e w2 ⟨rfl, b2⟩)))
    go_ret
    exact ⟨rfl, th2 HB.out b2⟩
  | cons c r =>
    obtain ⟨S, hS⟩ : ∃ S, S = bs (c :: r) := ⟨_, rfl⟩
    have e0 : S.toList.isEmpty = false := by rw [hS, bs_toList]; rfl
    have e1 : (S.toList == []) = false := by rw [hS, bs_toList]; rfl
    have e2 : S.toList ≠ [] := by rw [hS, bs_toList]; simp
    have hz : 0 < S.size := by rw [hS, bs_size]; simp
    obtain ⟨y, hy⟩ : ∃ y : Int, y = (c.toNat : Int) := ⟨_, rfl⟩
    have hidx : ((S[0]'hz).toNat : Int) = y := by subst hS; rw [bs_get, hy]; rfl
    have hz1 : (0 : Int) < S.size := by omega
    have HI := Lib.hid (fun W => indexB_call [35, 59] c W)
    rw [← hy, show bs [35, 59] = ⟨#[35, 59]⟩ from rfl] at HI
    obtain ⟨I, hI⟩ : ∃ I, I = Lib.indexByte [35, 59] c := ⟨_, rfl⟩
    rw [← hI] at HI
    show Calls _ _ _ _ fun e w' => e = .returned (.bool (decide (0 ≤ Lib.indexByte [35, 59] c))) ∧ _
    rw [← hI]
    rw [← hS] at HT
    clear hI hy hS
    go_enter Tryz.func69, Tryz.ntmps69
    go_wp2_with (first
      | (go_at_call 87; ((with_reducible refine (HA.out _).mono ?_); rintro e w1 ⟨rfl, rfl⟩))
      | (go_at_call 88; ((with_reducible refine (HT.out).mono ?_); rintro e w2 ⟨rfl, b2⟩))
      | (go_at_call 89; ((with_reducible refine (HI.out _).mono ?_); rintro e w3 ⟨rfl, rfl⟩)))
    go_ret
    exact ⟨rfl, th2 HB.out b2⟩
/-- What the landed Trim and Comment return. -/
theorem trim12 (s : ByteArray) (w : World) (hG : G12 w) (hs : s.size ≤ maxLen) : Calls Tryz.prog 66 #[.string s] w fun e w' => e = .returned (.string (bs (trimL s.data.toList))) ∧ Below w.heap.size w w' := by
  have := trim_in s.data.toList (by rw [← Lib.size_eq]; exact hs) w hG
  rwa [bs_self] at this
theorem com12 (s : ByteArray) (w : World) (hG : G12 w) (hs : s.size ≤ maxLen) : Calls Tryz.prog 69 #[.string s] w fun e w' => e = .returned (.bool (comL s.data.toList)) ∧ Below w.heap.size w w' := by
  have := com_in s.data.toList (by rw [← Lib.size_eq]; exact hs) w hG
  rwa [bs_self] at this
end Go.Proofs.YtgigdhincpcdbaaGreatDoor
namespace Go.Proofs.YtgigdhincpcdbaaGreatDoor
open Go.RowKit Go.Shelf
set_option linter.unusedVariables false
set_option linter.unusedSimpArgs false
attribute [local go_sem] Oper.semAt_some

/-- The types of the boxes that the iterator makes. -/
def TyN (t : TypeId) : Prop := t = 3 ∨ t = 9 ∨ t = 123
/-- Lines with their numbers. -/
def pairV (l : List (List UInt8)) : List (Value × Value) := l.mapIdx fun k s => (.int .i64 ((k : Int) + 1), .string (bs s))
theorem pairV_len (l : List (List UInt8)) : (pairV l).length = l.length := by simp [pairV]
theorem pairV_at {l : List (List UInt8)} {k : Nat} {x : Value × Value} (h : (pairV l)[k]? = some x) : ∃ s, l[k]? = some s ∧ x = (.int .i64 ((k : Int) + 1), .string (bs s)) := by
  unfold pairV at h
  rw [List.getElem?_mapIdx] at h
  cases hx : l[k]? with
  | none => rw [hx] at h; cases h
  | some s => rw [hx] at h; injection h with h; exact ⟨s, rfl, h.symm⟩
theorem pairV_get {l : List (List UInt8)} {k : Nat} {s : List UInt8} (h : l[k]? = some s) : (pairV l)[k]? = some (.int .i64 ((k : Int) + 1), .string (bs s)) := by
  unfold pairV
  rw [List.getElem?_mapIdx, h]; rfl
theorem rdb_cells {w : World} {p : Option Addr} {l : List UInt8} (h : RdB w w.heap.size p l) {a : Addr} (ha : p = some a) : ∀ j (hj : j < l.length), w.cell? (a.add j) = some (.int .u8 (l[j].toNat : Int)) := fun j hj => by
  obtain ⟨b, o, e, _, hc⟩ := h (by omega)
  rw [ha] at e
  injection e with e
  subst e
  rw [Addr.add_lit]; exact hc j hj
/-- The string of bytes, within a fence. -/
theorem wpListIn_str12 {F : Fence} {m : Nat} {ops : Array Oper} {rest : List Oper} {op : Oper} {A : Operand} {a : Act} {w : World} {Q : Exit → Act → World → Prop} {l : List UInt8} {p : Option Addr} {n cap : Nat} (hg : op.guard = none) (ho : op.op = .convert 22 9 A)
    (hA : a.eval A = .slice p n cap) (hn : l.length = n) (hr : RdB w w.heap.size p l)
    (h : wpListIn F m Tryz.prog ops Q rest (a.put op.dst (.string (bs l))) w) : wpListIn F m Tryz.prog ops Q (op :: rest) a w := by
  refine wpListIn_plain hg fun K hK' => ?_
  have hr : (execOp a.eval op).run Tryz.prog w = .ok (.value (.string (bs l))) w := by
    subst hn
    unfold execOp
    rw [ho]
    cases p with
    | none =>
      have hl0 : l = [] := by
        cases l with
        | nil => rfl
        | cons c r => obtain ⟨b, o, e, _⟩ := hr (by simp); cases e
      subst hl0
      have := run_convert_bytes_nil (P := Tryz.prog) w 22 5 Tryz.underlying22 Tryz.underlying5 0 cap 9 Tryz.underlying9
      simp [hA, this]
      rfl
    | some ad =>
      have := run_convert_bytes_back (P := Tryz.prog) w 22 9 5 ad cap l Tryz.underlying22 Tryz.underlying5 Tryz.underlying9 (rdb_cells hr rfl)
      simp [hA, this]
      rfl
  refine ⟨?_, ?_⟩
  · simp [Oper.about, ho]
  · rw [Oper.semAt_plain F _ _ (by rw [ho]; intro c hc'; cases hc'), hr]
    exact hK' _ _ h
theorem tq2 {a : Act} {k : Nat} {v : Value} (h : a.tmps.getD k undef = v) : a.tmps[k]?.getD undef = v := by rw [← h, Array.getD_eq_getD_getElem?]
theorem op_yield2 {F : Fence} {n : Nat} {P : Program} {o : Oper} {a : Act} {w : World} {K : Act → World → Prop} {Q : Exit → Act → World → Prop} {v : Value} (hd : ∀ c, o.op ≠ .defer c) (hc : ∀ c, o.op ≠ .call c) (h : (execOp a.eval o).run P w = .ok (.value v) w) (hK : K (a.put o.dst v) w) : o.wpIn F n P a w K Q := by
  refine ⟨fun f hf => ?_, ?_⟩
  · unfold Oper.about at hf
    split at hf
    · rename_i c hx; exact absurd hx (hc c)
    · cases hf
  · rw [Oper.semAt_plain F _ _ hd, h]; exact hK
theorem round_in2 {m m' lp : Nat} {P : Program} {l : Nat} {f : FuncId} {tmps : Array Value} {assign body : Code} {w : World} {R : Ending → World → Prop} (h : RoundIn Fence.wide m P l f tmps assign body w R) : RoundIn (Fence.wide.inRound lp) m' P l f tmps assign body w R :=
  ⟨h.1, fun c cs _ => h.2 c cs (fun d hd => by cases hd)⟩
theorem numbered_call (a0 : Option Addr) (n cap : Nat) (w : World) : Calls Tryz.prog 64 #[.slice a0 n cap] w fun e w' => e = .returned (.func (.func 83) #[] #[.pointer (some ⟨w.heap.size, 0, none⟩)]) ∧ w' = w.alloc (.cells #[.slice a0 n cap] 22) := by
  refine (callsIn_wide (n := 4)).1 ?_
  refine callsIn_of_wp Tryz.func64 rfl trivial ?_ rfl
  simp only [Tryz.ntmps64, List.size_toArray, List.length_cons, List.length_nil, Nat.reduceAdd, Nat.reduceSub, Array.replicate_succ, Array.replicate_zero, List.push_toArray, List.append_toArray, List.nil_append, List.cons_append]
  gi_wp2
  refine bodyPost_ret (v := .func (.func 83) #[] #[.pointer (some ⟨w.heap.size, 0, none⟩)]) (by simp [results, Tryz.results64, go_sem]) rfl ⟨rfl, rfl⟩
theorem boxed_set {V : World} {z b : Nat} {t : TypeId} {v u : Value} (h : Boxed V b t v) (hne : b ≠ z) : Boxed (V.setCell ⟨z, 0, none⟩ u) b t v := (heap_setCell_other V ⟨z, 0, none⟩ b _ hne).trans h
set_option maxRecDepth 100000 in
set_option maxHeartbeats 8000000 in
theorem numbered_gives (z : Nat) (a0 : Option Addr) (n cap : Nat) (s : List UInt8) (w0 : World) (hz : Boxed w0 z 22 (.slice a0 n cap)) (hl : s.length = n) (hn : n ≤ 140737488355328) (hR : RdB w0 w0.heap.size a0 s) :
    GivesP Tryz.prog 83 #[.pointer (some ⟨z, 0, none⟩)] TyN (pairV (linL s)) w0 := by
  intro l J Jx W hW hJ hJx hZ hY hj0
  have hzw := (Array.getElem?_eq_some_iff.1 hz).1
  have hzW : z < W.heap.size := Nat.lt_of_lt_of_le hzw hW.size
  have c0 := (show Boxed W z 22 (.slice a0 n cap) from (hW.block z hzw).trans hz).cell
  have HR := Lib.hid (hR.on hW)
  have HJ := Lib.hid hJ
  have HJX := Lib.hid hJx
  have HY := Lib.hid hY
  have HZ := Lib.hid hZ
  have HJ0 := Lib.hid hj0
  have HL := Lib.hid hl
  have HLC := Lib.hid (fun W => linesS_call (bs s) W)
  have HLG := Lib.hid (fun z W (hz : Boxed W z 9 (.string (bs s))) => linesS_gives z s (by omega) W hz)
  have HLE := Lib.hid (fun x (h : x ∈ cutsL s) => show x.length ≤ 140737488355328 from Nat.le_trans (cuts_le h) (by omega))
  obtain ⟨ls, hls⟩ : ∃ ls, ls = cutsL s := ⟨_, rfl⟩
  obtain ⟨xs, hxs⟩ : ∃ xs, xs = pairV (linL s) := ⟨_, rfl⟩
  have HXL := Lib.hid (show xs.length = ls.length by rw [hxs, pairV_len, linL_cuts, List.length_map, hls])
  have HXG := Lib.hid (fun (k : Nat) t (h : ls[k]? = some t) => show xs[k]? = some (Value.int .i64 ((k : Int) + 1), Value.string (bs (Lib.trimSuffix t [10]))) from by
    rw [hxs]
    refine pairV_get ?_
    rw [linL_cuts, List.getElem?_map, ← hls, h]; rfl)
  have HLL := Lib.hid (show ls.length ≤ 140737488355328 by
    have h1 := linL_len s
    rw [linL_cuts, List.length_map, ← hls] at h1
    omega)
  rw [← hls] at HLG HLE
  rw [← hxs] at HY ⊢
  clear hW hJ hJx hZ hY hj0 hz hzw hR hl hn hls hxs
  refine (callsIn_wide (n := 4)).1 ?_
  refine callsIn_of_wp_marks Tryz.func83 rfl trivial ?_ rfl
  simp only [Tryz.ntmps83, List.size_toArray, List.length_cons, List.length_nil, Nat.reduceAdd, Nat.reduceSub, Array.replicate_succ, Array.replicate_zero, List.push_toArray, List.append_toArray, List.nil_append, List.cons_append]
  gi_wp2_with (first
    | ((with_reducible show wpListIn _ _ _ _ _ (⟨some 6, _, _, _, _, _⟩ :: _) _ _)
       refine wpListIn_str12 (l := s) rfl rfl rfl HL.out ((HR.out.on (ball W _)).on (ball _ _)) ?_)
    | (refine ⟨trivial, ?_⟩
       gi_at_call 84
       refine (callsIn_wide.2 (HLC.out _)).mono ?_
       rintro e w2 ⟨rfl, rfl⟩))
  obtain ⟨W0, hW0⟩ : ∃ W0, W0 = ((W.alloc (.cells #[.func (.yield l) #[] #[]] 123)).alloc (.cells #[.int .i64 0] 3)).alloc (.cells #[.string (bs s)] 9) := ⟨_, rfl⟩
  have z0 : W0.heap.size = W.heap.size + 3 := by rw [hW0]; simp
  have B0 : Below W.heap.size W W0 := by rw [hW0]; exact (((Below.refl _ _).alloc (Nat.le_refl _) _).alloc (by simp) _).alloc (by simp; omega) _
  have x0 : Boxed W0 W.heap.size 123 (.func (.yield l) #[] #[]) := by rw [hW0]; exact ((Boxed.new W _ _).alloc _).alloc _
  have x1 : Boxed W0 (W.heap.size + 1) 3 (.int .i64 ((0 : Nat) : Int)) := by
    have h := Boxed.new (W.alloc (.cells #[.func (.yield l) #[] #[]] 123)) 3 (.int .i64 0)
    rw [World.size_alloc] at h
    rw [hW0]; exact h.alloc _
  have x2 : Boxed W0 (W.heap.size + 2) 9 (.string (bs s)) := by
    have h := Boxed.new ((W.alloc (.cells #[.func (.yield l) #[] #[]] 123)).alloc (.cells #[.int .i64 0] 3)) 9 (.string (bs s))
    rw [World.size_alloc, World.size_alloc] at h
    rw [hW0]; exact h
  rw [← hW0]
  have hg := HLG.out _ _ x2
  have j0 : J 0 W0 := ownOn HJ.out HJ0.out B0
  clear hW0 HLC HLG B0
  refine wp_givesK (w0 := W0) (gf := 101) (lb := #[.pointer (some ⟨W.heap.size + 2, 0, none⟩)]) (Kp := KeepZ (W.heap.size + 2)) (Z := (· = W.heap.size + 2)) (xs := strV ls)
    rfl (enters_of Tryz.func101 (by kernel_rfl) rfl) hg (Below.refl _ _) (keepZ_rel _ _ (by omega))
    (fun k V => J k V ∧ Boxed V W.heap.size 123 (.func (.yield l) #[] #[]) ∧ Boxed V (W.heap.size + 1) 3 (.int .i64 ((k : Nat) : Int)) ∧ ∃ v, Boxed V (W.heap.size + 2) 9 v)
    (fun _ V => ∃ q, Jx q V)
    (fun k A C row ⟨h1, h2, h3, v, h4⟩ hg hr => ⟨HJ.out k A C row h1 hg (fun r e => ⟨by have := (hr r e).1; omega, (hr r e).2⟩), boxed_grown h2 hg (fun r e => (hr r e).2), boxed_grown h3 hg (fun r e => (hr r e).2), v, boxed_grown h4 hg (fun r e => (hr r e).2)⟩)
    (fun k A C row ⟨q, h⟩ hg hr => ⟨q, HJX.out q A C row h hg (fun r e => ⟨by have := (hr r e).1; omega, (hr r e).2⟩)⟩)
    (fun z h => by omega)
    (fun k z V v hz ⟨h1, h2, h3, u, h4⟩ => by
      subst hz
      exact ⟨HZ.out k _ V v _ _ _ (by omega) h4 (.inr (.inl rfl)) h1, boxed_set h2 (by omega), boxed_set h3 (by omega), v, h4.set v⟩)
    ⟨j0, x0, x1, _, x2⟩ ?after ?assign ?body ?done ?stop
  case assign =>
    intro lp x V K hK
    gi_wp2
    exact hK
  case body =>
    rintro lp k x V hx ⟨h1, h2, h3, v4, h4⟩ hz
    obtain ⟨t, ht, rfl⟩ := strV_at hx
    have htl := HLE.out t (List.mem_of_getElem? ht)
    have hxk := HXG.out k t ht
    have HT := Lib.hid (fun W => trimS_call t htl W)
    have hkl : k < ls.length := (List.getElem?_eq_some_iff.1 ht).1
    have hk47 := HLL.out
    obtain ⟨u, hu⟩ : ∃ u, u = Lib.trimSuffix t [10] := ⟨_, rfl⟩
    rw [← hu] at HT hxk
    have w1 : IntKind.i64.wrap ((k : Int) + 1) = k + 1 := IntWalk.i64_in _ (by omega)
    have c3 := h3.cell
    have f3 := h3.frozen
    have HX := Lib.hid hxk
    have H1 := Lib.hid h1
    have H2 := Lib.hid h2
    have H3 := Lib.hid h3
    have H4 := Lib.hid h4
    clear hx ht hkl hk47 hu hxk htl h1 h2 h3 h4 hg x0 x1 x2 j0
    gi_wp2
    rename_i KK hKK
    obtain ⟨V1, hV1⟩ : ∃ V1, V1 = V.setCell ⟨W.heap.size + 1, 0, none⟩ (.int .i64 ((k : Int) + 1)) := ⟨_, rfl⟩
    have j1 : J k V1 := by rw [hV1]; exact HZ.out k _ V _ _ _ _ (by omega) H3.out (.inl rfl) H1.out
    have y0 : Boxed V1 W.heap.size 123 (.func (.yield l) #[] #[]) := by rw [hV1]; exact boxed_set H2.out (by omega)
    have y1 : Boxed V1 (W.heap.size + 1) 3 (.int .i64 ((k : Int) + 1)) := by rw [hV1]; exact H3.out.set _
    have y2 : Boxed V1 (W.heap.size + 2) 9 v4 := by rw [hV1]; exact boxed_set H4.out (by omega)
    have k1 : KeepsOthers V V1 := by rw [hV1]; exact KeepsOthers.setCell _ _ _
    have zV : V1.heap.size = V.heap.size := by rw [hV1]; simp
    rw [← hV1]
    clear hV1
    refine region_last2 (by kernel_rfl) 4 (fun k => 11 + k) (by kernel_rfl) (fun i j h => by omega) (fun k hk => by simp; omega) (fun q => match q with | 0 => .func (.yield l) #[] #[] | 1 => .int .i64 ((k : Int) + 1) | 2 => .string (bs t) | 3 => .string (bs u) | _ => undef) (Below V1.heap.size V1) (Below.refl _ _).drew ?op ?last
    case op =>
      intro q oo hq ho a' w' hw hfr hdp K hK
      have e2 : a'.tmps[2]?.getD undef = .pointer (some ⟨W.heap.size, 0, none⟩) := tq2 <| hfr 2 (fun j _ => by omega)
      have e3 : a'.tmps[3]?.getD undef = .pointer (some ⟨W.heap.size + 1, 0, none⟩) := tq2 <| hfr 3 (fun j _ => by omega)
      have e4 : a'.tmps[4]?.getD undef = .string (bs t) := tq2 <| hfr 4 (fun j _ => by omega)
      have d0 := (boxed_below y0 hw).cell
      have d1 := (boxed_below y1 hw).cell
      have hcase : q = 0 ∨ q = 1 ∨ q = 2 ∨ q = 3 := by omega
      rcases hcase with rfl | rfl | rfl | rfl
      · cases ho
        refine op_yield2 (fun c h => by cases h) (fun c h => by cases h) ?_ (hK w' hw)
        go_simp
      · cases ho
        refine op_yield2 (fun c h => by cases h) (fun c h => by cases h) ?_ (hK w' hw)
        go_simp
      · cases ho
        refine op_yield2 (fun c h => by cases h) (fun c h => by cases h) ?_ (hK w' hw)
        go_simp
      · cases ho
        have g2 : a'.tmps[13]?.getD undef = .string (bs t) := tq2 <| hdp ⟨2, .data⟩ (by simp) rfl
        go_simp
        refine ⟨trivial, (CallsIn.inRound lp (callsIn_wide.2 (HT.out w'))).mono ?_⟩
        rintro e w'' ⟨rfl, rfl⟩
        exact hK _ hw
    case last =>
      intro oo o2 ho ho2 a' w' hw hfr hv hsz K hK
      cases ho
      cases ho2
      have g0 : a'.tmps[11]?.getD undef = .func (.yield l) #[] #[] := tq2 <| hv 0 (by omega)
      have g1 : a'.tmps[12]?.getD undef = .int .i64 ((k : Int) + 1) := tq2 <| hv 1 (by omega)
      have g3 : a'.tmps[14]?.getD undef = .string (bs u) := tq2 <| hv 3 (by omega)
      have HSZ := Lib.hid (show a'.tmps.size = 17 from hsz)
      clear hsz
      have z1 := hw.size
      obtain ⟨fn, tmps, assign, body, hy, hR⟩ := HY.out k _ w' HX.out (ownOn HJ.out j1 hw) (by omega)
      have kf : KeepsOthers V w' := k1.trans (KeepsOthers.of_grownBy (grownNone hw) (by intro j o e; cases e))
      have b0 := boxed_below y0 hw
      have b1 := boxed_below y1 hw
      have b2 := boxed_below y2 hw
      go_simp
      refine (round_in2 hR).mono ?_
      rintro e V' ⟨hkf, ⟨rfl, hJ3, hk3⟩ | ⟨rfl, hJx3⟩⟩
      · refine hK _ _ fun K2 hK2 => ?_
        refine op_yield2 (v := .bool false) (fun c h => by cases h) (fun c h => by cases h) ?_ (hK2 _ _ (hKK _ _ ?_))
        · have h15 : 15 < a'.tmps.size := by rw [HSZ.out]; omega
          go_simp
        · have e16 : ((a'.put (some 15) (.bool true)).put (some 16) (.bool false)).tmps.getD 16 undef = .bool false := (put_same (by rw [put_size, HSZ.out]; omega))
          show Code.wpIn _ _ _ _ _ ((a'.put (some 15) (.bool true)).put (some 16) (.bool false)) _
          obtain ⟨a3, ha3⟩ : ∃ a3, a3 = (a'.put (some 15) (.bool true)).put (some 16) (.bool false) := ⟨_, rfl⟩
          rw [← ha3] at e16 ⊢
          clear ha3
          refine wpIn_cond_false (show a3.eval (.tmp 16) = _ from e16) (wpIn_skip ?_)
          show KeepsFrom _ _ _ ∧ KeepZ _ _ _ ∧ _ ∧ _ ∧ _ ∧ _
          refine ⟨(kf.from _).trans (keepsUp hkf (by omega)), ⟨Nat.le_trans kf.size hkf.size, fun o ho => ?_⟩, hJ3, keepY_box hk3 (Nat.le_refl _) (.inr (.inr rfl)) b0, keepY_box hk3 (Nat.le_succ _) (.inl rfl) b1, v4, keepY_box hk3 (by omega) (.inr (.inl rfl)) b2⟩
          rw [show V.heap[W.heap.size + 2]? = _ from H4.out] at ho
          injection ho with ho
          rw [← ho]
          exact keepY_box hk3 (by omega) (.inr (.inl rfl)) b2
      · refine hK _ _ fun K2 hK2 => ?_
        refine op_yield2 (v := .bool true) (fun c h => by cases h) (fun c h => by cases h) ?_ (hK2 _ _ (hKK _ _ ?_))
        · have h15 : 15 < a'.tmps.size := by rw [HSZ.out]; omega
          go_simp
        · have e16 : ((a'.put (some 15) (.bool false)).put (some 16) (.bool true)).tmps.getD 16 undef = .bool true := (put_same (by rw [put_size, HSZ.out]; omega))
          show Code.wpIn _ _ _ _ _ ((a'.put (some 15) (.bool false)).put (some 16) (.bool true)) _
          obtain ⟨a3, ha3⟩ : ∃ a3, a3 = (a'.put (some 15) (.bool false)).put (some 16) (.bool true) := ⟨_, rfl⟩
          rw [← ha3] at e16 ⊢
          clear ha3
          refine wpIn_cond_true (show a3.eval (.tmp 16) = _ from e16) (wpIn_ret ?_)
          show KeepsFrom _ _ _ ∧ ∃ q, _
          exact ⟨(kf.from _).trans (keepsUp hkf (by omega)), _, hJx3⟩
  case done =>
    rintro V ⟨h1, _, _, _⟩ hK
    rw [strV_len, ← HXL.out] at h1
    gi_wp2
    refine ⟨by simp, .inl ⟨_, _, rfl, run_takeDeferred hK, ?_⟩⟩
    exact ⟨_, results_none rfl _ _ _, ⟨_, rfl⟩, .inl (HJ.out.putObj _ h1 (by omega) hK rfl)⟩
  case stop =>
    rintro k V ⟨q, h⟩ hK
    gi_wp2
    refine ⟨by simp, .inl ⟨_, _, rfl, run_takeDeferred hK, ?_⟩⟩
    exact ⟨_, results_none rfl _ _ _, ⟨_, rfl⟩, .inr ⟨q, HJX.out.putObj _ h (by omega) hK rfl⟩⟩
end Go.Proofs.YtgigdhincpcdbaaGreatDoor
namespace Go.Proofs.YtgigdhincpcdbaaGreatDoor
open Go.RowKit Go.Shelf
set_option linter.unusedVariables false
set_option linter.unusedSimpArgs false
attribute [local go_sem] Oper.semAt_some

theorem keepY_set {Ty : TypeId → Prop} {B z : Nat} (V : World) (u : Value) (h : z < B) : KeepY Ty B V (V.setCell ⟨z, 0, none⟩ u) :=
  ⟨by simp, fun k c t fz hk hc _ => (heap_setCell_other V ⟨z, 0, none⟩ k _ (show k ≠ z by omega)).trans hc⟩
set_option maxRecDepth 100000 in
set_option maxHeartbeats 8000000 in
theorem count12 (a0 : Option Addr) (n cap : Nat) (l : List UInt8) (w : World) (hl : l.length = n) (hn : n ≤ 140737488355328) (hR : RdB w w.heap.size a0 l) :
    Calls Tryz.prog 46 #[.slice a0 n cap] w fun e w' => e = .returned (.int .i64 ((linL l).length : Nat)) ∧ Below w.heap.size w w' := by
  have HNC := Lib.hid (fun W => numbered_call a0 n cap W)
  have HNG := Lib.hid (fun z W0 (hz : Boxed W0 z 22 (.slice a0 n cap)) (b : Below w.heap.size w W0) => numbered_gives z a0 n cap l W0 hz hl hn (hR.on b))
  obtain ⟨ls, hls⟩ : ∃ ls, ls = linL l := ⟨_, rfl⟩
  rw [← hls] at HNG ⊢
  clear hl hn hR hls
  refine (callsIn_wide (n := 4)).1 ?_
  refine callsIn_of_wp_marks Tryz.func46 rfl trivial ?_ rfl
  simp only [Tryz.ntmps46, List.size_toArray, List.length_cons, List.length_nil, Nat.reduceAdd, Nat.reduceSub, Array.replicate_succ, Array.replicate_zero, List.push_toArray, List.append_toArray, List.nil_append, List.cons_append]
  gi_wp2_with (first
    | (refine ⟨trivial, ?_⟩
       gi_at_call 64
       refine (callsIn_wide.2 (HNC.out _)).mono ?_
       rintro e w2 ⟨rfl, rfl⟩))
  obtain ⟨W0, hW0⟩ : ∃ W0, W0 = (w.alloc (.cells #[.int .i64 0] 3)).alloc (.cells #[.slice a0 n cap] 22) := ⟨_, rfl⟩
  have z0 : W0.heap.size = w.heap.size + 2 := by rw [hW0]; simp
  have B0 : Below w.heap.size w W0 := by rw [hW0]; exact ((Below.refl _ _).alloc (Nat.le_refl _) _).alloc (by simp) _
  have x0 : Boxed W0 w.heap.size 3 (.int .i64 ((0 : Nat) : Int)) := by rw [hW0]; exact (Boxed.new w _ _).alloc _
  have x1 : Boxed W0 (w.heap.size + 1) 22 (.slice a0 n cap) := by
    have h := Boxed.new (w.alloc (.cells #[.int .i64 0] 3)) 22 (.slice a0 n cap)
    rw [World.size_alloc] at h
    rw [hW0]; exact h
  rw [← hW0]
  have hg := HNG.out _ _ x1 B0
  clear hW0 HNC HNG x1
  refine wp_givesP (w0 := W0) (gf := 83) (lb := #[.pointer (some ⟨w.heap.size + 1, 0, none⟩)]) (Ty := TyN) (xs := pairV ls)
    rfl (enters_of Tryz.func83 (by kernel_rfl) rfl) hg (Below.refl _ _)
    (fun k V => Boxed V w.heap.size 3 (.int .i64 ((k : Nat) : Int)) ∧ Below w.heap.size w V) (fun _ _ => False)
    (fun k A C row ⟨h1, h2⟩ hg hr => ⟨boxed_grown h1 hg (fun r e => (hr r e).2), h2.grown hg h2.size (fun k e => by have := (hr k e).1; omega)⟩)
    (fun _ _ _ _ h _ _ => h)
    (fun k z V v c t fz hz hc ht ⟨h1, h2⟩ => ⟨boxed_set h1 (by omega), h2.setCell (p := ⟨z, 0, none⟩) (by show w.heap.size ≤ z; omega) v⟩)
    ⟨x0, B0⟩ ?after ?assign ?body ?done ?stop
  case assign =>
    intro lp x V K hK
    gi_wp2
    exact hK
  case body =>
    rintro lp k x V hx ⟨h1, h2⟩ hz
    obtain ⟨s, hs, rfl⟩ := pairV_at hx
    have c1 := h1.cell
    have f1 := h1.frozen
    have H1 := Lib.hid h1
    have H2 := Lib.hid h2
    clear hx hs h1 h2 hg x0
    gi_wp2
    exact ⟨(KeepsOthers.setCell _ _ _).from _, keepY_set _ _ (by omega), H1.out.set _, H2.out.setCell (p := ⟨w.heap.size, 0, none⟩) (Nat.le_refl _) _⟩
  case done =>
    rintro V ⟨h1, h2⟩ hK
    rw [pairV_len] at h1
    have c1 := h1.cell
    have HK := Lib.hid hK
    clear hg x0 h1 hK
    gi_wp2
    refine ⟨by simp, .inl ⟨_, _, rfl, run_takeDeferred HK.out, ?_⟩⟩
    exact ⟨_, results_tmp rfl _ _ _, rfl, h2.grown (grownBy_putObj' _ _ _) h2.size (fun k e => by cases e; omega)⟩
  case stop =>
    rintro k V h _
    exact h.elim
end Go.Proofs.YtgigdhincpcdbaaGreatDoor
