/- The landed fold's reading of a word: its entry, its calls, what is to be noted. Condition: names' tables lie in their variables. -/
import Derived.Test.YtickkaeaaemakaaGreatDoorF6
import Derived.Test.YtickkaeaaemakaaGreatDoorG7
import Derived.Test.YtickkaeaaemakaaGreatDoorKr
import Derived.Test.YtickkaeaaemakaaGreatDoorTn
namespace Go.Proofs.YtickkaeaaemakaaGreatDoor
open Go.RowKit Go.Shelf
set_option linter.unusedVariables false
set_option linter.unusedSimpArgs false
attribute [local go_sem ↓] Go.wp_at_zero Go.wp_at_succ

set_option maxRecDepth 100000 in
set_option maxHeartbeats 8000000 in
theorem words_c (s : ByteArray) (w : World) (hs : s.size ≤ 1000000) : Calls Tryz.prog 29 #[.string s] w fun e w' => ∃ q c, e = .returned (.slice q (wdL s.data.toList).length c) ∧ w'.ownsRow w.heap.size 9 1 (.slice q (wdL s.data.toList).length c) (wdL s.data.toList).length (sL (wdL s.data.toList)) ∧ Below w.heap.size w w' := by
  have HA := Lib.hid (fun W => among15 (⟨#[32, 9, 13]⟩ : ByteArray) W)
  have eg : ∀ args w, (callFunc 65 args).run Tryz.prog w = .ok (.enter 65 args) w := enters_of Tryz.func65 (by kernel_rfl) rfl
  have HT := Tryz.strings_FieldsFunc_grows 65 _ eg whR15 s (w.alloc (.cells #[.string (⟨#[32, 9, 13]⟩ : ByteArray)] 9)) (by omega) (among_pays15 w.heap.size _ (Boxed.new w _ _))
  rw [fields_words, List.length_map] at HT
  have HT := Lib.hid HT
  have HB := Lib.hid (ball w (.cells #[.string (⟨#[32, 9, 13]⟩ : ByteArray)] 9))
  obtain ⟨L, hL⟩ : ∃ L, L = wdL s.data.toList := ⟨_, rfl⟩
  rw [← hL] at HT ⊢
  clear hs eg hL
  go_enter Tryz.func29, Tryz.ntmps29
  go_wp2_with (first
    | (go_at_call 49; ((with_reducible refine (HA.out _).mono ?_); rintro e w1 ⟨rfl, rfl⟩))
    | (go_at_call 48; ((with_reducible refine (HT.out).mono ?_); rintro e w2 ⟨A, rfl, hA, ho, b2⟩)))
  go_ret
  exact ⟨_, _, rfl, owns_low16 (by rw [List.map_map] at ho; exact ho) HB.out.size, th2 HB.out b2⟩
theorem head64 (s : ByteArray) : Lib.hasPrefix s.data.toList [64] = decide (s.data.toList.head? = some 64) := by
  cases h : s.data.toList with
  | nil => rfl
  | cons c r =>
    show (64 == c && List.isPrefixOf [] r) = _
    rw [List.head?_cons]
    by_cases e : c = 64
    · subst e; rfl
    · rw [decide_eq_false (fun h => e (Option.some.inj h)), show (64 == c) = false from beq_eq_false_iff_ne.2 (fun h => e h.symm)]; rfl
/-- New strings that can be read. -/
def NewS (B : Nat) (w : World) (v : Value) (l : List ByteArray) : Prop := StrsAt w v l ∧ ∀ g, v.ownBlock = some g → B ≤ g
set_option maxRecDepth 100000 in
set_option maxHeartbeats 8000000 in
theorem named_c (s : ByteArray) (w : World) : Calls Tryz.prog 53 #[.string s] w fun e w' => ∃ v, e = .returned (.tuple #[v, .int .i64 (namesF knownR grpX s).1]) ∧ NewS w.heap.size w' v (namesF knownR grpX s).2 ∧ Below w.heap.size w w' := by
  have HPF := Lib.hid (fun (W : World) => Tryz.strings_HasPrefix s ⟨#[64]⟩ W)
  rw [show (⟨#[64]⟩ : ByteArray).data.toList = [64] from rfl, head64] at HPF
  have HE := Lib.hid (fun (W : World) => expand_n s W)
  have HK := Lib.hid (fun (W : World) => known9 s W)
  by_cases h : s.data.toList.head? = some 64
  · rw [names_group h]
    rw [decide_eq_true h] at HPF
    clear h HK
    go_enter Tryz.func53, Tryz.ntmps53
    go_wp2_with (first
      | (go_at_call 70; ((with_reducible refine (HPF.out _).mono ?_); rintro e w1 ⟨rfl, hw⟩); subst hw)
      | (go_at_call 71; ((with_reducible refine (HE.out _).mono ?_); rintro e w2 ⟨v, rfl, s2, n2, b2⟩)))
    go_ret2
    exact ⟨v, rfl, ⟨s2, n2⟩, b2⟩
  · rw [decide_eq_false h] at HPF
    cases hk : knownR s with
    | true =>
      rw [names_call h hk]
      rw [hk] at HK
      clear h HE hk
      go_enter Tryz.func53, Tryz.ntmps53
      go_wp2_with (first
        | (go_at_call 70; ((with_reducible refine (HPF.out _).mono ?_); rintro e w1 ⟨rfl, hw⟩); subst hw)
        | (go_at_call 63; ((with_reducible refine (HK.out _).mono ?_); rintro e w2 ⟨rfl, b2⟩)))
      go_ret2
      exact ⟨_, rfl, ⟨⟨_, _, rfl, fun k x hk => ⟨_, _, rfl, by
        cases k with
        | zero => have := Option.some.inj hk; subst this; exact cell_of_row _ _ _ _ _ (0, 0) (heap_alloc_new _ _)
        | succ k => simp at hk⟩⟩, fun g e => by have e2 : w2.heap.size = g := Option.some.inj e; have := b2.size; omega⟩, thn16 b2 (below16 _ _)⟩
    | false =>
      rw [names_none h hk]
      rw [hk] at HK
      clear h HE hk
      go_enter Tryz.func53, Tryz.ntmps53
      go_wp2_with (first
        | (go_at_call 70; ((with_reducible refine (HPF.out _).mono ?_); rintro e w1 ⟨rfl, hw⟩); subst hw)
        | (go_at_call 63; ((with_reducible refine (HK.out _).mono ?_); rintro e w2 ⟨rfl, b2⟩)))
      go_ret2
      exact ⟨_, rfl, ⟨StrsAt.nil _, fun g e => by cases e⟩, b2⟩
theorem newS_ent {B : Nat} {W : World} {v : Value} {l : List ByteArray} {b : Nat} {x y z : Value} (h : NewS (B + 1) W v l) (hb : W.heap[b]? = some (.cells #[x, y, z] 57 (0, 0))) (hB : b ≤ B) (cs : List Value) : NewS B (W.setCells b 0 cs) v l := by
  obtain ⟨⟨q, c, e, hr⟩, hn⟩ := h
  refine ⟨⟨q, c, e, fun k s hk => ?_⟩, fun g hg => by have := hn g hg; omega⟩
  obtain ⟨g, o, e2, hc⟩ := hr k s hk
  subst e2
  have := hn g (by rw [e]; rfl)
  exact ⟨g, o, rfl, (World.cell?_of_block (heap_setCells16 W _ _ (show g ≠ b by omega) _ _)).trans hc⟩
/-- What reading a word comes to: an entry, calls, what is to be noted. -/
def readF (b : Bool) (x : ByteArray) : Ent × List ByteArray × Int :=
  if (rdE x).2 ≠ 0 then (e0, [], (rdE x).2)
  else if (namesF knownR grpX (rdE x).1.nm).1 ≠ 0 then (e0, [], (namesF knownR grpX (rdE x).1.nm).1)
  else if ((rdE x).1.has && !b) = true then (⟨(rdE x).1.nm, 0, false⟩, (namesF knownR grpX (rdE x).1.nm).2, 161)
  else ((rdE x).1, (namesF knownR grpX (rdE x).1.nm).2, 0)
theorem res_three {fn : Func} {tmps : Array Value} {w : World} {t u x : Nat} {ty : TypeId} {p : Addr} {v v2 v3 : Value} (hr : fn.results = #[.cell t ty, .tmp u, .tmp x]) (ha : tmps.getD t undef = .pointer (some p)) (hu : tmps.getD u undef = v2) (hx : tmps.getD x undef = v3) (hl : (loadVar ty p).run Tryz.prog w = .ok v w) : (results fn tmps).run Tryz.prog w = .ok (.tuple #[v, v2, v3]) w := by
  have ha' : tmps[t]?.getD undef = .pointer (some p) := by simpa using ha
  have hu' : tmps[u]?.getD undef = v2 := by simpa using hu
  have hx' : tmps[x]?.getD undef = v3 := by simpa using hx
  simp [results, hr, asAddr, ha', hu', hx', hl]
abbrev ReadL (w w' : World) (e : Ending) (r : Ent × List ByteArray × Int) : Prop := ∃ v, e = .returned (.tuple #[entV r.1, v, .int .i64 r.2.2]) ∧ NewS w.heap.size w' v r.2.1 ∧ Below w.heap.size w w'
set_option maxRecDepth 100000 in
set_option maxHeartbeats 8000000 in
theorem read_c (x : ByteArray) (b : Bool) (w : World) (hG : GN w) (hx : x.size ≤ 1000000) : Calls Tryz.prog 34 #[.string x, .bool b] w fun e w' => ReadL w w' e (readF b x) := by
  unfold ReadL readF
  have HIN := Lib.hid (show (Tryz.prog.info? 57).map (·.size) = some 3 from by kernel_rfl)
  have HRD := Lib.hid (fun (_ : True) => read15 x (w.alloc (.cells #[.string ⟨#[]⟩, .int .u32 0, .bool false] 57)) (hG.on (below16 w _)) hx)
  clear hG hx
  by_cases h1 : (rdE x).2 = 0
  · rw [if_neg (fun h => h h1)]
    rw [h1] at HRD
    have HNA := Lib.hid (fun (V : World) => named_c (rdE x).1.nm V)
    by_cases h2 : (namesF knownR grpX (rdE x).1.nm).1 = 0
    · rw [if_neg (fun h => h h2)]
      rw [h2] at HNA
      obtain ⟨NL, hNL⟩ : ∃ l, l = (namesF knownR grpX (rdE x).1.nm).2 := ⟨_, rfl⟩
      rw [← hNL] at HNA ⊢
      obtain ⟨⟨nm, act, has⟩, hE⟩ : ∃ E, E = (rdE x).1 := ⟨_, rfl⟩
      rw [← hE] at HRD HNA ⊢
      unfold entV at HRD ⊢
      simp only at HRD HNA ⊢
      obtain ⟨ai, hai⟩ : ∃ z : Int, z = (act : Nat) := ⟨_, rfl⟩
      have HAI := Lib.hid hai
      clear h1 h2 hNL hE
      cases has with
      | false =>
        rw [if_neg (by simp)]
        simp only
        rw [← hai] at HRD ⊢
        clear hai
        go_enter Tryz.func34, Tryz.ntmps34
        go_wp2_with (first
          | (go_at_call 52
             ((with_reducible refine (HRD.out trivial).mono ?_); rintro e w1 ⟨rfl, b1⟩)
             have hsz : w.heap.size < w1.heap.size := by have := b1.size; rw [World.size_alloc] at this; omega
             have F0 := Lib.hid (blk_on16 (heap_alloc_new w (.cells #[.string ⟨#[]⟩, .int .u32 0, .bool false] 57)) b1)
             have B1 := Lib.hid (thn16 (below16 w (.cells #[.string ⟨#[]⟩, .int .u32 0, .bool false] 57)) b1)
             skip
             clear b1)
          | (go_at_call 53
             ((with_reducible refine (HNA.out _).mono ?_); rintro e w2 ⟨v2, rfl, n2, b2⟩)
             have F0 := Lib.hid (blk_on16 ((Below.heap_alloc w1 (.cells #[.string nm, .int .u32 ai, .bool false] 57) _ hsz).trans F0.out) b2)
             have B2 := Lib.hid (thn16 (thn16 B1.out (below16 w1 (.cells #[.string nm, .int .u32 ai, .bool false] 57))) b2)
             have NW := Lib.hid (show NewS (w.heap.size + 1) w2 v2 NL from ⟨n2.1, fun g e => by have := n2.2 g e; rw [World.size_alloc] at this; have := B1.out.size; omega⟩)
             have ⟨hl, hb3⟩ := retV F0.out B2.out (Nat.le_refl _) nm ai false
             have C2 := blk_on16 (heap_alloc_new w1 (.cells #[.string nm, .int .u32 ai, .bool false] 57)) b2
             have l0 := (cell_of_row w2 w1.heap.size 0 _ _ (0, 0) C2).trans (show _ = some (Value.string nm) from rfl)
             have l1 := (cell_of_row w2 w1.heap.size 1 _ _ (0, 0) C2).trans (show _ = some (Value.int .u32 ai) from rfl)
             have l2 := (cell_of_row w2 w1.heap.size 2 _ _ (0, 0) C2).trans (show _ = some (Value.bool false) from rfl)
             have NS := Lib.hid (newS_ent NW.out F0.out (Nat.le_refl _) [.string nm, .int .u32 ai, .bool false])
             clear n2 b2)
          | ((with_reducible show wpList _ _ _ (⟨none, .store 57 (.tmp 4) (.tmp 39), _, _, _, _⟩ :: _) _ _)
             refine wpList_store_mid rfl 57 (.tmp 4) (.tmp 39) rfl w.heap.size 0 #[.string nm, .int .u32 ai, .bool false] rfl rfl (thereV F0.out) HIN.out (oneV _ _ _) ?_
             show wpList _ _ _ _ _ (w2.setCells w.heap.size 0 [.string nm, .int .u32 ai, .bool false])
             generalize w2.setCells w.heap.size 0 [.string nm, .int .u32 ai, .bool false] = w3 at hl hb3 NS ⊢))
        exact bodyPost_ret (v := .tuple #[.agg #[.string nm, .int .u32 ai, .bool false], v2, .int .i64 0]) (res_three Tryz.results34 rfl rfl rfl hl) rfl ⟨v2, rfl, NS.out, hb3⟩
      | true =>
        cases b with
        | true =>
          rw [if_neg (by simp)]
          simp only
          rw [← hai] at HRD ⊢
          clear hai
          go_enter Tryz.func34, Tryz.ntmps34
          go_wp2_with (first
            | (go_at_call 52
               ((with_reducible refine (HRD.out trivial).mono ?_); rintro e w1 ⟨rfl, b1⟩)
               have hsz : w.heap.size < w1.heap.size := by have := b1.size; rw [World.size_alloc] at this; omega
               have F0 := Lib.hid (blk_on16 (heap_alloc_new w (.cells #[.string ⟨#[]⟩, .int .u32 0, .bool false] 57)) b1)
               have B1 := Lib.hid (thn16 (below16 w (.cells #[.string ⟨#[]⟩, .int .u32 0, .bool false] 57)) b1)
               skip
               clear b1)
            | (go_at_call 53
               ((with_reducible refine (HNA.out _).mono ?_); rintro e w2 ⟨v2, rfl, n2, b2⟩)
               have F0 := Lib.hid (blk_on16 ((Below.heap_alloc w1 (.cells #[.string nm, .int .u32 ai, .bool true] 57) _ hsz).trans F0.out) b2)
               have B2 := Lib.hid (thn16 (thn16 B1.out (below16 w1 (.cells #[.string nm, .int .u32 ai, .bool true] 57))) b2)
               have NW := Lib.hid (show NewS (w.heap.size + 1) w2 v2 NL from ⟨n2.1, fun g e => by have := n2.2 g e; rw [World.size_alloc] at this; have := B1.out.size; omega⟩)
               have ⟨hl, hb3⟩ := retV F0.out B2.out (Nat.le_refl _) nm ai true
               have C2 := blk_on16 (heap_alloc_new w1 (.cells #[.string nm, .int .u32 ai, .bool true] 57)) b2
               have l0 := (cell_of_row w2 w1.heap.size 0 _ _ (0, 0) C2).trans (show _ = some (Value.string nm) from rfl)
               have l1 := (cell_of_row w2 w1.heap.size 1 _ _ (0, 0) C2).trans (show _ = some (Value.int .u32 ai) from rfl)
               have l2 := (cell_of_row w2 w1.heap.size 2 _ _ (0, 0) C2).trans (show _ = some (Value.bool true) from rfl)
               have NS := Lib.hid (newS_ent NW.out F0.out (Nat.le_refl _) [.string nm, .int .u32 ai, .bool true])
               clear n2 b2)
            | ((with_reducible show wpList _ _ _ (⟨none, .store 57 (.tmp 4) (.tmp 39), _, _, _, _⟩ :: _) _ _)
               refine wpList_store_mid rfl 57 (.tmp 4) (.tmp 39) rfl w.heap.size 0 #[.string nm, .int .u32 ai, .bool true] rfl rfl (thereV F0.out) HIN.out (oneV _ _ _) ?_
               show wpList _ _ _ _ _ (w2.setCells w.heap.size 0 [.string nm, .int .u32 ai, .bool true])
               generalize w2.setCells w.heap.size 0 [.string nm, .int .u32 ai, .bool true] = w3 at hl hb3 NS ⊢))
          exact bodyPost_ret (v := .tuple #[.agg #[.string nm, .int .u32 ai, .bool true], v2, .int .i64 0]) (res_three Tryz.results34 rfl rfl rfl hl) rfl ⟨v2, rfl, NS.out, hb3⟩
        | false =>
          rw [if_pos (by simp)]
          simp only
          rw [← hai] at HRD
          clear hai
          go_enter Tryz.func34, Tryz.ntmps34
          go_wp2_with (first
            | (go_at_call 52
               ((with_reducible refine (HRD.out trivial).mono ?_); rintro e w1 ⟨rfl, b1⟩)
               have hsz : w.heap.size < w1.heap.size := by have := b1.size; rw [World.size_alloc] at this; omega
               have F0 := Lib.hid (blk_on16 (heap_alloc_new w (.cells #[.string ⟨#[]⟩, .int .u32 0, .bool false] 57)) b1)
               have B1 := Lib.hid (thn16 (below16 w (.cells #[.string ⟨#[]⟩, .int .u32 0, .bool false] 57)) b1)
               skip
               clear b1)
            | (go_at_call 53
               ((with_reducible refine (HNA.out _).mono ?_); rintro e w2 ⟨v2, rfl, n2, b2⟩)
               have F0 := Lib.hid (blk_on16 ((Below.heap_alloc w1 (.cells #[.string nm, .int .u32 ai, .bool true] 57) _ hsz).trans F0.out) b2)
               have B2 := Lib.hid (thn16 (thn16 B1.out (below16 w1 (.cells #[.string nm, .int .u32 ai, .bool true] 57))) b2)
               have NW := Lib.hid (show NewS (w.heap.size + 1) w2 v2 NL from ⟨n2.1, fun g e => by have := n2.2 g e; rw [World.size_alloc] at this; have := B1.out.size; omega⟩)
               have ⟨hl, hb3⟩ := retV F0.out B2.out (Nat.le_refl _) nm 0 false
               have C2 := blk_on16 (heap_alloc_new w1 (.cells #[.string nm, .int .u32 ai, .bool true] 57)) b2
               have l0 := (cell_of_row w2 w1.heap.size 0 _ _ (0, 0) C2).trans (show _ = some (Value.string nm) from rfl)
               have l2 := (cell_of_row w2 w1.heap.size 2 _ _ (0, 0) C2).trans (show _ = some (Value.bool true) from rfl)
               have NS := Lib.hid (newS_ent NW.out F0.out (Nat.le_refl _) [.string nm, .int .u32 0, .bool false])
               clear n2 b2)
            | ((with_reducible show wpList _ _ _ (⟨none, .store 57 (.tmp 4) (.tmp 37), _, _, _, _⟩ :: _) _ _)
               refine wpList_store_mid rfl 57 (.tmp 4) (.tmp 37) rfl w.heap.size 0 #[.string nm, .int .u32 0, .bool false] rfl rfl (thereV F0.out) HIN.out (oneV _ _ _) ?_
               show wpList _ _ _ _ _ (w2.setCells w.heap.size 0 [.string nm, .int .u32 0, .bool false])
               generalize w2.setCells w.heap.size 0 [.string nm, .int .u32 0, .bool false] = w3 at hl hb3 NS ⊢))
          exact bodyPost_ret (v := .tuple #[.agg #[.string nm, .int .u32 0, .bool false], v2, .int .i64 161]) (res_three Tryz.results34 rfl rfl rfl hl) rfl ⟨v2, rfl, NS.out, hb3⟩
    · rw [if_pos h2]
      obtain ⟨F, hF⟩ : ∃ F, F = (namesF knownR grpX (rdE x).1.nm).1 := ⟨_, rfl⟩
      rw [← hF] at h2 HNA ⊢
      obtain ⟨NL, hNL⟩ : ∃ l, l = (namesF knownR grpX (rdE x).1.nm).2 := ⟨_, rfl⟩
      rw [← hNL] at HNA
      obtain ⟨⟨nm, act, has⟩, hE⟩ : ∃ E, E = (rdE x).1 := ⟨_, rfl⟩
      rw [← hE] at HRD HNA
      unfold entV at HRD ⊢
      simp only at HRD HNA ⊢
      obtain ⟨ai, hai⟩ : ∃ z : Int, z = (act : Nat) := ⟨_, rfl⟩
      rw [← hai] at HRD
      have e1 : (F != 0) = true := bne_iff_ne.2 h2
      clear h1 hNL hE hai hF
      go_enter Tryz.func34, Tryz.ntmps34
      go_wp2_with (first
        | (go_at_call 52
           ((with_reducible refine (HRD.out trivial).mono ?_); rintro e w1 ⟨rfl, b1⟩)
           have hsz : w.heap.size < w1.heap.size := by have := b1.size; rw [World.size_alloc] at this; omega
           have F0 := Lib.hid (blk_on16 (heap_alloc_new w (.cells #[.string ⟨#[]⟩, .int .u32 0, .bool false] 57)) b1)
           have B1 := Lib.hid (thn16 (below16 w (.cells #[.string ⟨#[]⟩, .int .u32 0, .bool false] 57)) b1)
           skip
           clear b1)
        | (go_at_call 53
           ((with_reducible refine (HNA.out _).mono ?_); rintro e w2 ⟨v2, rfl, n2, b2⟩)
           have F0 := Lib.hid (blk_on16 ((Below.heap_alloc w1 (.cells #[.string nm, .int .u32 ai, .bool has] 57) _ hsz).trans F0.out) b2)
           have B2 := Lib.hid (thn16 (thn16 B1.out (below16 w1 (.cells #[.string nm, .int .u32 ai, .bool has] 57))) b2)
           have NW := Lib.hid (show NewS (w.heap.size + 1) w2 v2 NL from ⟨n2.1, fun g e => by have := n2.2 g e; rw [World.size_alloc] at this; have := B1.out.size; omega⟩)
           have ⟨hl, hb3⟩ := retV F0.out B2.out (Nat.le_refl _) ⟨#[]⟩ 0 false
           have NS := Lib.hid hb3
           clear n2 b2)
        | ((with_reducible show wpList _ _ _ (⟨none, .store 57 (.tmp 4) (.tmp 27), _, _, _, _⟩ :: _) _ _)
           refine wpList_store_mid rfl 57 (.tmp 4) (.tmp 27) rfl w.heap.size 0 #[.string ⟨#[]⟩, .int .u32 0, .bool false] rfl rfl (thereV F0.out) HIN.out (oneV _ _ _) ?_
           show wpList _ _ _ _ _ (w2.setCells w.heap.size 0 [.string ⟨#[]⟩, .int .u32 0, .bool false])
           generalize w2.setCells w.heap.size 0 [.string ⟨#[]⟩, .int .u32 0, .bool false] = w3 at hl hb3 NS ⊢))
      exact bodyPost_ret (v := .tuple #[.agg #[.string ⟨#[]⟩, .int .u32 0, .bool false], .slice none 0 0, .int .i64 F]) (res_three Tryz.results34 rfl rfl rfl hl) rfl ⟨_, rfl, ⟨StrsAt.nil _, fun g e => by cases e⟩, hb3⟩
  · rw [if_pos h1]
    obtain ⟨F, hF⟩ : ∃ F, F = (rdE x).2 := ⟨_, rfl⟩
    rw [← hF] at h1 HRD ⊢
    obtain ⟨⟨nm, act, has⟩, hE⟩ : ∃ E, E = (rdE x).1 := ⟨_, rfl⟩
    rw [← hE] at HRD
    unfold entV at HRD ⊢
    simp only at HRD ⊢
    obtain ⟨ai, hai⟩ : ∃ z : Int, z = (act : Nat) := ⟨_, rfl⟩
    rw [← hai] at HRD
    have e1 : (F != 0) = true := bne_iff_ne.2 h1
    clear hE hai hF
    go_enter Tryz.func34, Tryz.ntmps34
    go_wp2_with (first
      | (go_at_call 52
         ((with_reducible refine (HRD.out trivial).mono ?_); rintro e w1 ⟨rfl, b1⟩)
         have hsz : w.heap.size < w1.heap.size := by have := b1.size; rw [World.size_alloc] at this; omega
         have F0 := Lib.hid (blk_on16 (heap_alloc_new w (.cells #[.string ⟨#[]⟩, .int .u32 0, .bool false] 57)) b1)
         have B1 := Lib.hid (thn16 (below16 w (.cells #[.string ⟨#[]⟩, .int .u32 0, .bool false] 57)) b1)
         have F0 := Lib.hid ((Below.heap_alloc w1 (.cells #[.string nm, .int .u32 ai, .bool has] 57) _ hsz).trans F0.out)
         have B2 := Lib.hid (thn16 B1.out (below16 w1 (.cells #[.string nm, .int .u32 ai, .bool has] 57)))
         have ⟨hl, hb3⟩ := retV F0.out B2.out (Nat.le_refl _) ⟨#[]⟩ 0 false
         have NS := Lib.hid hb3
         clear b1)
      | ((with_reducible show wpList _ _ _ (⟨none, .store 57 (.tmp 4) (.tmp 17), _, _, _, _⟩ :: _) _ _)
         refine wpList_store_mid rfl 57 (.tmp 4) (.tmp 17) rfl w.heap.size 0 #[.string ⟨#[]⟩, .int .u32 0, .bool false] rfl rfl (thereV F0.out) HIN.out (oneV _ _ _) ?_
         show wpList _ _ _ _ _ ((w1.alloc (.cells #[.string nm, .int .u32 ai, .bool has] 57)).setCells w.heap.size 0 [.string ⟨#[]⟩, .int .u32 0, .bool false])
         generalize (w1.alloc (.cells #[.string nm, .int .u32 ai, .bool has] 57)).setCells w.heap.size 0 [.string ⟨#[]⟩, .int .u32 0, .bool false] = w3 at hl hb3 NS ⊢))
    exact bodyPost_ret (v := .tuple #[.agg #[.string ⟨#[]⟩, .int .u32 0, .bool false], .slice none 0 0, .int .i64 F]) (res_three Tryz.results34 rfl rfl rfl hl) rfl ⟨_, rfl, ⟨StrsAt.nil _, fun g e => by cases e⟩, hb3⟩
end Go.Proofs.YtickkaeaaemakaaGreatDoor
