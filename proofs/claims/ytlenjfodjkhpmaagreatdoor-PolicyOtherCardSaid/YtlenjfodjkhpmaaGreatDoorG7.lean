/- The landed groups.Expand: what a group has, in new memory. No condition. The landed fold's reading of a word: its entry, its calls, what is to be noted. Condition: names' tables lie in their variables. -/
import Derived.Test.YtlenjfodjkhpmaaGreatDoorG4
import Derived.Test.YtlenjfodjkhpmaaGreatDoorF5
import Derived.Test.YtlenjfodjkhpmaaGreatDoorKr
import Derived.Test.YtlenjfodjkhpmaaGreatDoorTq
namespace Go.Proofs.YtlenjfodjkhpmaaGreatDoor
set_option maxRecDepth 100000
open Go.Lib (hid)
open Go.RowKit
set_option linter.unusedVariables false
set_option linter.unusedSimpArgs false
attribute [local go_sem ↓] Go.wp_at_zero Go.wp_at_succ

set_option maxHeartbeats 4000000 in
theorem expn_none (s : ByteArray) (w : World) (h : memR s = []) : Calls Tryz.prog 227 #[.string s] w fun e w' => ∃ v, e = .returned (.tuple #[v, .int .i64 110]) ∧ StrsAt w' v [] ∧ (∀ g, v.ownBlock = some g → w.heap.size ≤ g) ∧ Below w.heap.size w w' := by
 have HD := hid (deep_l s w)
 rw [deep_none h] at HD
 clear h
 go_enter Tryz.func227, Tryz.ntmps227
 go_wp2_with (go_at_call 240; ((with_reducible refine (HD.out).mono ?_); rintro e W ⟨rfl, b1⟩))
 go_ret2
 exact ⟨_, rfl, StrsAt.nil _, (fun g e => by cases e), b1⟩
set_option maxHeartbeats 4000000 in
theorem expn_deep (s : ByteArray) (w : World) (h : memR s ≠ []) (hd : 4 < deepR s) : Calls Tryz.prog 227 #[.string s] w fun e w' => ∃ v, e = .returned (.tuple #[v, .int .i64 111]) ∧ StrsAt w' v [] ∧ (∀ g, v.ownBlock = some g → w.heap.size ≤ g) ∧ Below w.heap.size w w' := by
 have HD := hid (deep_l s w)
 obtain ⟨d, hdd⟩ : ∃ d, d = deepR s := ⟨_, rfl⟩
 rw [← hdd] at HD hd
 have i1 : (4 : Int) < d := by omega
 have i2 : (d : Int) > 4 := by omega
 have i3 : ((d : Int) == 0) = false := beq_eq_false_iff_ne.2 (by omega)
 have i4 : ¬ (d : Int) = 0 := by omega
 clear h hd hdd
 go_enter Tryz.func227, Tryz.ntmps227
 go_wp2_with (go_at_call 240; ((with_reducible refine (HD.out).mono ?_); rintro e W ⟨rfl, b1⟩))
 go_ret2
 exact ⟨_, rfl, StrsAt.nil _, (fun g e => by cases e), b1⟩
set_option maxHeartbeats 8000000 in
theorem expn_all (s : ByteArray) (w : World) (h : memR s ≠ []) (hd : ¬ 4 < deepR s) : Calls Tryz.prog 227 #[.string s] w fun e w' => ∃ v, e = .returned (.tuple #[v, .int .i64 0]) ∧ StrsAt w' v (expL s) ∧ (∀ g, v.ownBlock = some g → w.heap.size ≤ g) ∧ Below w.heap.size w w' := by
 obtain ⟨hx1, hx2, hx3⟩ := exp_at h hd
 have HD := hid (deep_l s w)
 have HT := hid (fun W => tableH W)
 have HE := hid (fun (base B f e t : Nat) (W : World) (l : List ByteArray) (v : Value) (hX : XBox W base B f e t l) (hN : NamesIn base f W v [s]) (hl : l.length + (exF 8 [s]).length ≤ 1000) => expand_all11 base B f e t 7 [s] (fun x _ => by have := deep_le x; omega) (by show 1 ≤ 8; decide) W l v hX hN hl)
 have HS := hid (fun (V : World) (B g cap n : Nat) (hn : n = (exF 8 [s]).length) (h : V.ownsRow B 9 1 (.slice (some ⟨g, 0, none⟩) n cap) n (sG (exF 8 [s]))) (hl : n ≤ 1000000) (hB : B ≤ V.heap.size) => sort_S V B g cap n (exF 8 [s]) hn h hl hB)
 have HO := hid (fun (V : World) (B g cap n : Nat) (hn : n = (exF 8 [s]).length) (hH : Holds11 V g s) (hg : B ≤ g) (hV : g < V.heap.size) (hcap : n ≤ cap) (hl : n ≤ 900) => comp_at s hx1 V B g cap n hn hH hg hV hcap hl)
 obtain ⟨n, hn⟩ : ∃ n, n = (exF 8 [s]).length := ⟨_, rfl⟩
 have HN := hid hn
 rw [← hn] at hx2 hx3
 have H2 := hid hx2
 have HL0 := hid (show ([] : List ByteArray).length + (exF 8 [s]).length ≤ 1000 by show 0 + _ ≤ 1000; rw [← hn]; omega)
 have HM := hid (show n ≤ 1000000 by omega)
 have H3 := hid hx3
 have hp := deep_pos h
 obtain ⟨d, hdd⟩ : ∃ d, d = deepR s := ⟨_, rfl⟩
 rw [← hdd] at HD hd hp
 have i2 : ¬ (d : Int) > 4 := by omega
 have i3 : ((d : Int) == 0) = false := beq_eq_false_iff_ne.2 (by omega)
 have i4 : ¬ (d : Int) = 0 := by omega
 have i5 : (d : Int) ≤ 4 := by omega
 clear h hd hdd hx1 hx2 hx3 hn hp
 go_enter Tryz.func227, Tryz.ntmps227
 go_wp2_with (first
  | (go_at_call 240; ((with_reducible refine (HD.out).mono ?_); rintro e W0 ⟨rfl, b0⟩); have B0 := hid b0; clear b0)
  | (go_at_call 241; ((with_reducible refine (HT.out _).mono ?_); rintro e W ⟨rfl, t1, b1⟩); have T1 := hid t1; have B1 := hid (thnH B0.out b1); clear t1 b1)
  | (go_at_call 242; obtain ⟨dx, nx, bx⟩ := exp_world W s W0.heap.size _ _ _ _ T1.out rfl; ((with_reducible refine (HE.out _ _ _ _ _ _ _ _ dx nx HL0.out).mono ?_); rintro r Y ⟨rfl, x3, k3⟩); rw [List.nil_append] at x3; obtain ⟨fv, hf1, hf2⟩ := x3.found; rw [← HN.out] at hf2; obtain ⟨g, cap, rfl, hcap, hg⟩ := own_form hf2 H2.out; have y1 := (cell_of_row Y (W.heap.size + 1) 0 _ _ (0, 0) hf1).trans (show _ = some _ from rfl); have BY := hid (thnH B1.out (bx.trans (k3.below (by omega) (by omega)))); have XY := hid x3; have OY := hid hf2; have GC := hid (And.intro hcap hg); have HW := hid (show w.heap.size ≤ (W.heap.size + 1 + 1 + 1 + 1) by have := B1.out.size; omega); clear x3 hf1 hf2 hcap hg k3 bx dx nx)
  | (go_at_call 244; ((with_reducible refine (HS.out Y (W.heap.size + 1 + 1 + 1 + 1) g cap n HN.out OY.out HM.out XY.out.lt.2.2.2.2).mono ?_); rintro r Z ⟨rfl, hh, hg, bz⟩); have y2 := (bz.cell (p := ⟨W.heap.size + 1, 0, none⟩) (show W.heap.size + 1 < (W.heap.size + 1 + 1 + 1 + 1) by omega)).trans y1; have HZ := hid hh; have GZ := hid hg; have BZ := hid (BY.out.trans (bz.mono HW.out)); clear hh hg bz)
  | (go_at_call 245; ((with_reducible refine (HO.out Z (W.heap.size + 1 + 1 + 1 + 1) g cap n HN.out HZ.out GC.out.2 GZ.out GC.out.1 H3.out).mono ?_); rintro r U ⟨m, rfl, s5, b5⟩); have S5 := hid s5; have B5 := hid (BZ.out.trans (b5.mono HW.out)); clear s5 b5))
 go_ret2
 exact ⟨_, rfl, S5.out, (fun k e => by have e2 : g = k := Option.some.inj e; have := GC.out.2; have := HW.out; omega), B5.out⟩
theorem expand_n (s : ByteArray) (w : World) : Calls Tryz.prog 227 #[.string s] w fun e w' => ∃ v, e = .returned (.tuple #[v, .int .i64 (expE s)]) ∧ StrsAt w' v (expL s) ∧ (∀ g, v.ownBlock = some g → w.heap.size ≤ g) ∧ Below w.heap.size w w' := by
 unfold expE expL
 by_cases h : memR s = []
 ·rw [if_pos h, if_pos (Or.inl h)]
  exact expn_none s w h
 ·rw [if_neg h]
  by_cases hd : 4 < deepR s
  ·rw [if_pos hd, if_pos (Or.inr hd)]
   exact expn_deep s w h hd
  ·rw [if_neg hd, if_neg (by rintro (h1 | h1); exact h h1; exact hd h1)]
   have h2 := expn_all s w h hd
   unfold expL at h2
   rw [if_neg (by rintro (h1 | h1); exact h h1; exact hd h1)] at h2
   exact h2
set_option maxRecDepth 100000
open Go.Lib (hid)
open Go.RowKit Go.Shelf
set_option linter.unusedVariables false
set_option linter.unusedSimpArgs false
attribute [local go_sem ↓] Go.wp_at_zero Go.wp_at_succ

set_option maxHeartbeats 8000000 in
theorem words_c (s : ByteArray) (w : World) (hs : s.size ≤ 1000000) : Calls Tryz.prog 154 #[.string s] w fun e w' => ∃ q c, e = .returned (.slice q (wdL s.data.toList).length c) ∧ w'.ownsRow w.heap.size 9 1 (.slice q (wdL s.data.toList).length c) (wdL s.data.toList).length (sL (wdL s.data.toList)) ∧ Below w.heap.size w w' := by
 have HA := hid (fun W => among15 (⟨#[32, 9, 13]⟩ : ByteArray) W)
 have eg : ∀ args w, (callFunc 209 args).run Tryz.prog w = .ok (.enter 209 args) w := enters_of Tryz.func209 (by kernel_rfl) rfl
 have HT := Tryz.strings_FieldsFunc_grows 209 _ eg whR15 s (w.alloc (.cells #[.string (⟨#[32, 9, 13]⟩ : ByteArray)] 9)) (by omega) (among_pays15 w.heap.size _ (Boxed.new w _ _))
 rw [fields_words, List.length_map] at HT
 have HT := hid HT
 have HB := hid (ball w (.cells #[.string (⟨#[32, 9, 13]⟩ : ByteArray)] 9))
 obtain ⟨L, hL⟩ : ∃ L, L = wdL s.data.toList := ⟨_, rfl⟩
 rw [← hL] at HT ⊢
 clear hs eg hL
 go_enter Tryz.func154, Tryz.ntmps154
 go_wp2_with (first
  | (go_at_call 181; ((with_reducible refine (HA.out _).mono ?_); rintro e w1 ⟨rfl, rfl⟩))
  | (go_at_call 180; ((with_reducible refine (HT.out).mono ?_); rintro e w2 ⟨A, rfl, hA, ho, b2⟩)))
 go_ret
 exact ⟨_, _, rfl, owns_low16 (by rw [List.map_map] at ho; exact ho) HB.out.size, th2 HB.out b2⟩
theorem head64 (s : ByteArray) : Lib.hasPrefix s.data.toList [64] = decide (s.data.toList.head? = some 64) := by
 cases h : s.data.toList with
 | nil => rfl
 | cons c r =>
  show (64 == c && List.isPrefixOf [] r) = _
  rw [List.head?_cons]
  by_cases e : c = 64
  ·subst e; rfl
  ·rw [decide_eq_false (fun h => e (Option.some.inj h)), show (64 == c) = false from beq_eq_false_iff_ne.2 (fun h => e h.symm)]; rfl
def NewS (B : Nat) (w : World) (v : Value) (l : List ByteArray) : Prop := StrsAt w v l ∧ ∀ g, v.ownBlock = some g → B ≤ g
set_option maxHeartbeats 8000000 in
theorem named_c (s : ByteArray) (w : World) : Calls Tryz.prog 203 #[.string s] w fun e w' => ∃ v, e = .returned (.tuple #[v, .int .i64 (namesF knownR grpX s).1]) ∧ NewS w.heap.size w' v (namesF knownR grpX s).2 ∧ Below w.heap.size w w' := by
 have HPF := hid (fun (W : World) => Tryz.strings_HasPrefix s ⟨#[64]⟩ W)
 rw [show (⟨#[64]⟩ : ByteArray).data.toList = [64] from rfl, head64] at HPF
 have HE := hid (fun (W : World) => expand_n s W)
 have HK := hid (fun (W : World) => known9 s W)
 by_cases h : s.data.toList.head? = some 64
 ·rw [names_group h]
  rw [decide_eq_true h] at HPF
  clear h HK
  go_enter Tryz.func203, Tryz.ntmps203
  go_wp2_with (first
   | (go_at_call 226; ((with_reducible refine (HPF.out _).mono ?_); rintro e w1 ⟨rfl, hw⟩); subst hw)
   | (go_at_call 227; ((with_reducible refine (HE.out _).mono ?_); rintro e w2 ⟨v, rfl, s2, n2, b2⟩)))
  go_ret2
  exact ⟨v, rfl, ⟨s2, n2⟩, b2⟩
 ·rw [decide_eq_false h] at HPF
  cases hk : knownR s with
  | true =>
   rw [names_call h hk]
   rw [hk] at HK
   clear h HE hk
   go_enter Tryz.func203, Tryz.ntmps203
   go_wp2_with (first
    | (go_at_call 226; ((with_reducible refine (HPF.out _).mono ?_); rintro e w1 ⟨rfl, hw⟩); subst hw)
    | (go_at_call 117; ((with_reducible refine (HK.out _).mono ?_); rintro e w2 ⟨rfl, b2⟩)))
   go_ret2
   exact ⟨_, rfl, ⟨⟨_, _, rfl, fun k x hk => ⟨_, _, rfl, by
    cases k with
    | zero => have := Option.some.inj hk; subst this; exact cell_of_row _ _ _ _ _ (0, 0) (heap_alloc_new _ _)
    | succ k => simp at hk⟩⟩, fun g e => by have e2 : w2.heap.size = g := Option.some.inj e; have := b2.size; omega⟩, thn16 b2 (below16 _ _)⟩
  | false =>
   rw [names_none h hk]
   rw [hk] at HK
   clear h HE hk
   go_enter Tryz.func203, Tryz.ntmps203
   go_wp2_with (first
    | (go_at_call 226; ((with_reducible refine (HPF.out _).mono ?_); rintro e w1 ⟨rfl, hw⟩); subst hw)
    | (go_at_call 117; ((with_reducible refine (HK.out _).mono ?_); rintro e w2 ⟨rfl, b2⟩)))
   go_ret2
   exact ⟨_, rfl, ⟨StrsAt.nil _, fun g e => by cases e⟩, b2⟩
theorem newS_ent {B : Nat} {W : World} {v : Value} {l : List ByteArray} {b : Nat} {x y z : Value} (h : NewS (B + 1) W v l) (hb : W.heap[b]? = some (.cells #[x, y, z] 151 (0, 0))) (hB : b ≤ B) (cs : List Value) : NewS B (W.setCells b 0 cs) v l := by
 obtain ⟨⟨q, c, e, hr⟩, hn⟩ := h
 refine ⟨⟨q, c, e, fun k s hk => ?_⟩, fun g hg => by have := hn g hg; omega⟩
 obtain ⟨g, o, e2, hc⟩ := hr k s hk
 subst e2
 have := hn g (by rw [e]; rfl)
 exact ⟨g, o, rfl, (World.cell?_of_block (heap_setCells16 W _ _ (show g ≠ b by omega) _ _)).trans hc⟩
def readF (b : Bool) (x : ByteArray) : Ent × List ByteArray × Int :=
 if (rdE x).2 ≠ 0 then (e0, [], (rdE x).2)
 else if (namesF knownR grpX (rdE x).1.nm).1 ≠ 0 then (e0, [], (namesF knownR grpX (rdE x).1.nm).1)
 else if ((rdE x).1.has && !b) = true then (⟨(rdE x).1.nm, 0, false⟩, (namesF knownR grpX (rdE x).1.nm).2, 161)
 else ((rdE x).1, (namesF knownR grpX (rdE x).1.nm).2, 0)
theorem res_three {fn : Func} {tmps : Array Value} {w : World} {t u x : Nat} {ty : TypeId} {p : Addr} {v v2 v3 : Value} (hr : fn.results = #[.cell t ty, .tmp u, .tmp x]) (ha : tmps.getD t undef = .pointer (some p)) (hu : tmps.getD u undef = v2) (hx : tmps.getD x undef = v3) (hl : (loadVar ty p).run Tryz.prog w = .ok v w) : (results fn tmps).run Tryz.prog w = .ok (.tuple #[v, v2, v3]) w := by
 have ha' : tmps[t]?.getD undef = .pointer (some p) := by simpa using ha
 have hu' : tmps[u]?.getD undef = v2 := by simpa using hu
 have hx' : tmps[x]?.getD undef = v3 := by simpa using hx
 simp [results, hr, asAddr, ha', hu', hx', hl]
abbrev ReadL (w w' : World) (e : Ending) (r : Ent × List ByteArray × Int) : Prop := ∃ v, e = .returned (.tuple #[entV r.1, v, .int .i64 r.2.2]) ∧ NewS w.heap.size w' v r.2.1 ∧ Below w.heap.size w w'
set_option maxHeartbeats 8000000 in
theorem read_c (x : ByteArray) (b : Bool) (w : World) (hG : GN w) (hx : x.size ≤ 1000000) : Calls Tryz.prog 176 #[.string x, .bool b] w fun e w' => ReadL w w' e (readF b x) := by
 unfold ReadL readF
 have HIN := hid (show (Tryz.prog.info? 151).map (·.size) = some 3 from by kernel_rfl)
 have HRD := hid (fun (_ : True) => read15 x (w.alloc (.cells #[.string ⟨#[]⟩, .int .u32 0, .bool false] 151)) (hG.on (below16 w _)) hx)
 clear hG hx
 by_cases h1 : (rdE x).2 = 0
 ·rw [if_neg (fun h => h h1)]
  rw [h1] at HRD
  have HNA := hid (fun (V : World) => named_c (rdE x).1.nm V)
  by_cases h2 : (namesF knownR grpX (rdE x).1.nm).1 = 0
  ·rw [if_neg (fun h => h h2)]
   rw [h2] at HNA
   obtain ⟨NL, hNL⟩ : ∃ l, l = (namesF knownR grpX (rdE x).1.nm).2 := ⟨_, rfl⟩
   rw [← hNL] at HNA ⊢
   obtain ⟨⟨nm, act, has⟩, hE⟩ : ∃ E, E = (rdE x).1 := ⟨_, rfl⟩
   rw [← hE] at HRD HNA ⊢
   unfold entV at HRD ⊢
   simp only at HRD HNA ⊢
   obtain ⟨ai, hai⟩ : ∃ z : Int, z = (act : Nat) := ⟨_, rfl⟩
   have HAI := hid hai
   clear h1 h2 hNL hE
   cases has with
   | false =>
    rw [if_neg (by simp)]
    simp only
    rw [← hai] at HRD ⊢
    clear hai
    go_enter Tryz.func176, Tryz.ntmps176
    go_wp2_with (first
     | (go_at_call 202
        ((with_reducible refine (HRD.out trivial).mono ?_); rintro e w1 ⟨rfl, b1⟩)
        have hsz : w.heap.size < w1.heap.size := by have := b1.size; rw [World.size_alloc] at this; omega
        have F0 := hid (blk_on16 (heap_alloc_new w (.cells #[.string ⟨#[]⟩, .int .u32 0, .bool false] 151)) b1)
        have B1 := hid (thn16 (below16 w (.cells #[.string ⟨#[]⟩, .int .u32 0, .bool false] 151)) b1)
        skip
        clear b1)
     | (go_at_call 203
        ((with_reducible refine (HNA.out _).mono ?_); rintro e w2 ⟨v2, rfl, n2, b2⟩)
        have F0 := hid (blk_on16 ((Below.heap_alloc w1 (.cells #[.string nm, .int .u32 ai, .bool false] 151) _ hsz).trans F0.out) b2)
        have B2 := hid (thn16 (thn16 B1.out (below16 w1 (.cells #[.string nm, .int .u32 ai, .bool false] 151))) b2)
        have NW := hid (show NewS (w.heap.size + 1) w2 v2 NL from ⟨n2.1, fun g e => by have := n2.2 g e; rw [World.size_alloc] at this; have := B1.out.size; omega⟩)
        have ⟨hl, hb3⟩ := retV F0.out B2.out (Nat.le_refl _) nm ai false
        have C2 := blk_on16 (heap_alloc_new w1 (.cells #[.string nm, .int .u32 ai, .bool false] 151)) b2
        have l0 := (cell_of_row w2 w1.heap.size 0 _ _ (0, 0) C2).trans (show _ = some (Value.string nm) from rfl)
        have l1 := (cell_of_row w2 w1.heap.size 1 _ _ (0, 0) C2).trans (show _ = some (Value.int .u32 ai) from rfl)
        have l2 := (cell_of_row w2 w1.heap.size 2 _ _ (0, 0) C2).trans (show _ = some (Value.bool false) from rfl)
        have NS := hid (newS_ent NW.out F0.out (Nat.le_refl _) [.string nm, .int .u32 ai, .bool false])
        clear n2 b2)
     | ((with_reducible show wpList _ _ _ (⟨none, .store 151 (.tmp 4) (.tmp 39), _, _, _, _⟩ :: _) _ _)
        refine wpList_store_mid rfl 151 (.tmp 4) (.tmp 39) rfl w.heap.size 0 #[.string nm, .int .u32 ai, .bool false] rfl rfl (thereV F0.out) HIN.out (oneV _ _ _) ?_
        show wpList _ _ _ _ _ (w2.setCells w.heap.size 0 [.string nm, .int .u32 ai, .bool false])
        generalize w2.setCells w.heap.size 0 [.string nm, .int .u32 ai, .bool false] = w3 at hl hb3 NS ⊢))
    exact bodyPost_ret (v := .tuple #[.agg #[.string nm, .int .u32 ai, .bool false], v2, .int .i64 0]) (res_three Tryz.results176 rfl rfl rfl hl) rfl ⟨v2, rfl, NS.out, hb3⟩
   | true =>
    cases b with
    | true =>
     rw [if_neg (by simp)]
     simp only
     rw [← hai] at HRD ⊢
     clear hai
     go_enter Tryz.func176, Tryz.ntmps176
     go_wp2_with (first
      | (go_at_call 202
         ((with_reducible refine (HRD.out trivial).mono ?_); rintro e w1 ⟨rfl, b1⟩)
         have hsz : w.heap.size < w1.heap.size := by have := b1.size; rw [World.size_alloc] at this; omega
         have F0 := hid (blk_on16 (heap_alloc_new w (.cells #[.string ⟨#[]⟩, .int .u32 0, .bool false] 151)) b1)
         have B1 := hid (thn16 (below16 w (.cells #[.string ⟨#[]⟩, .int .u32 0, .bool false] 151)) b1)
         skip
         clear b1)
      | (go_at_call 203
         ((with_reducible refine (HNA.out _).mono ?_); rintro e w2 ⟨v2, rfl, n2, b2⟩)
         have F0 := hid (blk_on16 ((Below.heap_alloc w1 (.cells #[.string nm, .int .u32 ai, .bool true] 151) _ hsz).trans F0.out) b2)
         have B2 := hid (thn16 (thn16 B1.out (below16 w1 (.cells #[.string nm, .int .u32 ai, .bool true] 151))) b2)
         have NW := hid (show NewS (w.heap.size + 1) w2 v2 NL from ⟨n2.1, fun g e => by have := n2.2 g e; rw [World.size_alloc] at this; have := B1.out.size; omega⟩)
         have ⟨hl, hb3⟩ := retV F0.out B2.out (Nat.le_refl _) nm ai true
         have C2 := blk_on16 (heap_alloc_new w1 (.cells #[.string nm, .int .u32 ai, .bool true] 151)) b2
         have l0 := (cell_of_row w2 w1.heap.size 0 _ _ (0, 0) C2).trans (show _ = some (Value.string nm) from rfl)
         have l1 := (cell_of_row w2 w1.heap.size 1 _ _ (0, 0) C2).trans (show _ = some (Value.int .u32 ai) from rfl)
         have l2 := (cell_of_row w2 w1.heap.size 2 _ _ (0, 0) C2).trans (show _ = some (Value.bool true) from rfl)
         have NS := hid (newS_ent NW.out F0.out (Nat.le_refl _) [.string nm, .int .u32 ai, .bool true])
         clear n2 b2)
      | ((with_reducible show wpList _ _ _ (⟨none, .store 151 (.tmp 4) (.tmp 39), _, _, _, _⟩ :: _) _ _)
         refine wpList_store_mid rfl 151 (.tmp 4) (.tmp 39) rfl w.heap.size 0 #[.string nm, .int .u32 ai, .bool true] rfl rfl (thereV F0.out) HIN.out (oneV _ _ _) ?_
         show wpList _ _ _ _ _ (w2.setCells w.heap.size 0 [.string nm, .int .u32 ai, .bool true])
         generalize w2.setCells w.heap.size 0 [.string nm, .int .u32 ai, .bool true] = w3 at hl hb3 NS ⊢))
     exact bodyPost_ret (v := .tuple #[.agg #[.string nm, .int .u32 ai, .bool true], v2, .int .i64 0]) (res_three Tryz.results176 rfl rfl rfl hl) rfl ⟨v2, rfl, NS.out, hb3⟩
    | false =>
     rw [if_pos (by simp)]
     simp only
     rw [← hai] at HRD
     clear hai
     go_enter Tryz.func176, Tryz.ntmps176
     go_wp2_with (first
      | (go_at_call 202
         ((with_reducible refine (HRD.out trivial).mono ?_); rintro e w1 ⟨rfl, b1⟩)
         have hsz : w.heap.size < w1.heap.size := by have := b1.size; rw [World.size_alloc] at this; omega
         have F0 := hid (blk_on16 (heap_alloc_new w (.cells #[.string ⟨#[]⟩, .int .u32 0, .bool false] 151)) b1)
         have B1 := hid (thn16 (below16 w (.cells #[.string ⟨#[]⟩, .int .u32 0, .bool false] 151)) b1)
         skip
         clear b1)
      | (go_at_call 203
         ((with_reducible refine (HNA.out _).mono ?_); rintro e w2 ⟨v2, rfl, n2, b2⟩)
         have F0 := hid (blk_on16 ((Below.heap_alloc w1 (.cells #[.string nm, .int .u32 ai, .bool true] 151) _ hsz).trans F0.out) b2)
         have B2 := hid (thn16 (thn16 B1.out (below16 w1 (.cells #[.string nm, .int .u32 ai, .bool true] 151))) b2)
         have NW := hid (show NewS (w.heap.size + 1) w2 v2 NL from ⟨n2.1, fun g e => by have := n2.2 g e; rw [World.size_alloc] at this; have := B1.out.size; omega⟩)
         have ⟨hl, hb3⟩ := retV F0.out B2.out (Nat.le_refl _) nm 0 false
         have C2 := blk_on16 (heap_alloc_new w1 (.cells #[.string nm, .int .u32 ai, .bool true] 151)) b2
         have l0 := (cell_of_row w2 w1.heap.size 0 _ _ (0, 0) C2).trans (show _ = some (Value.string nm) from rfl)
         have l2 := (cell_of_row w2 w1.heap.size 2 _ _ (0, 0) C2).trans (show _ = some (Value.bool true) from rfl)
         have NS := hid (newS_ent NW.out F0.out (Nat.le_refl _) [.string nm, .int .u32 0, .bool false])
         clear n2 b2)
      | ((with_reducible show wpList _ _ _ (⟨none, .store 151 (.tmp 4) (.tmp 37), _, _, _, _⟩ :: _) _ _)
         refine wpList_store_mid rfl 151 (.tmp 4) (.tmp 37) rfl w.heap.size 0 #[.string nm, .int .u32 0, .bool false] rfl rfl (thereV F0.out) HIN.out (oneV _ _ _) ?_
         show wpList _ _ _ _ _ (w2.setCells w.heap.size 0 [.string nm, .int .u32 0, .bool false])
         generalize w2.setCells w.heap.size 0 [.string nm, .int .u32 0, .bool false] = w3 at hl hb3 NS ⊢))
     exact bodyPost_ret (v := .tuple #[.agg #[.string nm, .int .u32 0, .bool false], v2, .int .i64 161]) (res_three Tryz.results176 rfl rfl rfl hl) rfl ⟨v2, rfl, NS.out, hb3⟩
  ·rw [if_pos h2]
   obtain ⟨F, hF⟩ : ∃ F, F = (namesF knownR grpX (rdE x).1.nm).1 := ⟨_, rfl⟩
   rw [← hF] at h2 HNA ⊢
   obtain ⟨NL, hNL⟩ : ∃ l, l = (namesF knownR grpX (rdE x).1.nm).2 := ⟨_, rfl⟩
   rw [← hNL] at HNA
   obtain ⟨⟨nm, act, has⟩, hE⟩ : ∃ E, E = (rdE x).1 := ⟨_, rfl⟩
   rw [← hE] at HRD HNA
   unfold entV at HRD ⊢
   simp only at HRD HNA ⊢
   obtain ⟨ai, hai⟩ : ∃ z : Int, z = (act : Nat) := ⟨_, rfl⟩
   rw [← hai] at HRD
   have e1 : (F != 0) = true := bne_iff_ne.2 h2
   clear h1 hNL hE hai hF
   go_enter Tryz.func176, Tryz.ntmps176
   go_wp2_with (first
    | (go_at_call 202
       ((with_reducible refine (HRD.out trivial).mono ?_); rintro e w1 ⟨rfl, b1⟩)
       have hsz : w.heap.size < w1.heap.size := by have := b1.size; rw [World.size_alloc] at this; omega
       have F0 := hid (blk_on16 (heap_alloc_new w (.cells #[.string ⟨#[]⟩, .int .u32 0, .bool false] 151)) b1)
       have B1 := hid (thn16 (below16 w (.cells #[.string ⟨#[]⟩, .int .u32 0, .bool false] 151)) b1)
       skip
       clear b1)
    | (go_at_call 203
       ((with_reducible refine (HNA.out _).mono ?_); rintro e w2 ⟨v2, rfl, n2, b2⟩)
       have F0 := hid (blk_on16 ((Below.heap_alloc w1 (.cells #[.string nm, .int .u32 ai, .bool has] 151) _ hsz).trans F0.out) b2)
       have B2 := hid (thn16 (thn16 B1.out (below16 w1 (.cells #[.string nm, .int .u32 ai, .bool has] 151))) b2)
       have NW := hid (show NewS (w.heap.size + 1) w2 v2 NL from ⟨n2.1, fun g e => by have := n2.2 g e; rw [World.size_alloc] at this; have := B1.out.size; omega⟩)
       have ⟨hl, hb3⟩ := retV F0.out B2.out (Nat.le_refl _) ⟨#[]⟩ 0 false
       have NS := hid hb3
       clear n2 b2)
    | ((with_reducible show wpList _ _ _ (⟨none, .store 151 (.tmp 4) (.tmp 27), _, _, _, _⟩ :: _) _ _)
       refine wpList_store_mid rfl 151 (.tmp 4) (.tmp 27) rfl w.heap.size 0 #[.string ⟨#[]⟩, .int .u32 0, .bool false] rfl rfl (thereV F0.out) HIN.out (oneV _ _ _) ?_
       show wpList _ _ _ _ _ (w2.setCells w.heap.size 0 [.string ⟨#[]⟩, .int .u32 0, .bool false])
       generalize w2.setCells w.heap.size 0 [.string ⟨#[]⟩, .int .u32 0, .bool false] = w3 at hl hb3 NS ⊢))
   exact bodyPost_ret (v := .tuple #[.agg #[.string ⟨#[]⟩, .int .u32 0, .bool false], .slice none 0 0, .int .i64 F]) (res_three Tryz.results176 rfl rfl rfl hl) rfl ⟨_, rfl, ⟨StrsAt.nil _, fun g e => by cases e⟩, hb3⟩
 ·rw [if_pos h1]
  obtain ⟨F, hF⟩ : ∃ F, F = (rdE x).2 := ⟨_, rfl⟩
  rw [← hF] at h1 HRD ⊢
  obtain ⟨⟨nm, act, has⟩, hE⟩ : ∃ E, E = (rdE x).1 := ⟨_, rfl⟩
  rw [← hE] at HRD
  unfold entV at HRD ⊢
  simp only at HRD ⊢
  obtain ⟨ai, hai⟩ : ∃ z : Int, z = (act : Nat) := ⟨_, rfl⟩
  rw [← hai] at HRD
  have e1 : (F != 0) = true := bne_iff_ne.2 h1
  clear hE hai hF
  go_enter Tryz.func176, Tryz.ntmps176
  go_wp2_with (first
   | (go_at_call 202
      ((with_reducible refine (HRD.out trivial).mono ?_); rintro e w1 ⟨rfl, b1⟩)
      have hsz : w.heap.size < w1.heap.size := by have := b1.size; rw [World.size_alloc] at this; omega
      have F0 := hid (blk_on16 (heap_alloc_new w (.cells #[.string ⟨#[]⟩, .int .u32 0, .bool false] 151)) b1)
      have B1 := hid (thn16 (below16 w (.cells #[.string ⟨#[]⟩, .int .u32 0, .bool false] 151)) b1)
      have F0 := hid ((Below.heap_alloc w1 (.cells #[.string nm, .int .u32 ai, .bool has] 151) _ hsz).trans F0.out)
      have B2 := hid (thn16 B1.out (below16 w1 (.cells #[.string nm, .int .u32 ai, .bool has] 151)))
      have ⟨hl, hb3⟩ := retV F0.out B2.out (Nat.le_refl _) ⟨#[]⟩ 0 false
      have NS := hid hb3
      clear b1)
   | ((with_reducible show wpList _ _ _ (⟨none, .store 151 (.tmp 4) (.tmp 17), _, _, _, _⟩ :: _) _ _)
      refine wpList_store_mid rfl 151 (.tmp 4) (.tmp 17) rfl w.heap.size 0 #[.string ⟨#[]⟩, .int .u32 0, .bool false] rfl rfl (thereV F0.out) HIN.out (oneV _ _ _) ?_
      show wpList _ _ _ _ _ ((w1.alloc (.cells #[.string nm, .int .u32 ai, .bool has] 151)).setCells w.heap.size 0 [.string ⟨#[]⟩, .int .u32 0, .bool false])
      generalize (w1.alloc (.cells #[.string nm, .int .u32 ai, .bool has] 151)).setCells w.heap.size 0 [.string ⟨#[]⟩, .int .u32 0, .bool false] = w3 at hl hb3 NS ⊢))
  exact bodyPost_ret (v := .tuple #[.agg #[.string ⟨#[]⟩, .int .u32 0, .bool false], .slice none 0 0, .int .i64 F]) (res_three Tryz.results176 rfl rfl rfl hl) rfl ⟨_, rfl, ⟨StrsAt.nil _, fun g e => by cases e⟩, hb3⟩
end Go.Proofs.YtlenjfodjkhpmaaGreatDoor
