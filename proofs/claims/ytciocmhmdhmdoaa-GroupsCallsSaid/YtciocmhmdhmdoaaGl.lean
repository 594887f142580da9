/- The statement GroupsCalls holds, over what the calls have to return, where what a group has are calls: what a group has are known calls, rising, each once, those that it names and all that the groups have which it names, and no others. -/
import Derived.Test.YtciocmhmdhmdoaaRows
import Derived.Test.YtciocmhmdhmdoaaFr
import Derived.Test.YtciocmhmdhmdoaaG6
import Derived.Test.YtciocmhmdhmdoaaGf
import Derived.Test.YtciocmhmdhmdoaaGj
namespace Go.Proofs.Ytciocmhmdhmdoaa.groupsCalls
set_option linter.unusedSimpArgs false
open Go.ChangeShapes Go.WideShapes Go.ChangeAt Go.RowKit
open Go.ChangeMaps (open_string shut_string)
set_option linter.unusedVariables false
attribute [local go_sem ↓] Go.wp_at_zero Go.wp_at_succ
theorem geq11 (t : TypeId) (a b : ByteArray) : binOp .geq t (.string a) (.string b) = pure (.bool !(Go.Op.bytesLess a.toList b.toList)) := by simp [binOp, Op.stringOp]
attribute [local go_sem] geq11
theorem keep1 {v w w' : World} {p : Addr} {u : Value} (hb : Below w.heap.size w w') (h : w.cell? p = some u ∧ Below v.heap.size v w) : w'.cell? p = some u ∧ Below v.heap.size v w' :=
  ⟨(hb.cell (World.block_lt_of_cell? w p h.1)).trans h.1, thn h.2 hb⟩
theorem keep2 {v w w' : World} {p q : Addr} {u y : Value} (hb : Below w.heap.size w w') (h : w.cell? p = some u ∧ w.cell? q = some y ∧ Below v.heap.size v w) : w'.cell? p = some u ∧ w'.cell? q = some y ∧ Below v.heap.size v w' :=
  ⟨(hb.cell (World.block_lt_of_cell? w p h.1)).trans h.1, (hb.cell (World.block_lt_of_cell? w q h.2.1)).trans h.2.1, thn h.2.2 hb⟩
theorem at_strs {w : World} {q : Option Addr} {n c : Nat} {l : List ByteArray} (h : StrsAt w (.slice q n c) l) {i : Nat} {x : ByteArray} (hx : l[i]? = some x) : ∃ g o, q = some ⟨g, o, none⟩ ∧ w.cell? ⟨g, o + i, none⟩ = some (.string x) := by
  obtain ⟨q', c', e, hr⟩ := h
  injection e with e1 e2 e3
  subst e1
  exact hr i x hx
theorem strs_of {w : World} {g o n c : Nat} {l : List ByteArray} (hn : n = l.length) (h : ∀ k x, l[k]? = some x → w.cell? ⟨g, o + k, none⟩ = some (.string x)) : StrsAt w (.slice (some ⟨g, o, none⟩) n c) l :=
  ⟨some ⟨g, o, none⟩, c, by rw [hn], fun k x hk => ⟨g, o, rfl, h k x hk⟩⟩
theorem exp_form {W : World} {l : List ByteArray} {n : Nat} {er : Int} (hn : n = l.length) (h0 : 0 < n) {f : Nat} {args : Array Value}
    (h : Calls Try.prog f args W fun e w' => ∃ v, e = .returned (.tuple #[v, .int .i64 er]) ∧ StrsAt w' v l ∧ Below W.heap.size W w') :
    Calls Try.prog f args W fun e w' => ∃ g o c, e = .returned (.tuple #[.slice (some ⟨g, o, none⟩) n c, .int .i64 er]) ∧ (∀ k x, l[k]? = some x → w'.cell? ⟨g, o + k, none⟩ = some (.string x)) ∧ Below W.heap.size W w' :=
  h.mono fun e w' h => by
    obtain ⟨v, rfl, h2, h3⟩ := h
    obtain ⟨g, o, c, rfl, hc⟩ := h2.form (by rw [← hn]; exact h0)
    exact ⟨g, o, c, by rw [hn], hc, h3⟩
theorem mem_form {W : World} {l : List ByteArray} {n : Nat} (hn : n = l.length) (h0 : 0 < n) {f : Nat} {args : Array Value}
    (h : Calls Try.prog f args W fun e w' => ∃ v, e = .returned v ∧ w'.ownsRow W.heap.size 9 1 v l.length (sG l) ∧ Below W.heap.size W w') :
    Calls Try.prog f args W fun e w' => ∃ g o c, e = .returned (.slice (some ⟨g, o, none⟩) n c) ∧ (∀ k x, l[k]? = some x → w'.cell? ⟨g, o + k, none⟩ = some (.string x)) ∧ Below W.heap.size W w' :=
  h.mono fun e w' h => by
    obtain ⟨v, rfl, h2, h3⟩ := h
    obtain ⟨g, o, c, rfl, hc⟩ := (strs_own h2).form (by rw [← hn]; exact h0)
    exact ⟨g, o, c, by rw [hn], hc, h3⟩
theorem cells_sG {w : World} {g o : Nat} {Z : List ByteArray} (h : ∀ k s, Z[k]? = some s → w.cell? ⟨g, o + k, none⟩ = some (.string s)) : ∀ j u, (sG Z)[j]? = some u → w.cell? ((⟨g, o, none⟩ : Addr).add j) = some u := fun j u hu => by
  unfold sG at hu
  rw [List.getElem?_map] at hu
  obtain ⟨x, hx, rfl⟩ := Option.map_eq_some_iff.1 hu
  rw [Addr.add_lit]
  exact h j x hx
set_option maxRecDepth 100000 in
set_option maxHeartbeats 32000000 in
theorem core_known {G : World → Prop} {kn : ByteArray → Bool} (HC : GroupsC G kn) (s : ByteArray) (J : Nat) (hJ : J < 18) (hsJ : s = gN J) (hkn : expE s = 0 → ∀ x ∈ expL s, kn x = true) (a1 : Int) (w : World) (hG : G w) :
    Calls Try.prog 5 #[.string s, .int .i64 a1] w fun e w' => e = .returned (.bool true) ∧ Below w.heap.size w w' := by
  have HON := Lib.hid (fun (w w' : World) => HC.on (w := w) (w' := w'))
  have HG := Lib.hid hG
  have HN := Lib.hid (fun (W : World) (g : G W) => groupsTells.names18 HC W g)
  have HAW := Lib.hid (fun (W : World) (g : G W) => awake11_any HC W g)
  obtain ⟨⟨f1, f2, f3⟩, f4⟩ := grp_open hJ
  rw [← hsJ] at f1 f2 f3 f4
  have hsz : s.size ≤ maxLen := by unfold maxLen; omega
  have HES := Lib.hid (fun (W : World) (g : G W) => HC.expand s W g hsz)
  have HDS := Lib.hid (fun (W : World) (g : G W) => HC.deep s W g hsz)
  have HKS := Lib.hid (fun (W : World) (g : G W) => HC.known s W g hsz)
  rw [show (!(memR s).isEmpty) = true from by cases h : memR s with | nil => rw [h] at f1; simp at f1 | cons a b => rfl] at HKS
  have t3 : ¬ (200 : Int) < s.size := by omega
  rcases f4 with ⟨e1, e2⟩ | ⟨e1, e2, e3⟩
  · rw [e1] at HES
    obtain ⟨d, hd⟩ : ∃ d, d = deepR s := ⟨_, rfl⟩
    rw [← hd] at HDS e2
    have d4 : (4 : Int) < (d : Int) := by omega
    have d5 : decide ((4 : Int) < (d : Int)) = true := decide_eq_true d4
    have d6 : decide (4 < d) = true := decide_eq_true e2
    clear e1 hd f1 f2 f3 hsJ hkn hsz HC hG
    go_enter Try.func5, Try.ntmps5
    go_wp2_with (first
      | (go_at_call 12; ((with_reducible refine (HN.out _ HG.out).mono ?_); rintro e v1 ⟨q1, o1, c1, rfl, s1, b1⟩); have G1 := HON.out _ _ HG.out b1; have B1 := b1)
      | (go_at_call 15; ((with_reducible refine (HKS.out _ G1).mono ?_); rintro e v2 ⟨rfl, b2⟩); have G2 := HON.out _ _ G1 b2; have B2 := thn B1 b2)
      | (go_at_call 7; ((with_reducible refine (HES.out _ G2).mono ?_); rintro e v3 ⟨r3, rfl, s3, b3⟩); have G3 := HON.out _ _ G2 b3; have B3 := thn B2 b3)
      | (go_at_call 13; ((with_reducible refine (HDS.out _ G3).mono ?_); rintro e v4 ⟨rfl, b4⟩); have G4 := HON.out _ _ G3 b4; have B4 := thn B3 b4)
      | (go_at_call 10; ((with_reducible refine (HAW.out _ G4).mono ?_); rintro e v5 ⟨rfl, b5⟩); have G5 := HON.out _ _ G4 b5; have B5 := thn B4 b5))
    go_ret
    exact ⟨by first | rfl | simp, B5⟩
  rw [e1] at HES
  have HKN := Lib.hid (hkn e1)
  have HCH := Lib.hid HC
  obtain ⟨M, hM⟩ : ∃ M, M = memR s := ⟨_, rfl⟩
  obtain ⟨L, hL⟩ : ∃ L, L = expL s := ⟨_, rfl⟩
  have HMe := Lib.hid hM.symm
  have HLe := Lib.hid hL.symm
  have HGK := Lib.hid e3
  have m8 := mem_le s
  rw [← hM] at f1 m8
  rw [← hL] at e2 f2 HKN
  have HW8 := Lib.hid (fun k => want_le M k (fun t ht => (e3.mem t (by rw [← hM]; exact ht)).2.1))
  obtain ⟨m, hm⟩ : ∃ m, m = M.length := ⟨_, rfl⟩
  obtain ⟨n, hn⟩ : ∃ n, n = L.length := ⟨_, rfl⟩
  have HM := Lib.hid hm
  have HNL := Lib.hid hn
  rw [← hm] at f1 m8
  rw [← hn] at e2 f2
  have HMS := Lib.hid (fun (W : World) (gg : G W) => mem_form (hm.trans (by rw [hM])) f1 (HC.members s W gg hsz))
  have HES2 := Lib.hid (fun (W : World) (gg : G W) => exp_form (hn.trans (by rw [hL])) e2 (HES.out W gg))
  rw [← hM] at HMS
  rw [← hL] at HES2
  have hL100 : L.length ≤ 100000 := by rw [← hn]; omega
  obtain ⟨d, hd⟩ : ∃ d, d = deepR s := ⟨_, rfl⟩
  have HDe := Lib.hid hd.symm
  rw [← hd] at HDS
  obtain ⟨i0, hi0, hz0, hz1, hz2⟩ := info_parts str_info11
  have HI := Lib.hid hi0
  have HZ0 := Lib.hid hz0
  have HZ1 := Lib.hid hz1
  have HZ2 := Lib.hid hz2
  clear hi0 hz0 hz1 hz2 HES e3 hM hL hm hn hd
  clear HC
  have HC := Lib.hid HCH.out
  clear HCH e1 hsJ hkn hsz hG
  go_enter Try.func5, Try.ntmps5
  go_wp2_with (first
    | (go_at_call 12; ((with_reducible refine (HN.out _ HG.out).mono ?_); rintro e v1 ⟨q1, o1, c1, rfl, s1, b1⟩); have G1 := HON.out _ _ HG.out b1; have B1 := b1)
    | (go_at_call 15; ((with_reducible refine (HKS.out _ G1).mono ?_); rintro e v2 ⟨rfl, b2⟩); have G2 := HON.out _ _ G1 b2; have B2 := thn B1 b2)
    | (go_at_call 7; ((with_reducible refine (HES2.out _ G2).mono ?_); rintro e v3 ⟨gL, oL, cL, rfl, s3, b3⟩); have G3 := HON.out _ _ G2 b3; have B3 := thn B2 b3)
    | (go_at_call 17; ((with_reducible refine (HMS.out _ G3).mono ?_); rintro e v4 ⟨gM, oM, cM, rfl, CM, b4⟩); have G4 := HON.out _ _ G3 b4; have B4 := thn B3 b4))
  have SL0 := Lib.hid (strs_of (c := cL) HNL.out (fun k x h => (b4.cell (World.block_lt_of_cell? _ _ (s3 k x h))).trans (s3 k x h)))
  have CLL := Lib.hid (fun k x (h : L[k]? = some x) => (b4.cell (World.block_lt_of_cell? _ _ (s3 k x h))).trans (s3 k x h))
  have HCM := Lib.hid CM
  clear CM s3
  have CM := HCM
  obtain ⟨VM, hVM⟩ : ∃ VM, VM = v4 := ⟨_, rfl⟩
  subst hVM
  clear G1 G2 G3 B1 b1 B2 b2 B3 b3 b4 HMS
  have GM := Lib.hid G4
  have BM := Lib.hid B4
  clear G4 B4
  go_loopw [10, 12] (fun v10 v12 wr => ∃ k : Nat, k ≤ m ∧ v12 = .int .i64 k ∧ Hid (wr.ownsRow VM.heap.size 9 1 v10 (wantF M k).length (sG (wantF M k))) ∧ Hid (Below VM.heap.size VM wr)) (fun _ v12 _ => m - (intOf v12).toNat)
  case atStart => exact ⟨0, by omega, rfl, Lib.hid (World.ownsRow_nil _ _ _ _), Lib.hid (Below.refl _ _)⟩
  case round =>
    obtain ⟨k, hk, rfl, PO, PB⟩ := hrel
    obtain ⟨V, rfl⟩ : ∃ wo : World, wo = wr := ⟨_, rfl⟩
    have hW8 := HW8.out k
    obtain ⟨nk, hnk⟩ : ∃ n, n = (wantF M k).length := ⟨_, rfl⟩
    have HNK := Lib.hid hnk
    rw [← hnk] at PO hW8
    clear hnk
    by_cases hlt : k < m
    · have hx : M[k]? = some (M[k]'(by rw [← HM.out]; exact hlt)) := List.getElem?_eq_getElem _
      obtain ⟨t, ht⟩ : ∃ t, t = M[k]'(by rw [← HM.out]; exact hlt) := ⟨_, rfl⟩
      rw [← ht] at hx
      have ht2 : t ∈ M := List.mem_of_getElem? hx
      have d0 := CM.out k t hx
      have c0 := (PB.out.cell (World.block_lt_of_cell? VM _ d0)).trans d0
      have HWS := Lib.hid (want_step hx)
      obtain ⟨q1, q2, q3⟩ := HGK.out.mem t (by rw [HMe.out]; exact ht2)
      have hts : t.size ≤ maxLen := by unfold maxLen; omega
      have HKT := Lib.hid (fun (W : World) (gg : G W) => HC.out.known t W gg hts)
      have HET0 := (fun (W : World) (gg : G W) => HC.out.expand t W gg hts)
      have HDT := Lib.hid (fun (W : World) (gg : G W) => HC.out.deep t W gg hts)
      have k1 : (k : Int) < m := by omega
      have k0 : (0 : Int) ≤ k := by omega
      have hw1 : IntKind.i64.wrap ((k : Int) + 1) = k + 1 := by rw [IntKind.wrap_i64]; omega
      have GV := HON.out _ _ GM.out PB.out
      clear hx ht ht2 d0 hts
      by_cases he : memR t = []
      · have HWT := Lib.hid (show wantS (wantF M k) t = wantF M k ++ [t] from by unfold wantS; rw [he]; rfl)
        rw [show (!(memR t).isEmpty) = false from by rw [he]; rfl] at HKT
        clear he q3 HET0 HDT
        go_wp2_with (first
          | (go_at_call 15; ((with_reducible refine (HKT.out _ GV).mono ?_); rintro e w1 ⟨rfl, b1⟩); have c1 := (b1.cell (World.block_lt_of_cell? V _ c0)).trans c0; have P1 := Lib.hid (own_on PO.out b1); have BB1 := Lib.hid (thn PB.out b1); have z1 := BB1.out.size)
          | (at_builtin
             refine wpList_append_own _ rfl (.tmp 87) (.tmp 92) 22 rfl VM.heap.size 9 i0 _ 1 16 Try.underlying22 HI.out HZ0.out HZ1.out HZ2.out rfl (by omega) _ nk _ rfl (P1.out.alloc _) ⟨w1.heap.size, 0, none⟩ 1 _ (sG [t]) rfl rfl (news_g w1 t _) (sG_one _) (by unfold maxLen; omega) (by omega) (by rw [World.size_alloc]; omega) ?_
             intro vA wA oA hA _
             rw [← sG_app] at oA
             have OA := Lib.hid oA
             have HAA := Lib.hid hA
             clear oA hA))
        go_roundw
        case rel => exact ⟨k + 1, by omega, by go_num, Lib.hid (by rw [HWS.out, HWT.out, List.length_append, ← HNK.out]; exact OA.out), Lib.hid ((BB1.out.alloc z1 _).grown HAA.out (by rw [World.size_alloc]; omega) (fun b hb => (P1.out.lt b hb).1))⟩
        case measure => simp [intOf]; omega
      · obtain ⟨q4, q5, q6⟩ := q3 he
        have HWT := Lib.hid (show wantS (wantF M k) t = wantF M k ++ expL t from by
          unfold wantS
          cases h : memR t with
          | nil => exact absurd h he
          | cons a b => rfl)
        rw [show (!(memR t).isEmpty) = true from by cases h : memR t with | nil => exact absurd h he | cons a b => rfl] at HKT
        rw [q4] at HET0
        obtain ⟨Z, hZ⟩ : ∃ Z, Z = expL t := ⟨_, rfl⟩
        rw [← hZ] at HET0 HWT q2 q6
        obtain ⟨nz, hnz⟩ : ∃ n, n = Z.length := ⟨_, rfl⟩
        have HNZ := Lib.hid hnz
        rw [← hnz] at q2 q6
        have HET := Lib.hid (fun (W : World) (gg : G W) => exp_form hnz q6 (HET0 W gg))
        obtain ⟨dt, hdt⟩ : ∃ d, d = deepR t := ⟨_, rfl⟩
        rw [← hdt] at HDT q5
        rw [HDe.out] at q5
        have dd1 : decide ((d : Int) ≤ (dt : Int)) = false := decide_eq_false (by omega)
        have dd2 : decide (d ≤ dt) = false := decide_eq_false (by omega)
        have dd3 : ¬ d ≤ dt := by omega
        clear he q3 q4 q5 hZ hnz hdt HET0
        go_wp2_with (first
          | (go_at_call 15; ((with_reducible refine (HKT.out _ GV).mono ?_); rintro e w1 ⟨rfl, b1⟩); have c1 := (b1.cell (World.block_lt_of_cell? V _ c0)).trans c0; have g1 := HON.out _ _ GV b1; have z1 := thn PB.out b1)
          | (go_at_call 7; ((with_reducible refine (HET.out _ g1).mono ?_); rintro e w2 ⟨gz, oz, cz, rfl, s2, b2⟩); have g2 := HON.out _ _ g1 b2; have z2 := thn z1 b2; have c2 := (b2.cell (World.block_lt_of_cell? _ _ c1)).trans c1)
          | (go_at_call 13; ((with_reducible refine (HDT.out _ g2).mono ?_); rintro e w3 ⟨rfl, b3⟩); have g3 := HON.out _ _ g2 b3; have z3 := thn z2 b3)
          | (go_at_call 13; ((with_reducible refine (HDS.out _ g3).mono ?_); rintro e w4 ⟨rfl, b4⟩); have z4 := Lib.hid (thn z3 b4); have z5 := z4.out.size; have P4 := Lib.hid (own_on PO.out (thn (thn (thn b1 b2) b3) b4)); have HZ := Lib.hid (fun k x (h : Z[k]? = some x) => ((thn b3 b4).cell (World.block_lt_of_cell? _ _ (s2 k x h))).trans (s2 k x h)); clear s2)
          | (at_builtin
             refine wpList_append_own _ rfl (.tmp 114) (.tmp 115) 22 rfl VM.heap.size 9 i0 _ 1 16 Try.underlying22 HI.out HZ0.out HZ1.out HZ2.out rfl (by omega) _ nk _ rfl (P4.out) ⟨gz, oz, none⟩ nz _ (sG Z) rfl (by rw [sG_length, Nat.mul_one]; exact HNZ.out.symm) (cells_sG HZ.out) (sG_one _) (by unfold maxLen; omega) (by omega) (by omega) ?_
             intro vA wA oA hA _
             rw [← sG_app] at oA
             have OA := Lib.hid oA
             have HAA := Lib.hid hA
             clear oA hA))
        go_roundw
        case rel => exact ⟨k + 1, by omega, by go_num, Lib.hid (by rw [HWS.out, HWT.out, List.length_append, ← HNK.out, ← HNZ.out]; exact OA.out), Lib.hid (z4.out.grown HAA.out (by omega) (fun b hb => (P4.out.lt b hb).1))⟩
        case measure => simp [intOf]; omega
    · obtain rfl : k = m := by omega
      have kk : ¬ (k : Int) < k := by omega
      have HWA := Lib.hid (fun x (hx : x ∈ wantF M k) => (by have := HGK.out.want x (by rw [HMe.out, ← HM.out]; exact hx); rwa [HLe.out] at this : x ∈ L))
      have HAL := Lib.hid (fun x (hx : x ∈ L) => (by have := HGK.out.all x (by rw [HLe.out]; exact hx); rwa [HMe.out, ← HM.out] at this : x ∈ wantF M k ∧ x.size ≤ 200))
      have HRI := Lib.hid (fun i x y (h1 : L[i]? = some x) (h2 : L[i + 1]? = some y) => HGK.out.rise i x y (by rw [HLe.out]; exact h1) (by rw [HLe.out]; exact h2))
      have SW := Lib.hid (strs_own (show V.ownsRow VM.heap.size 9 1 _ (wantF M k).length (sG (wantF M k)) by rw [← HNK.out]; exact PO.out))
      obtain ⟨qw, cw, hvw⟩ := groupsTells.own_form11 PO.out
      have hW9 : (wantF M k).length ≤ 100000 := by rw [← HNK.out]; omega
      obtain ⟨WL, hWL⟩ : ∃ W, W = wantF M k := ⟨_, rfl⟩
      rw [← hWL] at HNK HWA HAL SW hW9
      clear PO hWL
      subst hvw
      have HHW := Lib.hid (fun (x : ByteArray) (hx : x ∈ WL) (W : World) (h : StrsAt W (.slice qw nk cw) WL) => has_yes _ WL x W h hW9 hx)
      have HHL := Lib.hid (fun (x : ByteArray) (hx : x ∈ L) (W : World) (h : StrsAt W (.slice (some ⟨gL, oL, none⟩) n cL) L) => has_yes _ L x W h hL100 hx)
      have SL := Lib.hid (SL0.out.on PB.out)
      have CW := Lib.hid (fun (i : Nat) (x : ByteArray) (h : WL[i]? = some x) => at_strs SW.out h)
      have GV := Lib.hid (HON.out _ _ GM.out PB.out)
      have BV := Lib.hid (thn BM.out PB.out)
      go_wp2_with fail
      go_loop [15] (fun v15 => ∃ i : Nat, i ≤ nk ∧ v15 = .int .i64 i) (fun v15 => nk - (intOf v15).toNat)
      case atStart => exact ⟨0, by omega, rfl⟩
      case round =>
        obtain ⟨i, hi, rfl⟩ := hrel
        by_cases hil : i < nk
        · have hx : WL[i]? = some (WL[i]'(by rw [← HNK.out]; exact hil)) := List.getElem?_eq_getElem _
          obtain ⟨x, ex⟩ : ∃ t, t = WL[i]'(by rw [← HNK.out]; exact hil) := ⟨_, rfl⟩
          rw [← ex] at hx
          obtain ⟨g1, o1, e1, c0⟩ := CW.out i x hx
          subst e1
          have hxL := HWA.out x (List.mem_of_getElem? hx)
          have k1 : (i : Int) < nk := by omega
          have k0 : (0 : Int) ≤ i := by omega
          have hw1 : IntKind.i64.wrap ((i : Int) + 1) = i + 1 := by rw [IntKind.wrap_i64]; omega
          have HXL := Lib.hid (HHL.out x hxL V SL.out)
          clear hx ex hxL
          go_wp2_with (first
            | (go_at_call 18; ((with_reducible refine (HXL.out).mono ?_); rintro e w1 ⟨rfl, rfl⟩)))
          go_round
          case rel => exact ⟨i + 1, by omega, by go_num⟩
          case measure => simp [intOf]; omega
        · obtain rfl : i = nk := by omega
          have ii : ¬ (i : Int) < i := by omega
          go_wp2_with fail
          go_loopw [16] (fun v16 wr => ∃ j : Nat, j ≤ n ∧ v16 = .int .i64 j ∧ Hid (Below V.heap.size V wr)) (fun v16 _ => n - (intOf v16).toNat)
          case atStart => exact ⟨0, by omega, rfl, Lib.hid (Below.refl _ _)⟩
          case round =>
            obtain ⟨j, hj, rfl, PB4⟩ := hrel
            obtain ⟨U, rfl⟩ : ∃ wo : World, wo = wr := ⟨_, rfl⟩
            by_cases hjl : j < n
            · have hx : L[j]? = some (L[j]'(by rw [← HNL.out]; exact hjl)) := List.getElem?_eq_getElem _
              obtain ⟨x, ex⟩ : ∃ t, t = L[j]'(by rw [← HNL.out]; exact hjl) := ⟨_, rfl⟩
              rw [← ex] at hx
              have dx := CLL.out j x hx
              have cx := ((thn PB.out PB4.out).cell (World.block_lt_of_cell? VM _ dx)).trans dx
              obtain ⟨HXW, hxs⟩ := HAL.out x (List.mem_of_getElem? hx)
              have HKC := Lib.hid (fun (W : World) (gg : G W) => HC.out.isCall x W gg (by unfold maxLen; omega))
              rw [HKN.out x (List.mem_of_getElem? hx)] at HKC
              have k1 : (j : Int) < n := by omega
              have k0 : (0 : Int) ≤ j := by omega
              have hw1 : IntKind.i64.wrap ((j : Int) + 1) = j + 1 := by rw [IntKind.wrap_i64]; omega
              have HX := Lib.hid hx
              clear hx ex dx hxs
              match j, hj, hjl, HX with
              | 0, hj, hjl, HX =>
                go_wp2_with fail
                refine wp_region_held_drew (S := (fun w' => w'.cell? ⟨gL, oL, none⟩ = some (.string x) ∧ Below V.heap.size V w')) (by kernel_rfl) ?_ (fun hHeld => ?_)
                · exact ⟨cx, (thn PB4.out (Below.refl _ _)).drew⟩
                refine take_op2 (i := 0) (v := ?_) rfl (by kernel_rfl) (by kernel_rfl) (by kernel_rfl) (fun _ _ _ h => h) (Or.inl ⟨wanted_plain rfl, ?_⟩) (by assumption) ?_
                rotate_left
                · (intro w hSw; (try dsimp only at hSw); go_simp; try with_reducible rfl)
                intro act_ hact_; simp only [Act.put, List.setIfInBounds_toArray, List.set_cons_zero, List.set_cons_succ] at hact_; subst hact_
                refine take_op2 (i := 1) (v := ?_) rfl (by kernel_rfl) (by kernel_rfl) (by kernel_rfl) (fun _ _ _ h => h) (Or.inl ⟨wanted_plain rfl, ?_⟩) (by assumption) ?_
                rotate_left
                · (intro w hSw; (try dsimp only at hSw); go_simp; try with_reducible rfl)
                intro act_ hact_; simp only [Act.put, List.setIfInBounds_toArray, List.set_cons_zero, List.set_cons_succ] at hact_; subst hact_
                refine take_op2 (i := 2) (v := ?_) rfl (by kernel_rfl) (by kernel_rfl) (by kernel_rfl) (fun _ _ _ h => h) (Or.inl ⟨wanted_plain rfl, ?_⟩) (by assumption) ?_
                rotate_left
                · (intro w hSw; (try dsimp only at hSw); go_simp; try with_reducible rfl)
                intro act_ hact_; simp only [Act.put, List.setIfInBounds_toArray, List.set_cons_zero, List.set_cons_succ] at hact_; subst hact_
                refine take_op2 (i := 3) (v := ?_) rfl (by kernel_rfl) (by kernel_rfl) (by kernel_rfl) (fun _ _ _ h => h) (Or.inl ⟨wanted_plain rfl, ?_⟩) (by assumption) ?_
                rotate_left
                · (intro w hSw; (try dsimp only at hSw); go_simp; try with_reducible rfl)
                intro act_ hact_; simp only [Act.put, List.setIfInBounds_toArray, List.set_cons_zero, List.set_cons_succ] at hact_; subst hact_
                refine wpAnyH_ready (rs := [4]) (by kernel_rfl) (List.cons_ne_nil _ _) ?_
                refine AllReadyH.cons rfl (fun K hK => ?_) AllReadyH.nil
                go_simp
                go_wp2_with (go_at_call 19; ((with_reducible refine (HKC.out _ (HON.out _ _ GV.out hHeld.2)).mono ?_); rintro e y5 ⟨rfl, b5⟩))
                refine hK.out _ _ ?_ (fun hHeld => ?_)
                · exact keep1 b5 hHeld
                clear hK K
                refine take_op2 (i := 5) (v := ?_) rfl (by kernel_rfl) (by kernel_rfl) (by kernel_rfl) (fun _ _ _ h => h) (Or.inl ⟨wanted_plain rfl, ?_⟩) (by assumption) ?_
                rotate_left
                · (intro w hSw; (try dsimp only at hSw); go_simp; try with_reducible rfl)
                intro act_ hact_; simp only [Act.put, List.setIfInBounds_toArray, List.set_cons_zero, List.set_cons_succ] at hact_; subst hact_
                refine take_op2 (i := 6) (v := ?_) rfl (by kernel_rfl) (by kernel_rfl) (by kernel_rfl) (fun _ _ _ h => h) (Or.inl ⟨wanted_plain rfl, ?_⟩) (by assumption) ?_
                rotate_left
                · (intro w hSw; (try dsimp only at hSw); go_simp; try with_reducible rfl)
                intro act_ hact_; simp only [Act.put, List.setIfInBounds_toArray, List.set_cons_zero, List.set_cons_succ] at hact_; subst hact_
                refine take_op2 (i := 7) (v := ?_) rfl (by kernel_rfl) (by kernel_rfl) (by kernel_rfl) (fun _ _ _ h => h) (Or.inl ⟨by rfl, ?_⟩) (by assumption) ?_
                rotate_left
                · (intro w hSw; (try dsimp only at hSw); go_simp; try with_reducible rfl)
                intro act_ hact_; simp only [Act.put, List.setIfInBounds_toArray, List.set_cons_zero, List.set_cons_succ] at hact_; subst hact_
                refine take_op2 (i := 8) (v := ?_) rfl (by kernel_rfl) (by kernel_rfl) (by kernel_rfl) (fun _ _ _ h => h) (Or.inl ⟨by rfl, ?_⟩) (by assumption) ?_
                rotate_left
                · (intro w hSw; (try dsimp only at hSw); go_simp; try with_reducible rfl)
                intro act_ hact_; simp only [Act.put, List.setIfInBounds_toArray, List.set_cons_zero, List.set_cons_succ] at hact_; subst hact_
                refine take_op2 (i := 9) (v := ?_) rfl (by kernel_rfl) (by kernel_rfl) (by kernel_rfl) (fun _ _ _ h => h) (Or.inl ⟨by rfl, ?_⟩) (by assumption) ?_
                rotate_left
                · (intro w hSw; (try dsimp only at hSw); go_simp; try with_reducible rfl)
                intro act_ hact_; simp only [Act.put, List.setIfInBounds_toArray, List.set_cons_zero, List.set_cons_succ] at hact_; subst hact_
                refine take_op2 (i := 10) (v := ?_) rfl (by kernel_rfl) (by kernel_rfl) (by kernel_rfl) (fun _ _ _ h => h) (Or.inl ⟨by rfl, ?_⟩) (by assumption) ?_
                rotate_left
                · (intro w hSw; (try dsimp only at hSw); go_simp; try with_reducible rfl)
                intro act_ hact_; simp only [Act.put, List.setIfInBounds_toArray, List.set_cons_zero, List.set_cons_succ] at hact_; subst hact_
                refine take_op2 (i := 11) (v := ?_) rfl (by kernel_rfl) (by kernel_rfl) (by kernel_rfl) (fun _ _ _ h => h) (Or.inl ⟨by rfl, ?_⟩) (by assumption) ?_
                rotate_left
                · (intro w hSw; (try dsimp only at hSw); go_simp; try with_reducible rfl)
                intro act_ hact_; simp only [Act.put, List.setIfInBounds_toArray, List.set_cons_zero, List.set_cons_succ] at hact_; subst hact_
                refine wpAnyH_ready (rs := [12]) (by kernel_rfl) (List.cons_ne_nil _ _) ?_
                refine AllReadyH.cons rfl (fun K hK => ?_) AllReadyH.nil
                go_simp
                go_wp2_with (go_at_call 18; ((with_reducible refine (HHW.out x HXW _ (SW.out.on hHeld.2)).mono ?_); rintro e y6 ⟨rfl, rfl⟩))
                refine hK.out _ _ ?_ (fun hHeld => ?_)
                · exact hHeld
                clear hK K
                refine take_op2 (i := 13) (v := ?_) rfl (by kernel_rfl) (by kernel_rfl) (by kernel_rfl) (fun _ _ _ h => h) (Or.inl ⟨by rfl, ?_⟩) (by assumption) ?_
                rotate_left
                · (intro w hSw; (try dsimp only at hSw); go_simp; try with_reducible rfl)
                intro act_ hact_; simp only [Act.put, List.setIfInBounds_toArray, List.set_cons_zero, List.set_cons_succ] at hact_; subst hact_
                refine take_op2 (i := 14) (v := ?_) rfl (by kernel_rfl) (by kernel_rfl) (by kernel_rfl) (fun _ _ _ h => h) (Or.inl ⟨wanted_plain rfl, ?_⟩) (by assumption) ?_
                rotate_left
                · (intro w hSw; (try dsimp only at hSw); go_simp; try with_reducible rfl)
                intro act_ hact_; simp only [Act.put, List.setIfInBounds_toArray, List.set_cons_zero, List.set_cons_succ] at hact_; subst hact_
                refine take_op2 (i := 15) (v := ?_) rfl (by kernel_rfl) (by kernel_rfl) (by kernel_rfl) (fun _ _ _ h => h) (Or.inl ⟨wanted_plain rfl, ?_⟩) (by assumption) ?_
                rotate_left
                · (intro w hSw; (try dsimp only at hSw); go_simp; try with_reducible rfl)
                intro act_ hact_; simp only [Act.put, List.setIfInBounds_toArray, List.set_cons_zero, List.set_cons_succ] at hact_; subst hact_
                refine take_op2 (i := 16) (v := ?_) rfl (by kernel_rfl) (by kernel_rfl) (by kernel_rfl) (fun _ _ _ h => h) (Or.inl ⟨by rfl, ?_⟩) (by assumption) ?_
                rotate_left
                · (intro w hSw; (try dsimp only at hSw); go_simp; try with_reducible rfl)
                intro act_ hact_; simp only [Act.put, List.setIfInBounds_toArray, List.set_cons_zero, List.set_cons_succ] at hact_; subst hact_
                refine take_op2 (i := 17) (v := ?_) rfl (by kernel_rfl) (by kernel_rfl) (by kernel_rfl) (fun _ _ _ h => h) (Or.inl ⟨by rfl, ?_⟩) (by assumption) ?_
                rotate_left
                · (intro w hSw; (try dsimp only at hSw); go_simp; try with_reducible rfl)
                intro act_ hact_; simp only [Act.put, List.setIfInBounds_toArray, List.set_cons_zero, List.set_cons_succ] at hact_; subst hact_
                refine take_op2 (i := 18) (v := ?_) rfl (by kernel_rfl) (by kernel_rfl) (by kernel_rfl) (fun _ _ _ h => h) (Or.inl ⟨by rfl, ?_⟩) (by assumption) ?_
                rotate_left
                · (intro w hSw; (try dsimp only at hSw); go_simp; try with_reducible rfl)
                intro act_ hact_; simp only [Act.put, List.setIfInBounds_toArray, List.set_cons_zero, List.set_cons_succ] at hact_; subst hact_
                refine take_op2 (i := 19) (v := undef) rfl (by kernel_rfl) (by kernel_rfl) (by kernel_rfl) (fun _ _ _ h => h) (Or.inr ⟨by rfl, rfl⟩) (by assumption) ?_
                intro act_ hact_; simp only [Act.put, List.setIfInBounds_toArray, List.set_cons_zero, List.set_cons_succ] at hact_; subst hact_
                refine take_op2 (i := 20) (v := undef) rfl (by kernel_rfl) (by kernel_rfl) (by kernel_rfl) (fun _ _ _ h => h) (Or.inr ⟨by rfl, rfl⟩) (by assumption) ?_
                intro act_ hact_; simp only [Act.put, List.setIfInBounds_toArray, List.set_cons_zero, List.set_cons_succ] at hact_; subst hact_
                refine take_op2 (i := 21) (v := undef) rfl (by kernel_rfl) (by kernel_rfl) (by kernel_rfl) (fun _ _ _ h => h) (Or.inr ⟨by rfl, rfl⟩) (by assumption) ?_
                intro act_ hact_; simp only [Act.put, List.setIfInBounds_toArray, List.set_cons_zero, List.set_cons_succ] at hact_; subst hact_
                refine take_op2 (i := 22) (v := undef) rfl (by kernel_rfl) (by kernel_rfl) (by kernel_rfl) (fun _ _ _ h => h) (Or.inr ⟨by rfl, rfl⟩) (by assumption) ?_
                intro act_ hact_; simp only [Act.put, List.setIfInBounds_toArray, List.set_cons_zero, List.set_cons_succ] at hact_; subst hact_
                refine take_op2 (i := 23) (v := undef) rfl (by kernel_rfl) (by kernel_rfl) (by kernel_rfl) (fun _ _ _ h => h) (Or.inr ⟨by rfl, rfl⟩) (by assumption) ?_
                intro act_ hact_; simp only [Act.put, List.setIfInBounds_toArray, List.set_cons_zero, List.set_cons_succ] at hact_; subst hact_
                refine take_op2 (i := 24) (v := undef) rfl (by kernel_rfl) (by kernel_rfl) (by kernel_rfl) (fun _ _ _ h => h) (Or.inr ⟨by rfl, rfl⟩) (by assumption) ?_
                intro act_ hact_; simp only [Act.put, List.setIfInBounds_toArray, List.set_cons_zero, List.set_cons_succ] at hact_; subst hact_
                refine take_op2 (i := 25) (v := undef) rfl (by kernel_rfl) (by kernel_rfl) (by kernel_rfl) (fun _ _ _ h => h) (Or.inr ⟨by rfl, rfl⟩) (by assumption) ?_
                intro act_ hact_; simp only [Act.put, List.setIfInBounds_toArray, List.set_cons_zero, List.set_cons_succ] at hact_; subst hact_
                refine take_op2 (i := 26) (v := undef) rfl (by kernel_rfl) (by kernel_rfl) (by kernel_rfl) (fun _ _ _ h => h) (Or.inr ⟨by rfl, rfl⟩) (by assumption) ?_
                intro act_ hact_; simp only [Act.put, List.setIfInBounds_toArray, List.set_cons_zero, List.set_cons_succ] at hact_; subst hact_
                refine take_op2 (i := 27) (v := undef) rfl (by kernel_rfl) (by kernel_rfl) (by kernel_rfl) (fun _ _ _ h => h) (Or.inr ⟨by rfl, rfl⟩) (by assumption) ?_
                intro act_ hact_; simp only [Act.put, List.setIfInBounds_toArray, List.set_cons_zero, List.set_cons_succ] at hact_; subst hact_
                refine take_op2 (i := 28) (v := undef) rfl (by kernel_rfl) (by kernel_rfl) (by kernel_rfl) (fun _ _ _ h => h) (Or.inr ⟨by rfl, rfl⟩) (by assumption) ?_
                intro act_ hact_; simp only [Act.put, List.setIfInBounds_toArray, List.set_cons_zero, List.set_cons_succ] at hact_; subst hact_
                refine take_op2 (i := 29) (v := ?_) rfl (by kernel_rfl) (by kernel_rfl) (by kernel_rfl) (fun _ _ _ h => h) (Or.inl ⟨by rfl, ?_⟩) (by assumption) ?_
                rotate_left
                · (intro w hSw; (try dsimp only at hSw); go_simp; try with_reducible rfl)
                intro act_ hact_; simp only [Act.put, List.setIfInBounds_toArray, List.set_cons_zero, List.set_cons_succ] at hact_; subst hact_
                refine take_op2 (i := 30) (v := ?_) rfl (by kernel_rfl) (by kernel_rfl) (by kernel_rfl) (fun _ _ _ h => h) (Or.inl ⟨wanted_plain rfl, ?_⟩) (by assumption) ?_
                rotate_left
                · (intro w hSw; (try dsimp only at hSw); go_simp; try with_reducible rfl)
                intro act_ hact_; simp only [Act.put, List.setIfInBounds_toArray, List.set_cons_zero, List.set_cons_succ] at hact_; subst hact_
                refine wpAnyH_done (by kernel_rfl) ?_ _
                have hq := hHeld
                clear hHeld
                go_wp2_with fail
                go_roundw
                case rel => exact ⟨1, by omega, by go_num, Lib.hid hq.2⟩
                case measure => simp [intOf]; omega
              | i + 1, hj, hjl, HX =>
                have hy : L[i]? = some (L[i]'(by rw [← HNL.out]; omega)) := List.getElem?_eq_getElem _
                obtain ⟨y, ey⟩ : ∃ t, t = L[i]'(by rw [← HNL.out]; omega) := ⟨_, rfl⟩
                rw [← ey] at hy
                have dy := CLL.out i y hy
                have cy := ((thn PB.out PB4.out).cell (World.block_lt_of_cell? VM _ dy)).trans dy
                have hlt := HRI.out i y x hy HX.out
                have hm1 : IntKind.i64.wrap ((i : Int) + 1 - 1) = i := by rw [IntKind.wrap_i64]; omega
                have hm0 : (0 : Int) < (i : Int) + 1 := by omega
                have hm2 : (0 : Int) ≤ (i : Int) := by omega
                have hm3 : (i : Int) < (n : Int) := by omega
                have hmj : ((i + 1 : Nat) : Int) = (i : Int) + 1 := by omega
                have hm4 : (0 : Int) ≤ (i : Int) + 1 := by omega
                have hm5 : (i : Int) + 1 < (n : Int) := by omega
                have hm7 : IntKind.i64.wrap (i : Int) = i := by rw [IntKind.wrap_i64]; omega
                have hm6 : ((i : Int) + 1).toNat = i + 1 := by omega
                have hm8 : decide ((0 : Int) < (i : Int) + 1) = true := decide_eq_true hm0
                clear hy ey dy
                go_wp2_with fail
                refine wp_region_held_drew (S := (fun w' => w'.cell? ⟨gL, oL + (i + 1), none⟩ = some (.string x) ∧ w'.cell? ⟨gL, oL + i, none⟩ = some (.string y) ∧ Below V.heap.size V w')) (by kernel_rfl) ?_ (fun hHeld => ?_)
                · exact ⟨cx, cy, (thn PB4.out (Below.refl _ _)).drew⟩
                refine take_op2 (i := 0) (v := ?_) rfl (by kernel_rfl) (by kernel_rfl) (by kernel_rfl) (fun _ _ _ h => h) (Or.inl ⟨wanted_plain rfl, ?_⟩) (by assumption) ?_
                rotate_left
                · (intro w hSw; (try dsimp only at hSw); go_simp; try with_reducible rfl)
                intro act_ hact_; simp only [Act.put, List.setIfInBounds_toArray, List.set_cons_zero, List.set_cons_succ] at hact_; subst hact_
                refine take_op2 (i := 1) (v := ?_) rfl (by kernel_rfl) (by kernel_rfl) (by kernel_rfl) (fun _ _ _ h => h) (Or.inl ⟨wanted_plain rfl, ?_⟩) (by assumption) ?_
                rotate_left
                · (intro w hSw; (try dsimp only at hSw); go_simp; try with_reducible rfl)
                intro act_ hact_; simp only [Act.put, List.setIfInBounds_toArray, List.set_cons_zero, List.set_cons_succ] at hact_; subst hact_
                refine take_op2 (i := 2) (v := ?_) rfl (by kernel_rfl) (by kernel_rfl) (by kernel_rfl) (fun _ _ _ h => h) (Or.inl ⟨wanted_plain rfl, ?_⟩) (by assumption) ?_
                rotate_left
                · (intro w hSw; (try dsimp only at hSw); go_simp; try with_reducible rfl)
                intro act_ hact_; simp only [Act.put, List.setIfInBounds_toArray, List.set_cons_zero, List.set_cons_succ] at hact_; subst hact_
                refine take_op2 (i := 3) (v := ?_) rfl (by kernel_rfl) (by kernel_rfl) (by kernel_rfl) (fun _ _ _ h => h) (Or.inl ⟨wanted_plain rfl, ?_⟩) (by assumption) ?_
                rotate_left
                · (intro w hSw; (try dsimp only at hSw); go_simp; try with_reducible rfl)
                intro act_ hact_; simp only [Act.put, List.setIfInBounds_toArray, List.set_cons_zero, List.set_cons_succ] at hact_; subst hact_
                refine wpAnyH_ready (rs := [4]) (by kernel_rfl) (List.cons_ne_nil _ _) ?_
                refine AllReadyH.cons rfl (fun K hK => ?_) AllReadyH.nil
                go_simp
                go_wp2_with (go_at_call 19; ((with_reducible refine (HKC.out _ (HON.out _ _ GV.out hHeld.2.2)).mono ?_); rintro e y5 ⟨rfl, b5⟩))
                refine hK.out _ _ ?_ (fun hHeld => ?_)
                · exact keep2 b5 hHeld
                clear hK K
                refine take_op2 (i := 5) (v := ?_) rfl (by kernel_rfl) (by kernel_rfl) (by kernel_rfl) (fun _ _ _ h => h) (Or.inl ⟨wanted_plain rfl, ?_⟩) (by assumption) ?_
                rotate_left
                · (intro w hSw; (try dsimp only at hSw); go_simp; try with_reducible rfl)
                intro act_ hact_; simp only [Act.put, List.setIfInBounds_toArray, List.set_cons_zero, List.set_cons_succ] at hact_; subst hact_
                refine take_op2 (i := 6) (v := ?_) rfl (by kernel_rfl) (by kernel_rfl) (by kernel_rfl) (fun _ _ _ h => h) (Or.inl ⟨wanted_plain rfl, ?_⟩) (by assumption) ?_
                rotate_left
                · (intro w hSw; (try dsimp only at hSw); go_simp; try with_reducible rfl)
                intro act_ hact_; simp only [Act.put, List.setIfInBounds_toArray, List.set_cons_zero, List.set_cons_succ] at hact_; subst hact_
                refine take_op2 (i := 7) (v := ?_) rfl (by kernel_rfl) (by kernel_rfl) (by kernel_rfl) (fun _ _ _ h => h) (Or.inl ⟨by rfl, ?_⟩) (by assumption) ?_
                rotate_left
                · (intro w hSw; (try dsimp only at hSw); go_simp; try with_reducible rfl)
                intro act_ hact_; simp only [Act.put, List.setIfInBounds_toArray, List.set_cons_zero, List.set_cons_succ] at hact_; subst hact_
                refine take_op2 (i := 8) (v := ?_) rfl (by kernel_rfl) (by kernel_rfl) (by kernel_rfl) (fun _ _ _ h => h) (Or.inl ⟨by rfl, ?_⟩) (by assumption) ?_
                rotate_left
                · (intro w hSw; (try dsimp only at hSw); go_simp; try with_reducible rfl)
                intro act_ hact_; simp only [Act.put, List.setIfInBounds_toArray, List.set_cons_zero, List.set_cons_succ] at hact_; subst hact_
                refine take_op2 (i := 9) (v := ?_) rfl (by kernel_rfl) (by kernel_rfl) (by kernel_rfl) (fun _ _ _ h => h) (Or.inl ⟨by rfl, ?_⟩) (by assumption) ?_
                rotate_left
                · (intro w hSw; (try dsimp only at hSw); go_simp; try with_reducible rfl)
                intro act_ hact_; simp only [Act.put, List.setIfInBounds_toArray, List.set_cons_zero, List.set_cons_succ] at hact_; subst hact_
                refine take_op2 (i := 10) (v := ?_) rfl (by kernel_rfl) (by kernel_rfl) (by kernel_rfl) (fun _ _ _ h => h) (Or.inl ⟨by rfl, ?_⟩) (by assumption) ?_
                rotate_left
                · (intro w hSw; (try dsimp only at hSw); go_simp; try with_reducible rfl)
                intro act_ hact_; simp only [Act.put, List.setIfInBounds_toArray, List.set_cons_zero, List.set_cons_succ] at hact_; subst hact_
                refine take_op2 (i := 11) (v := ?_) rfl (by kernel_rfl) (by kernel_rfl) (by kernel_rfl) (fun _ _ _ h => h) (Or.inl ⟨by rfl, ?_⟩) (by assumption) ?_
                rotate_left
                · (intro w hSw; (try dsimp only at hSw); go_simp; try with_reducible rfl)
                intro act_ hact_; simp only [Act.put, List.setIfInBounds_toArray, List.set_cons_zero, List.set_cons_succ] at hact_; subst hact_
                refine wpAnyH_ready (rs := [12]) (by kernel_rfl) (List.cons_ne_nil _ _) ?_
                refine AllReadyH.cons rfl (fun K hK => ?_) AllReadyH.nil
                go_simp
                go_wp2_with (go_at_call 18; ((with_reducible refine (HHW.out x HXW _ (SW.out.on hHeld.2.2)).mono ?_); rintro e y6 ⟨rfl, rfl⟩))
                refine hK.out _ _ ?_ (fun hHeld => ?_)
                · exact hHeld
                clear hK K
                refine take_op2 (i := 13) (v := ?_) rfl (by kernel_rfl) (by kernel_rfl) (by kernel_rfl) (fun _ _ _ h => h) (Or.inl ⟨by rfl, ?_⟩) (by assumption) ?_
                rotate_left
                · (intro w hSw; (try dsimp only at hSw); go_simp; try with_reducible rfl)
                intro act_ hact_; simp only [Act.put, List.setIfInBounds_toArray, List.set_cons_zero, List.set_cons_succ] at hact_; subst hact_
                refine take_op2 (i := 14) (v := ?_) rfl (by kernel_rfl) (by kernel_rfl) (by kernel_rfl) (fun _ _ _ h => h) (Or.inl ⟨wanted_plain rfl, ?_⟩) (by assumption) ?_
                rotate_left
                · (intro w hSw; (try dsimp only at hSw); go_simp; try with_reducible rfl)
                intro act_ hact_; simp only [Act.put, List.setIfInBounds_toArray, List.set_cons_zero, List.set_cons_succ] at hact_; subst hact_
                refine take_op2 (i := 15) (v := ?_) rfl (by kernel_rfl) (by kernel_rfl) (by kernel_rfl) (fun _ _ _ h => h) (Or.inl ⟨wanted_plain rfl, ?_⟩) (by assumption) ?_
                rotate_left
                · (intro w hSw; (try dsimp only at hSw); go_simp; try with_reducible rfl)
                intro act_ hact_; simp only [Act.put, List.setIfInBounds_toArray, List.set_cons_zero, List.set_cons_succ] at hact_; subst hact_
                refine take_op2 (i := 16) (v := ?_) rfl (by kernel_rfl) (by kernel_rfl) (by kernel_rfl) (fun _ _ _ h => h) (Or.inl ⟨by rfl, ?_⟩) (by assumption) ?_
                rotate_left
                · (intro w hSw; (try dsimp only at hSw); go_simp; try with_reducible rfl)
                intro act_ hact_; simp only [Act.put, List.setIfInBounds_toArray, List.set_cons_zero, List.set_cons_succ] at hact_; subst hact_
                refine take_op2 (i := 17) (v := ?_) rfl (by kernel_rfl) (by kernel_rfl) (by kernel_rfl) (fun _ _ _ h => h) (Or.inl ⟨by rfl, ?_⟩) (by assumption) ?_
                rotate_left
                · (intro w hSw; (try dsimp only at hSw); go_simp; try with_reducible rfl)
                intro act_ hact_; simp only [Act.put, List.setIfInBounds_toArray, List.set_cons_zero, List.set_cons_succ] at hact_; subst hact_
                refine take_op2 (i := 18) (v := ?_) rfl (by kernel_rfl) (by kernel_rfl) (by kernel_rfl) (fun _ _ _ h => h) (Or.inl ⟨by rfl, ?_⟩) (by assumption) ?_
                rotate_left
                · (intro w hSw; (try dsimp only at hSw); go_simp; try with_reducible rfl)
                intro act_ hact_; simp only [Act.put, List.setIfInBounds_toArray, List.set_cons_zero, List.set_cons_succ] at hact_; subst hact_
                refine take_op2 (i := 19) (v := ?_) rfl (by kernel_rfl) (by kernel_rfl) (by kernel_rfl) (fun _ _ _ h => h) (Or.inl ⟨by rfl, ?_⟩) (by assumption) ?_
                rotate_left
                · (intro w hSw; (try dsimp only at hSw); go_simp; try with_reducible rfl)
                intro act_ hact_; simp only [Act.put, List.setIfInBounds_toArray, List.set_cons_zero, List.set_cons_succ] at hact_; subst hact_
                refine take_op2 (i := 20) (v := ?_) rfl (by kernel_rfl) (by kernel_rfl) (by kernel_rfl) (fun _ _ _ h => h) (Or.inl ⟨by rfl, ?_⟩) (by assumption) ?_
                rotate_left
                · (intro w hSw; (try dsimp only at hSw); go_simp; try with_reducible rfl)
                intro act_ hact_; simp only [Act.put, List.setIfInBounds_toArray, List.set_cons_zero, List.set_cons_succ] at hact_; subst hact_
                refine take_op2 (i := 21) (v := ?_) rfl (by kernel_rfl) (by kernel_rfl) (by kernel_rfl) (fun _ _ _ h => h) (Or.inl ⟨by rfl, ?_⟩) (by assumption) ?_
                rotate_left
                · (intro w hSw; (try dsimp only at hSw); go_simp; try with_reducible rfl)
                intro act_ hact_; simp only [Act.put, List.setIfInBounds_toArray, List.set_cons_zero, List.set_cons_succ] at hact_; subst hact_
                refine take_op2 (i := 22) (v := ?_) rfl (by kernel_rfl) (by kernel_rfl) (by kernel_rfl) (fun _ _ _ h => h) (Or.inl ⟨by rfl, ?_⟩) (by assumption) ?_
                rotate_left
                · (intro w hSw; (try dsimp only at hSw); go_simp; try with_reducible rfl)
                intro act_ hact_; simp only [Act.put, List.setIfInBounds_toArray, List.set_cons_zero, List.set_cons_succ] at hact_; subst hact_
                refine take_op2 (i := 23) (v := ?_) rfl (by kernel_rfl) (by kernel_rfl) (by kernel_rfl) (fun _ _ _ h => h) (Or.inl ⟨by rfl, ?_⟩) (by assumption) ?_
                rotate_left
                · (intro w hSw; (try dsimp only at hSw); go_simp; try with_reducible rfl)
                intro act_ hact_; simp only [Act.put, List.setIfInBounds_toArray, List.set_cons_zero, List.set_cons_succ] at hact_; subst hact_
                refine take_op2 (i := 24) (v := ?_) rfl (by kernel_rfl) (by kernel_rfl) (by kernel_rfl) (fun _ _ _ h => h) (Or.inl ⟨by rfl, ?_⟩) (by assumption) ?_
                rotate_left
                · (intro w hSw; (try dsimp only at hSw); go_simp; try with_reducible rfl)
                intro act_ hact_; simp only [Act.put, List.setIfInBounds_toArray, List.set_cons_zero, List.set_cons_succ] at hact_; subst hact_
                refine take_op2 (i := 25) (v := ?_) rfl (by kernel_rfl) (by kernel_rfl) (by kernel_rfl) (fun _ _ _ h => h) (Or.inl ⟨by rfl, ?_⟩) (by assumption) ?_
                rotate_left
                · (intro w hSw; (try dsimp only at hSw); go_simp; try with_reducible rfl)
                intro act_ hact_; simp only [Act.put, List.setIfInBounds_toArray, List.set_cons_zero, List.set_cons_succ] at hact_; subst hact_
                refine take_op2 (i := 26) (v := ?_) rfl (by kernel_rfl) (by kernel_rfl) (by kernel_rfl) (fun _ _ _ h => h) (Or.inl ⟨by rfl, ?_⟩) (by assumption) ?_
                rotate_left
                · (intro w hSw; (try dsimp only at hSw); go_simp; try with_reducible rfl)
                intro act_ hact_; simp only [Act.put, List.setIfInBounds_toArray, List.set_cons_zero, List.set_cons_succ] at hact_; subst hact_
                refine take_op2 (i := 27) (v := ?_) rfl (by kernel_rfl) (by kernel_rfl) (by kernel_rfl) (fun _ _ _ h => h) (Or.inl ⟨by rfl, ?_⟩) (by assumption) ?_
                rotate_left
                · (intro w hSw; (try dsimp only at hSw); go_simp; try with_reducible rfl)
                intro act_ hact_; simp only [Act.put, List.setIfInBounds_toArray, List.set_cons_zero, List.set_cons_succ] at hact_; subst hact_
                refine take_op2 (i := 28) (v := ?_) rfl (by kernel_rfl) (by kernel_rfl) (by kernel_rfl) (fun _ _ _ h => h) (Or.inl ⟨by rfl, ?_⟩) (by assumption) ?_
                rotate_left
                · (intro w hSw; (try dsimp only at hSw); go_simp; try with_reducible rfl)
                intro act_ hact_; simp only [Act.put, List.setIfInBounds_toArray, List.set_cons_zero, List.set_cons_succ] at hact_; subst hact_
                refine take_op2 (i := 29) (v := ?_) rfl (by kernel_rfl) (by kernel_rfl) (by kernel_rfl) (fun _ _ _ h => h) (Or.inl ⟨by rfl, ?_⟩) (by assumption) ?_
                rotate_left
                · (intro w hSw; (try dsimp only at hSw); go_simp; try with_reducible rfl)
                intro act_ hact_; simp only [Act.put, List.setIfInBounds_toArray, List.set_cons_zero, List.set_cons_succ] at hact_; subst hact_
                refine take_op2 (i := 30) (v := ?_) rfl (by kernel_rfl) (by kernel_rfl) (by kernel_rfl) (fun _ _ _ h => h) (Or.inl ⟨wanted_plain rfl, ?_⟩) (by assumption) ?_
                rotate_left
                · (intro w hSw; (try dsimp only at hSw); go_simp; try with_reducible rfl)
                intro act_ hact_; simp only [Act.put, List.setIfInBounds_toArray, List.set_cons_zero, List.set_cons_succ] at hact_; subst hact_
                refine wpAnyH_done (by kernel_rfl) ?_ _
                have hq := hHeld
                clear hHeld
                go_wp2_with fail
                go_roundw
                case rel => exact ⟨i + 1 + 1, by omega, by go_num, Lib.hid hq.2.2⟩
                case measure => simp [intOf]; omega
            · obtain rfl : j = n := by omega
              have jj : ¬ (j : Int) < j := by omega
              have B9 := thn BV.out PB4.out
              have G9 := HON.out _ _ GV.out PB4.out
              go_wp2_with (first
                | (go_at_call 10; ((with_reducible refine (HAW.out _ G9).mono ?_); rintro e v10 ⟨rfl, b10⟩)))
              go_ret
              exact ⟨by first | rfl | simp, thn B9 b10⟩
set_option maxRecDepth 100000 in
set_option maxHeartbeats 32000000 in
theorem core_unknown {G : World → Prop} {kn : ByteArray → Bool} (HC : GroupsC G kn) (s : ByteArray) (J : Nat) (hJ : J < 18) (hsJ : s = gN J) (hkn : expE s = 0 → ∀ x ∈ expL s, kn x = true) (a0 : ByteArray) (hno : memR a0 = []) (h200 : ¬ (200 : Int) < a0.size) (hz0 : a0.size ≤ maxLen) (a1 : Int) (ha1 : a1 % 18446744073709551616 % 18 = (J : Int)) (w : World) (hG : G w) :
    Calls Try.prog 5 #[.string a0, .int .i64 a1] w fun e w' => e = .returned (.bool true) ∧ Below w.heap.size w w' := by
  have HON := Lib.hid (fun (w w' : World) => HC.on (w := w) (w' := w'))
  have HG := Lib.hid hG
  have HN := Lib.hid (fun (W : World) (g : G W) => groupsTells.names18 HC W g)
  have HAW := Lib.hid (fun (W : World) (g : G W) => awake11_any HC W g)
  obtain ⟨⟨f1, f2, f3⟩, f4⟩ := grp_open hJ
  rw [← hsJ] at f1 f2 f3 f4
  have hsz : s.size ≤ maxLen := by unfold maxLen; omega
  have HES := Lib.hid (fun (W : World) (g : G W) => HC.expand s W g hsz)
  have HDS := Lib.hid (fun (W : World) (g : G W) => HC.deep s W g hsz)
  have HK0 := Lib.hid (fun (W : World) (g : G W) => HC.known a0 W g hz0)
  rw [show (!(memR a0).isEmpty) = false from by rw [hno]; rfl] at HK0
  have HE0 := Lib.hid (fun (W : World) (g : G W) => HC.expand a0 W g hz0)
  rw [show expE a0 = 110 from by unfold expE; rw [if_pos hno]] at HE0
  have HM0 := Lib.hid (fun (W : World) (g : G W) => (HC.members a0 W g hz0).mono (fun e w' h => (by
    rw [hno] at h
    obtain ⟨v, h1, h2, h3⟩ := h
    obtain ⟨q, c, rfl⟩ := groupsTells.own_form11 h2
    exact ⟨q, c, h1, h3⟩ : ∃ q c, e = .returned (.slice q 0 c) ∧ Below W.heap.size W w')))
  have HD0 := Lib.hid (fun (W : World) (g : G W) => HC.deep a0 W g hz0)
  rw [deep_none hno] at HD0
  have t0 : Int.tmod (IntKind.u64.wrap a1) 18 = J := by rw [IntKind.wrap_u64, Int.tmod_eq_emod_of_nonneg (by omega)]; omega
  have t1 : IntKind.u64.wrap (J : Int) = J := by rw [IntKind.wrap_u64]; omega
  have t2 : IntKind.i64.wrap (J : Int) = J := by rw [IntKind.wrap_i64]; omega
  have j0 : (0 : Int) ≤ J := by omega
  have j1 : (J : Int) < 18 := by omega
  have HJS := Lib.hid hsJ
  clear hno hz0 ha1
  rcases f4 with ⟨e1, e2⟩ | ⟨e1, e2, e3⟩
  · rw [e1] at HES
    obtain ⟨d, hd⟩ : ∃ d, d = deepR s := ⟨_, rfl⟩
    rw [← hd] at HDS e2
    have d4 : (4 : Int) < (d : Int) := by omega
    have d5 : decide ((4 : Int) < (d : Int)) = true := decide_eq_true d4
    have d6 : decide (4 < d) = true := decide_eq_true e2
    clear e1 hd f1 f2 f3 hsJ hkn hsz HC hG
    go_enter Try.func5, Try.ntmps5
    go_wp2_with (first
      | (go_at_call 12; ((with_reducible refine (HN.out _ HG.out).mono ?_); rintro e v1 ⟨q1, o1, c1, rfl, s1, b1⟩); have G1 := HON.out _ _ HG.out b1; have B1 := b1)
      | (go_at_call 15; ((with_reducible refine (HK0.out _ G1).mono ?_); rintro e v2 ⟨rfl, b2⟩); have G2 := HON.out _ _ G1 b2; have B2 := thn B1 b2)
      | (go_at_call 7; ((with_reducible refine (HE0.out _ G2).mono ?_); rintro e v3 ⟨r3, rfl, s3, b3⟩); have G3 := HON.out _ _ G2 b3; have B3 := thn B2 b3)
      | (go_at_call 17; ((with_reducible refine (HM0.out _ G3).mono ?_); rintro e v4 ⟨q4, c4, rfl, b4⟩); have G4 := HON.out _ _ G3 b4; have B4 := thn B3 b4)
      | (go_at_call 13; ((with_reducible refine (HD0.out _ G4).mono ?_); rintro e v5 ⟨rfl, b5⟩); have G5 := HON.out _ _ G4 b5; have B5 := thn B4 b5; have cJ := ((thn (thn (thn b2 b3) b4) b5).cell (World.block_lt_of_cell? _ _ (s1 J hJ))).trans (s1 J hJ); rw [← HJS.out] at cJ)
      | (go_at_call 7; ((with_reducible refine (HES.out _ G5).mono ?_); rintro e v6 ⟨r6, rfl, s6, b6⟩); have G6 := HON.out _ _ G5 b6; have B6 := thn B5 b6)
      | (go_at_call 13; ((with_reducible refine (HDS.out _ G6).mono ?_); rintro e v7 ⟨rfl, b7⟩); have G7 := HON.out _ _ G6 b7; have B7 := thn B6 b7)
      | (go_at_call 10; ((with_reducible refine (HAW.out _ G7).mono ?_); rintro e v8 ⟨rfl, b8⟩); have G8 := HON.out _ _ G7 b8; have B8 := thn B7 b8))
    go_ret
    exact ⟨by first | rfl | simp, B8⟩
  rw [e1] at HES
  have HKN := Lib.hid (hkn e1)
  have HCH := Lib.hid HC
  obtain ⟨M, hM⟩ : ∃ M, M = memR s := ⟨_, rfl⟩
  obtain ⟨L, hL⟩ : ∃ L, L = expL s := ⟨_, rfl⟩
  have HMe := Lib.hid hM.symm
  have HLe := Lib.hid hL.symm
  have HGK := Lib.hid e3
  have m8 := mem_le s
  rw [← hM] at f1 m8
  rw [← hL] at e2 f2 HKN
  have HW8 := Lib.hid (fun k => want_le M k (fun t ht => (e3.mem t (by rw [← hM]; exact ht)).2.1))
  obtain ⟨m, hm⟩ : ∃ m, m = M.length := ⟨_, rfl⟩
  obtain ⟨n, hn⟩ : ∃ n, n = L.length := ⟨_, rfl⟩
  have HM := Lib.hid hm
  have HNL := Lib.hid hn
  rw [← hm] at f1 m8
  rw [← hn] at e2 f2
  have HMS := Lib.hid (fun (W : World) (gg : G W) => mem_form (hm.trans (by rw [hM])) f1 (HC.members s W gg hsz))
  have HES2 := Lib.hid (fun (W : World) (gg : G W) => exp_form (hn.trans (by rw [hL])) e2 (HES.out W gg))
  rw [← hM] at HMS
  rw [← hL] at HES2
  have hL100 : L.length ≤ 100000 := by rw [← hn]; omega
  obtain ⟨d, hd⟩ : ∃ d, d = deepR s := ⟨_, rfl⟩
  have HDe := Lib.hid hd.symm
  rw [← hd] at HDS
  obtain ⟨i0, hi0, hz0, hz1, hz2⟩ := info_parts str_info11
  have HI := Lib.hid hi0
  have HZ0 := Lib.hid hz0
  have HZ1 := Lib.hid hz1
  have HZ2 := Lib.hid hz2
  clear hi0 hz0 hz1 hz2 HES e3 hM hL hm hn hd
  clear HC
  have HC := Lib.hid HCH.out
  clear HCH e1 hsJ hkn hsz hG
  go_enter Try.func5, Try.ntmps5
  go_wp2_with (first
    | (go_at_call 12; ((with_reducible refine (HN.out _ HG.out).mono ?_); rintro e v1 ⟨q1, o1, c1, rfl, s1, b1⟩); have G1 := HON.out _ _ HG.out b1; have B1 := b1)
    | (go_at_call 15; ((with_reducible refine (HK0.out _ G1).mono ?_); rintro e v2 ⟨rfl, b2⟩); have G2 := HON.out _ _ G1 b2; have B2 := thn B1 b2)
    | (go_at_call 7; ((with_reducible refine (HE0.out _ G2).mono ?_); rintro e v3 ⟨r3, rfl, s3, b3⟩); have G3 := HON.out _ _ G2 b3; have B3 := thn B2 b3)
    | (go_at_call 17; ((with_reducible refine (HM0.out _ G3).mono ?_); rintro e v4 ⟨q4, c4, rfl, b4⟩); have G4 := HON.out _ _ G3 b4; have B4 := thn B3 b4)
    | (go_at_call 13; ((with_reducible refine (HD0.out _ G4).mono ?_); rintro e v5 ⟨rfl, b5⟩); have G5 := HON.out _ _ G4 b5; have B5 := thn B4 b5; have cJ := ((thn (thn (thn b2 b3) b4) b5).cell (World.block_lt_of_cell? _ _ (s1 J hJ))).trans (s1 J hJ); rw [← HJS.out] at cJ)
    | (go_at_call 7; ((with_reducible refine (HES2.out _ G5).mono ?_); rintro e v6 ⟨gL, oL, cL, rfl, s6, b6⟩); have G6 := HON.out _ _ G5 b6; have B6 := thn B5 b6)
    | (go_at_call 17; ((with_reducible refine (HMS.out _ G6).mono ?_); rintro e v7 ⟨gM, oM, cM, rfl, CM, b7⟩); have G7 := HON.out _ _ G6 b7; have B7 := thn B6 b7))
  have SL0 := Lib.hid (strs_of (c := cL) HNL.out (fun k x h => (b7.cell (World.block_lt_of_cell? _ _ (s6 k x h))).trans (s6 k x h)))
  have CLL := Lib.hid (fun k x (h : L[k]? = some x) => (b7.cell (World.block_lt_of_cell? _ _ (s6 k x h))).trans (s6 k x h))
  have HCM := Lib.hid CM
  clear CM s6
  have CM := HCM
  obtain ⟨VM, hVM⟩ : ∃ VM, VM = v7 := ⟨_, rfl⟩
  subst hVM
  clear G1 G2 G3 G4 G5 G6 B1 b1 B2 b2 B3 b3 B4 b4 B5 b5 B6 b6 b7 HMS
  have GM := Lib.hid G7
  have BM := Lib.hid B7
  clear G7 B7
  go_loopw [10, 12] (fun v10 v12 wr => ∃ k : Nat, k ≤ m ∧ v12 = .int .i64 k ∧ Hid (wr.ownsRow VM.heap.size 9 1 v10 (wantF M k).length (sG (wantF M k))) ∧ Hid (Below VM.heap.size VM wr)) (fun _ v12 _ => m - (intOf v12).toNat)
  case atStart => exact ⟨0, by omega, rfl, Lib.hid (World.ownsRow_nil _ _ _ _), Lib.hid (Below.refl _ _)⟩
  case round =>
    obtain ⟨k, hk, rfl, PO, PB⟩ := hrel
    obtain ⟨V, rfl⟩ : ∃ wo : World, wo = wr := ⟨_, rfl⟩
    have hW8 := HW8.out k
    obtain ⟨nk, hnk⟩ : ∃ n, n = (wantF M k).length := ⟨_, rfl⟩
    have HNK := Lib.hid hnk
    rw [← hnk] at PO hW8
    clear hnk
    by_cases hlt : k < m
    · have hx : M[k]? = some (M[k]'(by rw [← HM.out]; exact hlt)) := List.getElem?_eq_getElem _
      obtain ⟨t, ht⟩ : ∃ t, t = M[k]'(by rw [← HM.out]; exact hlt) := ⟨_, rfl⟩
      rw [← ht] at hx
      have ht2 : t ∈ M := List.mem_of_getElem? hx
      have d0 := CM.out k t hx
      have c0 := (PB.out.cell (World.block_lt_of_cell? VM _ d0)).trans d0
      have HWS := Lib.hid (want_step hx)
      obtain ⟨q1, q2, q3⟩ := HGK.out.mem t (by rw [HMe.out]; exact ht2)
      have hts : t.size ≤ maxLen := by unfold maxLen; omega
      have HKT := Lib.hid (fun (W : World) (gg : G W) => HC.out.known t W gg hts)
      have HET0 := (fun (W : World) (gg : G W) => HC.out.expand t W gg hts)
      have HDT := Lib.hid (fun (W : World) (gg : G W) => HC.out.deep t W gg hts)
      have k1 : (k : Int) < m := by omega
      have k0 : (0 : Int) ≤ k := by omega
      have hw1 : IntKind.i64.wrap ((k : Int) + 1) = k + 1 := by rw [IntKind.wrap_i64]; omega
      have GV := HON.out _ _ GM.out PB.out
      clear hx ht ht2 d0 hts
      by_cases he : memR t = []
      · have HWT := Lib.hid (show wantS (wantF M k) t = wantF M k ++ [t] from by unfold wantS; rw [he]; rfl)
        rw [show (!(memR t).isEmpty) = false from by rw [he]; rfl] at HKT
        clear he q3 HET0 HDT
        go_wp2_with (first
          | (go_at_call 15; ((with_reducible refine (HKT.out _ GV).mono ?_); rintro e w1 ⟨rfl, b1⟩); have c1 := (b1.cell (World.block_lt_of_cell? V _ c0)).trans c0; have P1 := Lib.hid (own_on PO.out b1); have BB1 := Lib.hid (thn PB.out b1); have z1 := BB1.out.size)
          | (at_builtin
             refine wpList_append_own _ rfl (.tmp 87) (.tmp 92) 22 rfl VM.heap.size 9 i0 _ 1 16 Try.underlying22 HI.out HZ0.out HZ1.out HZ2.out rfl (by omega) _ nk _ rfl (P1.out.alloc _) ⟨w1.heap.size, 0, none⟩ 1 _ (sG [t]) rfl rfl (news_g w1 t _) (sG_one _) (by unfold maxLen; omega) (by omega) (by rw [World.size_alloc]; omega) ?_
             intro vA wA oA hA _
             rw [← sG_app] at oA
             have OA := Lib.hid oA
             have HAA := Lib.hid hA
             clear oA hA))
        go_roundw
        case rel => exact ⟨k + 1, by omega, by go_num, Lib.hid (by rw [HWS.out, HWT.out, List.length_append, ← HNK.out]; exact OA.out), Lib.hid ((BB1.out.alloc z1 _).grown HAA.out (by rw [World.size_alloc]; omega) (fun b hb => (P1.out.lt b hb).1))⟩
        case measure => simp [intOf]; omega
      · obtain ⟨q4, q5, q6⟩ := q3 he
        have HWT := Lib.hid (show wantS (wantF M k) t = wantF M k ++ expL t from by
          unfold wantS
          cases h : memR t with
          | nil => exact absurd h he
          | cons a b => rfl)
        rw [show (!(memR t).isEmpty) = true from by cases h : memR t with | nil => exact absurd h he | cons a b => rfl] at HKT
        rw [q4] at HET0
        obtain ⟨Z, hZ⟩ : ∃ Z, Z = expL t := ⟨_, rfl⟩
        rw [← hZ] at HET0 HWT q2 q6
        obtain ⟨nz, hnz⟩ : ∃ n, n = Z.length := ⟨_, rfl⟩
        have HNZ := Lib.hid hnz
        rw [← hnz] at q2 q6
        have HET := Lib.hid (fun (W : World) (gg : G W) => exp_form hnz q6 (HET0 W gg))
        obtain ⟨dt, hdt⟩ : ∃ d, d = deepR t := ⟨_, rfl⟩
        rw [← hdt] at HDT q5
        rw [HDe.out] at q5
        have dd1 : decide ((d : Int) ≤ (dt : Int)) = false := decide_eq_false (by omega)
        have dd2 : decide (d ≤ dt) = false := decide_eq_false (by omega)
        have dd3 : ¬ d ≤ dt := by omega
        clear he q3 q4 q5 hZ hnz hdt HET0
        go_wp2_with (first
          | (go_at_call 15; ((with_reducible refine (HKT.out _ GV).mono ?_); rintro e w1 ⟨rfl, b1⟩); have c1 := (b1.cell (World.block_lt_of_cell? V _ c0)).trans c0; have g1 := HON.out _ _ GV b1; have z1 := thn PB.out b1)
          | (go_at_call 7; ((with_reducible refine (HET.out _ g1).mono ?_); rintro e w2 ⟨gz, oz, cz, rfl, s2, b2⟩); have g2 := HON.out _ _ g1 b2; have z2 := thn z1 b2; have c2 := (b2.cell (World.block_lt_of_cell? _ _ c1)).trans c1)
          | (go_at_call 13; ((with_reducible refine (HDT.out _ g2).mono ?_); rintro e w3 ⟨rfl, b3⟩); have g3 := HON.out _ _ g2 b3; have z3 := thn z2 b3)
          | (go_at_call 13; ((with_reducible refine (HDS.out _ g3).mono ?_); rintro e w4 ⟨rfl, b4⟩); have z4 := Lib.hid (thn z3 b4); have z5 := z4.out.size; have P4 := Lib.hid (own_on PO.out (thn (thn (thn b1 b2) b3) b4)); have HZ := Lib.hid (fun k x (h : Z[k]? = some x) => ((thn b3 b4).cell (World.block_lt_of_cell? _ _ (s2 k x h))).trans (s2 k x h)); clear s2)
          | (at_builtin
             refine wpList_append_own _ rfl (.tmp 114) (.tmp 115) 22 rfl VM.heap.size 9 i0 _ 1 16 Try.underlying22 HI.out HZ0.out HZ1.out HZ2.out rfl (by omega) _ nk _ rfl (P4.out) ⟨gz, oz, none⟩ nz _ (sG Z) rfl (by rw [sG_length, Nat.mul_one]; exact HNZ.out.symm) (cells_sG HZ.out) (sG_one _) (by unfold maxLen; omega) (by omega) (by omega) ?_
             intro vA wA oA hA _
             rw [← sG_app] at oA
             have OA := Lib.hid oA
             have HAA := Lib.hid hA
             clear oA hA))
        go_roundw
        case rel => exact ⟨k + 1, by omega, by go_num, Lib.hid (by rw [HWS.out, HWT.out, List.length_append, ← HNK.out, ← HNZ.out]; exact OA.out), Lib.hid (z4.out.grown HAA.out (by omega) (fun b hb => (P4.out.lt b hb).1))⟩
        case measure => simp [intOf]; omega
    · obtain rfl : k = m := by omega
      have kk : ¬ (k : Int) < k := by omega
      have HWA := Lib.hid (fun x (hx : x ∈ wantF M k) => (by have := HGK.out.want x (by rw [HMe.out, ← HM.out]; exact hx); rwa [HLe.out] at this : x ∈ L))
      have HAL := Lib.hid (fun x (hx : x ∈ L) => (by have := HGK.out.all x (by rw [HLe.out]; exact hx); rwa [HMe.out, ← HM.out] at this : x ∈ wantF M k ∧ x.size ≤ 200))
      have HRI := Lib.hid (fun i x y (h1 : L[i]? = some x) (h2 : L[i + 1]? = some y) => HGK.out.rise i x y (by rw [HLe.out]; exact h1) (by rw [HLe.out]; exact h2))
      have SW := Lib.hid (strs_own (show V.ownsRow VM.heap.size 9 1 _ (wantF M k).length (sG (wantF M k)) by rw [← HNK.out]; exact PO.out))
      obtain ⟨qw, cw, hvw⟩ := groupsTells.own_form11 PO.out
      have hW9 : (wantF M k).length ≤ 100000 := by rw [← HNK.out]; omega
      obtain ⟨WL, hWL⟩ : ∃ W, W = wantF M k := ⟨_, rfl⟩
      rw [← hWL] at HNK HWA HAL SW hW9
      clear PO hWL
      subst hvw
      have HHW := Lib.hid (fun (x : ByteArray) (hx : x ∈ WL) (W : World) (h : StrsAt W (.slice qw nk cw) WL) => has_yes _ WL x W h hW9 hx)
      have HHL := Lib.hid (fun (x : ByteArray) (hx : x ∈ L) (W : World) (h : StrsAt W (.slice (some ⟨gL, oL, none⟩) n cL) L) => has_yes _ L x W h hL100 hx)
      have SL := Lib.hid (SL0.out.on PB.out)
      have CW := Lib.hid (fun (i : Nat) (x : ByteArray) (h : WL[i]? = some x) => at_strs SW.out h)
      have GV := Lib.hid (HON.out _ _ GM.out PB.out)
      have BV := Lib.hid (thn BM.out PB.out)
      go_wp2_with fail
      go_loop [15] (fun v15 => ∃ i : Nat, i ≤ nk ∧ v15 = .int .i64 i) (fun v15 => nk - (intOf v15).toNat)
      case atStart => exact ⟨0, by omega, rfl⟩
      case round =>
        obtain ⟨i, hi, rfl⟩ := hrel
        by_cases hil : i < nk
        · have hx : WL[i]? = some (WL[i]'(by rw [← HNK.out]; exact hil)) := List.getElem?_eq_getElem _
          obtain ⟨x, ex⟩ : ∃ t, t = WL[i]'(by rw [← HNK.out]; exact hil) := ⟨_, rfl⟩
          rw [← ex] at hx
          obtain ⟨g1, o1, e1, c0⟩ := CW.out i x hx
          subst e1
          have hxL := HWA.out x (List.mem_of_getElem? hx)
          have k1 : (i : Int) < nk := by omega
          have k0 : (0 : Int) ≤ i := by omega
          have hw1 : IntKind.i64.wrap ((i : Int) + 1) = i + 1 := by rw [IntKind.wrap_i64]; omega
          have HXL := Lib.hid (HHL.out x hxL V SL.out)
          clear hx ex hxL
          go_wp2_with (first
            | (go_at_call 18; ((with_reducible refine (HXL.out).mono ?_); rintro e w1 ⟨rfl, rfl⟩)))
          go_round
          case rel => exact ⟨i + 1, by omega, by go_num⟩
          case measure => simp [intOf]; omega
        · obtain rfl : i = nk := by omega
          have ii : ¬ (i : Int) < i := by omega
          go_wp2_with fail
          go_loopw [16] (fun v16 wr => ∃ j : Nat, j ≤ n ∧ v16 = .int .i64 j ∧ Hid (Below V.heap.size V wr)) (fun v16 _ => n - (intOf v16).toNat)
          case atStart => exact ⟨0, by omega, rfl, Lib.hid (Below.refl _ _)⟩
          case round =>
            obtain ⟨j, hj, rfl, PB4⟩ := hrel
            obtain ⟨U, rfl⟩ : ∃ wo : World, wo = wr := ⟨_, rfl⟩
            by_cases hjl : j < n
            · have hx : L[j]? = some (L[j]'(by rw [← HNL.out]; exact hjl)) := List.getElem?_eq_getElem _
              obtain ⟨x, ex⟩ : ∃ t, t = L[j]'(by rw [← HNL.out]; exact hjl) := ⟨_, rfl⟩
              rw [← ex] at hx
              have dx := CLL.out j x hx
              have cx := ((thn PB.out PB4.out).cell (World.block_lt_of_cell? VM _ dx)).trans dx
              obtain ⟨HXW, hxs⟩ := HAL.out x (List.mem_of_getElem? hx)
              have HKC := Lib.hid (fun (W : World) (gg : G W) => HC.out.isCall x W gg (by unfold maxLen; omega))
              rw [HKN.out x (List.mem_of_getElem? hx)] at HKC
              have k1 : (j : Int) < n := by omega
              have k0 : (0 : Int) ≤ j := by omega
              have hw1 : IntKind.i64.wrap ((j : Int) + 1) = j + 1 := by rw [IntKind.wrap_i64]; omega
              have HX := Lib.hid hx
              clear hx ex dx hxs
              match j, hj, hjl, HX with
              | 0, hj, hjl, HX =>
                go_wp2_with fail
                refine wp_region_held_drew (S := (fun w' => w'.cell? ⟨gL, oL, none⟩ = some (.string x) ∧ Below V.heap.size V w')) (by kernel_rfl) ?_ (fun hHeld => ?_)
                · exact ⟨cx, (thn PB4.out (Below.refl _ _)).drew⟩
                refine take_op2 (i := 0) (v := ?_) rfl (by kernel_rfl) (by kernel_rfl) (by kernel_rfl) (fun _ _ _ h => h) (Or.inl ⟨wanted_plain rfl, ?_⟩) (by assumption) ?_
                rotate_left
                · (intro w hSw; (try dsimp only at hSw); go_simp; try with_reducible rfl)
                intro act_ hact_; simp only [Act.put, List.setIfInBounds_toArray, List.set_cons_zero, List.set_cons_succ] at hact_; subst hact_
                refine take_op2 (i := 1) (v := ?_) rfl (by kernel_rfl) (by kernel_rfl) (by kernel_rfl) (fun _ _ _ h => h) (Or.inl ⟨wanted_plain rfl, ?_⟩) (by assumption) ?_
                rotate_left
                · (intro w hSw; (try dsimp only at hSw); go_simp; try with_reducible rfl)
                intro act_ hact_; simp only [Act.put, List.setIfInBounds_toArray, List.set_cons_zero, List.set_cons_succ] at hact_; subst hact_
                refine take_op2 (i := 2) (v := ?_) rfl (by kernel_rfl) (by kernel_rfl) (by kernel_rfl) (fun _ _ _ h => h) (Or.inl ⟨wanted_plain rfl, ?_⟩) (by assumption) ?_
                rotate_left
                · (intro w hSw; (try dsimp only at hSw); go_simp; try with_reducible rfl)
                intro act_ hact_; simp only [Act.put, List.setIfInBounds_toArray, List.set_cons_zero, List.set_cons_succ] at hact_; subst hact_
                refine take_op2 (i := 3) (v := ?_) rfl (by kernel_rfl) (by kernel_rfl) (by kernel_rfl) (fun _ _ _ h => h) (Or.inl ⟨wanted_plain rfl, ?_⟩) (by assumption) ?_
                rotate_left
                · (intro w hSw; (try dsimp only at hSw); go_simp; try with_reducible rfl)
                intro act_ hact_; simp only [Act.put, List.setIfInBounds_toArray, List.set_cons_zero, List.set_cons_succ] at hact_; subst hact_
                refine wpAnyH_ready (rs := [4]) (by kernel_rfl) (List.cons_ne_nil _ _) ?_
                refine AllReadyH.cons rfl (fun K hK => ?_) AllReadyH.nil
                go_simp
                go_wp2_with (go_at_call 19; ((with_reducible refine (HKC.out _ (HON.out _ _ GV.out hHeld.2)).mono ?_); rintro e y5 ⟨rfl, b5⟩))
                refine hK.out _ _ ?_ (fun hHeld => ?_)
                · exact keep1 b5 hHeld
                clear hK K
                refine take_op2 (i := 5) (v := ?_) rfl (by kernel_rfl) (by kernel_rfl) (by kernel_rfl) (fun _ _ _ h => h) (Or.inl ⟨wanted_plain rfl, ?_⟩) (by assumption) ?_
                rotate_left
                · (intro w hSw; (try dsimp only at hSw); go_simp; try with_reducible rfl)
                intro act_ hact_; simp only [Act.put, List.setIfInBounds_toArray, List.set_cons_zero, List.set_cons_succ] at hact_; subst hact_
                refine take_op2 (i := 6) (v := ?_) rfl (by kernel_rfl) (by kernel_rfl) (by kernel_rfl) (fun _ _ _ h => h) (Or.inl ⟨wanted_plain rfl, ?_⟩) (by assumption) ?_
                rotate_left
                · (intro w hSw; (try dsimp only at hSw); go_simp; try with_reducible rfl)
                intro act_ hact_; simp only [Act.put, List.setIfInBounds_toArray, List.set_cons_zero, List.set_cons_succ] at hact_; subst hact_
                refine take_op2 (i := 7) (v := ?_) rfl (by kernel_rfl) (by kernel_rfl) (by kernel_rfl) (fun _ _ _ h => h) (Or.inl ⟨by rfl, ?_⟩) (by assumption) ?_
                rotate_left
                · (intro w hSw; (try dsimp only at hSw); go_simp; try with_reducible rfl)
                intro act_ hact_; simp only [Act.put, List.setIfInBounds_toArray, List.set_cons_zero, List.set_cons_succ] at hact_; subst hact_
                refine take_op2 (i := 8) (v := ?_) rfl (by kernel_rfl) (by kernel_rfl) (by kernel_rfl) (fun _ _ _ h => h) (Or.inl ⟨by rfl, ?_⟩) (by assumption) ?_
                rotate_left
                · (intro w hSw; (try dsimp only at hSw); go_simp; try with_reducible rfl)
                intro act_ hact_; simp only [Act.put, List.setIfInBounds_toArray, List.set_cons_zero, List.set_cons_succ] at hact_; subst hact_
                refine take_op2 (i := 9) (v := ?_) rfl (by kernel_rfl) (by kernel_rfl) (by kernel_rfl) (fun _ _ _ h => h) (Or.inl ⟨by rfl, ?_⟩) (by assumption) ?_
                rotate_left
                · (intro w hSw; (try dsimp only at hSw); go_simp; try with_reducible rfl)
                intro act_ hact_; simp only [Act.put, List.setIfInBounds_toArray, List.set_cons_zero, List.set_cons_succ] at hact_; subst hact_
                refine take_op2 (i := 10) (v := ?_) rfl (by kernel_rfl) (by kernel_rfl) (by kernel_rfl) (fun _ _ _ h => h) (Or.inl ⟨by rfl, ?_⟩) (by assumption) ?_
                rotate_left
                · (intro w hSw; (try dsimp only at hSw); go_simp; try with_reducible rfl)
                intro act_ hact_; simp only [Act.put, List.setIfInBounds_toArray, List.set_cons_zero, List.set_cons_succ] at hact_; subst hact_
                refine take_op2 (i := 11) (v := ?_) rfl (by kernel_rfl) (by kernel_rfl) (by kernel_rfl) (fun _ _ _ h => h) (Or.inl ⟨by rfl, ?_⟩) (by assumption) ?_
                rotate_left
                · (intro w hSw; (try dsimp only at hSw); go_simp; try with_reducible rfl)
                intro act_ hact_; simp only [Act.put, List.setIfInBounds_toArray, List.set_cons_zero, List.set_cons_succ] at hact_; subst hact_
                refine wpAnyH_ready (rs := [12]) (by kernel_rfl) (List.cons_ne_nil _ _) ?_
                refine AllReadyH.cons rfl (fun K hK => ?_) AllReadyH.nil
                go_simp
                go_wp2_with (go_at_call 18; ((with_reducible refine (HHW.out x HXW _ (SW.out.on hHeld.2)).mono ?_); rintro e y6 ⟨rfl, rfl⟩))
                refine hK.out _ _ ?_ (fun hHeld => ?_)
                · exact hHeld
                clear hK K
                refine take_op2 (i := 13) (v := ?_) rfl (by kernel_rfl) (by kernel_rfl) (by kernel_rfl) (fun _ _ _ h => h) (Or.inl ⟨by rfl, ?_⟩) (by assumption) ?_
                rotate_left
                · (intro w hSw; (try dsimp only at hSw); go_simp; try with_reducible rfl)
                intro act_ hact_; simp only [Act.put, List.setIfInBounds_toArray, List.set_cons_zero, List.set_cons_succ] at hact_; subst hact_
                refine take_op2 (i := 14) (v := ?_) rfl (by kernel_rfl) (by kernel_rfl) (by kernel_rfl) (fun _ _ _ h => h) (Or.inl ⟨wanted_plain rfl, ?_⟩) (by assumption) ?_
                rotate_left
                · (intro w hSw; (try dsimp only at hSw); go_simp; try with_reducible rfl)
                intro act_ hact_; simp only [Act.put, List.setIfInBounds_toArray, List.set_cons_zero, List.set_cons_succ] at hact_; subst hact_
                refine take_op2 (i := 15) (v := ?_) rfl (by kernel_rfl) (by kernel_rfl) (by kernel_rfl) (fun _ _ _ h => h) (Or.inl ⟨wanted_plain rfl, ?_⟩) (by assumption) ?_
                rotate_left
                · (intro w hSw; (try dsimp only at hSw); go_simp; try with_reducible rfl)
                intro act_ hact_; simp only [Act.put, List.setIfInBounds_toArray, List.set_cons_zero, List.set_cons_succ] at hact_; subst hact_
                refine take_op2 (i := 16) (v := ?_) rfl (by kernel_rfl) (by kernel_rfl) (by kernel_rfl) (fun _ _ _ h => h) (Or.inl ⟨by rfl, ?_⟩) (by assumption) ?_
                rotate_left
                · (intro w hSw; (try dsimp only at hSw); go_simp; try with_reducible rfl)
                intro act_ hact_; simp only [Act.put, List.setIfInBounds_toArray, List.set_cons_zero, List.set_cons_succ] at hact_; subst hact_
                refine take_op2 (i := 17) (v := ?_) rfl (by kernel_rfl) (by kernel_rfl) (by kernel_rfl) (fun _ _ _ h => h) (Or.inl ⟨by rfl, ?_⟩) (by assumption) ?_
                rotate_left
                · (intro w hSw; (try dsimp only at hSw); go_simp; try with_reducible rfl)
                intro act_ hact_; simp only [Act.put, List.setIfInBounds_toArray, List.set_cons_zero, List.set_cons_succ] at hact_; subst hact_
                refine take_op2 (i := 18) (v := ?_) rfl (by kernel_rfl) (by kernel_rfl) (by kernel_rfl) (fun _ _ _ h => h) (Or.inl ⟨by rfl, ?_⟩) (by assumption) ?_
                rotate_left
                · (intro w hSw; (try dsimp only at hSw); go_simp; try with_reducible rfl)
                intro act_ hact_; simp only [Act.put, List.setIfInBounds_toArray, List.set_cons_zero, List.set_cons_succ] at hact_; subst hact_
                refine take_op2 (i := 19) (v := undef) rfl (by kernel_rfl) (by kernel_rfl) (by kernel_rfl) (fun _ _ _ h => h) (Or.inr ⟨by rfl, rfl⟩) (by assumption) ?_
                intro act_ hact_; simp only [Act.put, List.setIfInBounds_toArray, List.set_cons_zero, List.set_cons_succ] at hact_; subst hact_
                refine take_op2 (i := 20) (v := undef) rfl (by kernel_rfl) (by kernel_rfl) (by kernel_rfl) (fun _ _ _ h => h) (Or.inr ⟨by rfl, rfl⟩) (by assumption) ?_
                intro act_ hact_; simp only [Act.put, List.setIfInBounds_toArray, List.set_cons_zero, List.set_cons_succ] at hact_; subst hact_
                refine take_op2 (i := 21) (v := undef) rfl (by kernel_rfl) (by kernel_rfl) (by kernel_rfl) (fun _ _ _ h => h) (Or.inr ⟨by rfl, rfl⟩) (by assumption) ?_
                intro act_ hact_; simp only [Act.put, List.setIfInBounds_toArray, List.set_cons_zero, List.set_cons_succ] at hact_; subst hact_
                refine take_op2 (i := 22) (v := undef) rfl (by kernel_rfl) (by kernel_rfl) (by kernel_rfl) (fun _ _ _ h => h) (Or.inr ⟨by rfl, rfl⟩) (by assumption) ?_
                intro act_ hact_; simp only [Act.put, List.setIfInBounds_toArray, List.set_cons_zero, List.set_cons_succ] at hact_; subst hact_
                refine take_op2 (i := 23) (v := undef) rfl (by kernel_rfl) (by kernel_rfl) (by kernel_rfl) (fun _ _ _ h => h) (Or.inr ⟨by rfl, rfl⟩) (by assumption) ?_
                intro act_ hact_; simp only [Act.put, List.setIfInBounds_toArray, List.set_cons_zero, List.set_cons_succ] at hact_; subst hact_
                refine take_op2 (i := 24) (v := undef) rfl (by kernel_rfl) (by kernel_rfl) (by kernel_rfl) (fun _ _ _ h => h) (Or.inr ⟨by rfl, rfl⟩) (by assumption) ?_
                intro act_ hact_; simp only [Act.put, List.setIfInBounds_toArray, List.set_cons_zero, List.set_cons_succ] at hact_; subst hact_
                refine take_op2 (i := 25) (v := undef) rfl (by kernel_rfl) (by kernel_rfl) (by kernel_rfl) (fun _ _ _ h => h) (Or.inr ⟨by rfl, rfl⟩) (by assumption) ?_
                intro act_ hact_; simp only [Act.put, List.setIfInBounds_toArray, List.set_cons_zero, List.set_cons_succ] at hact_; subst hact_
                refine take_op2 (i := 26) (v := undef) rfl (by kernel_rfl) (by kernel_rfl) (by kernel_rfl) (fun _ _ _ h => h) (Or.inr ⟨by rfl, rfl⟩) (by assumption) ?_
                intro act_ hact_; simp only [Act.put, List.setIfInBounds_toArray, List.set_cons_zero, List.set_cons_succ] at hact_; subst hact_
                refine take_op2 (i := 27) (v := undef) rfl (by kernel_rfl) (by kernel_rfl) (by kernel_rfl) (fun _ _ _ h => h) (Or.inr ⟨by rfl, rfl⟩) (by assumption) ?_
                intro act_ hact_; simp only [Act.put, List.setIfInBounds_toArray, List.set_cons_zero, List.set_cons_succ] at hact_; subst hact_
                refine take_op2 (i := 28) (v := undef) rfl (by kernel_rfl) (by kernel_rfl) (by kernel_rfl) (fun _ _ _ h => h) (Or.inr ⟨by rfl, rfl⟩) (by assumption) ?_
                intro act_ hact_; simp only [Act.put, List.setIfInBounds_toArray, List.set_cons_zero, List.set_cons_succ] at hact_; subst hact_
                refine take_op2 (i := 29) (v := ?_) rfl (by kernel_rfl) (by kernel_rfl) (by kernel_rfl) (fun _ _ _ h => h) (Or.inl ⟨by rfl, ?_⟩) (by assumption) ?_
                rotate_left
                · (intro w hSw; (try dsimp only at hSw); go_simp; try with_reducible rfl)
                intro act_ hact_; simp only [Act.put, List.setIfInBounds_toArray, List.set_cons_zero, List.set_cons_succ] at hact_; subst hact_
                refine take_op2 (i := 30) (v := ?_) rfl (by kernel_rfl) (by kernel_rfl) (by kernel_rfl) (fun _ _ _ h => h) (Or.inl ⟨wanted_plain rfl, ?_⟩) (by assumption) ?_
                rotate_left
                · (intro w hSw; (try dsimp only at hSw); go_simp; try with_reducible rfl)
                intro act_ hact_; simp only [Act.put, List.setIfInBounds_toArray, List.set_cons_zero, List.set_cons_succ] at hact_; subst hact_
                refine wpAnyH_done (by kernel_rfl) ?_ _
                have hq := hHeld
                clear hHeld
                go_wp2_with fail
                go_roundw
                case rel => exact ⟨1, by omega, by go_num, Lib.hid hq.2⟩
                case measure => simp [intOf]; omega
              | i + 1, hj, hjl, HX =>
                have hy : L[i]? = some (L[i]'(by rw [← HNL.out]; omega)) := List.getElem?_eq_getElem _
                obtain ⟨y, ey⟩ : ∃ t, t = L[i]'(by rw [← HNL.out]; omega) := ⟨_, rfl⟩
                rw [← ey] at hy
                have dy := CLL.out i y hy
                have cy := ((thn PB.out PB4.out).cell (World.block_lt_of_cell? VM _ dy)).trans dy
                have hlt := HRI.out i y x hy HX.out
                have hm1 : IntKind.i64.wrap ((i : Int) + 1 - 1) = i := by rw [IntKind.wrap_i64]; omega
                have hm0 : (0 : Int) < (i : Int) + 1 := by omega
                have hm2 : (0 : Int) ≤ (i : Int) := by omega
                have hm3 : (i : Int) < (n : Int) := by omega
                have hmj : ((i + 1 : Nat) : Int) = (i : Int) + 1 := by omega
                have hm4 : (0 : Int) ≤ (i : Int) + 1 := by omega
                have hm5 : (i : Int) + 1 < (n : Int) := by omega
                have hm7 : IntKind.i64.wrap (i : Int) = i := by rw [IntKind.wrap_i64]; omega
                have hm6 : ((i : Int) + 1).toNat = i + 1 := by omega
                have hm8 : decide ((0 : Int) < (i : Int) + 1) = true := decide_eq_true hm0
                clear hy ey dy
                go_wp2_with fail
                refine wp_region_held_drew (S := (fun w' => w'.cell? ⟨gL, oL + (i + 1), none⟩ = some (.string x) ∧ w'.cell? ⟨gL, oL + i, none⟩ = some (.string y) ∧ Below V.heap.size V w')) (by kernel_rfl) ?_ (fun hHeld => ?_)
                · exact ⟨cx, cy, (thn PB4.out (Below.refl _ _)).drew⟩
                refine take_op2 (i := 0) (v := ?_) rfl (by kernel_rfl) (by kernel_rfl) (by kernel_rfl) (fun _ _ _ h => h) (Or.inl ⟨wanted_plain rfl, ?_⟩) (by assumption) ?_
                rotate_left
                · (intro w hSw; (try dsimp only at hSw); go_simp; try with_reducible rfl)
                intro act_ hact_; simp only [Act.put, List.setIfInBounds_toArray, List.set_cons_zero, List.set_cons_succ] at hact_; subst hact_
                refine take_op2 (i := 1) (v := ?_) rfl (by kernel_rfl) (by kernel_rfl) (by kernel_rfl) (fun _ _ _ h => h) (Or.inl ⟨wanted_plain rfl, ?_⟩) (by assumption) ?_
                rotate_left
                · (intro w hSw; (try dsimp only at hSw); go_simp; try with_reducible rfl)
                intro act_ hact_; simp only [Act.put, List.setIfInBounds_toArray, List.set_cons_zero, List.set_cons_succ] at hact_; subst hact_
                refine take_op2 (i := 2) (v := ?_) rfl (by kernel_rfl) (by kernel_rfl) (by kernel_rfl) (fun _ _ _ h => h) (Or.inl ⟨wanted_plain rfl, ?_⟩) (by assumption) ?_
                rotate_left
                · (intro w hSw; (try dsimp only at hSw); go_simp; try with_reducible rfl)
                intro act_ hact_; simp only [Act.put, List.setIfInBounds_toArray, List.set_cons_zero, List.set_cons_succ] at hact_; subst hact_
                refine take_op2 (i := 3) (v := ?_) rfl (by kernel_rfl) (by kernel_rfl) (by kernel_rfl) (fun _ _ _ h => h) (Or.inl ⟨wanted_plain rfl, ?_⟩) (by assumption) ?_
                rotate_left
                · (intro w hSw; (try dsimp only at hSw); go_simp; try with_reducible rfl)
                intro act_ hact_; simp only [Act.put, List.setIfInBounds_toArray, List.set_cons_zero, List.set_cons_succ] at hact_; subst hact_
                refine wpAnyH_ready (rs := [4]) (by kernel_rfl) (List.cons_ne_nil _ _) ?_
                refine AllReadyH.cons rfl (fun K hK => ?_) AllReadyH.nil
                go_simp
                go_wp2_with (go_at_call 19; ((with_reducible refine (HKC.out _ (HON.out _ _ GV.out hHeld.2.2)).mono ?_); rintro e y5 ⟨rfl, b5⟩))
                refine hK.out _ _ ?_ (fun hHeld => ?_)
                · exact keep2 b5 hHeld
                clear hK K
                refine take_op2 (i := 5) (v := ?_) rfl (by kernel_rfl) (by kernel_rfl) (by kernel_rfl) (fun _ _ _ h => h) (Or.inl ⟨wanted_plain rfl, ?_⟩) (by assumption) ?_
                rotate_left
                · (intro w hSw; (try dsimp only at hSw); go_simp; try with_reducible rfl)
                intro act_ hact_; simp only [Act.put, List.setIfInBounds_toArray, List.set_cons_zero, List.set_cons_succ] at hact_; subst hact_
                refine take_op2 (i := 6) (v := ?_) rfl (by kernel_rfl) (by kernel_rfl) (by kernel_rfl) (fun _ _ _ h => h) (Or.inl ⟨wanted_plain rfl, ?_⟩) (by assumption) ?_
                rotate_left
                · (intro w hSw; (try dsimp only at hSw); go_simp; try with_reducible rfl)
                intro act_ hact_; simp only [Act.put, List.setIfInBounds_toArray, List.set_cons_zero, List.set_cons_succ] at hact_; subst hact_
                refine take_op2 (i := 7) (v := ?_) rfl (by kernel_rfl) (by kernel_rfl) (by kernel_rfl) (fun _ _ _ h => h) (Or.inl ⟨by rfl, ?_⟩) (by assumption) ?_
                rotate_left
                · (intro w hSw; (try dsimp only at hSw); go_simp; try with_reducible rfl)
                intro act_ hact_; simp only [Act.put, List.setIfInBounds_toArray, List.set_cons_zero, List.set_cons_succ] at hact_; subst hact_
                refine take_op2 (i := 8) (v := ?_) rfl (by kernel_rfl) (by kernel_rfl) (by kernel_rfl) (fun _ _ _ h => h) (Or.inl ⟨by rfl, ?_⟩) (by assumption) ?_
                rotate_left
                · (intro w hSw; (try dsimp only at hSw); go_simp; try with_reducible rfl)
                intro act_ hact_; simp only [Act.put, List.setIfInBounds_toArray, List.set_cons_zero, List.set_cons_succ] at hact_; subst hact_
                refine take_op2 (i := 9) (v := ?_) rfl (by kernel_rfl) (by kernel_rfl) (by kernel_rfl) (fun _ _ _ h => h) (Or.inl ⟨by rfl, ?_⟩) (by assumption) ?_
                rotate_left
                · (intro w hSw; (try dsimp only at hSw); go_simp; try with_reducible rfl)
                intro act_ hact_; simp only [Act.put, List.setIfInBounds_toArray, List.set_cons_zero, List.set_cons_succ] at hact_; subst hact_
                refine take_op2 (i := 10) (v := ?_) rfl (by kernel_rfl) (by kernel_rfl) (by kernel_rfl) (fun _ _ _ h => h) (Or.inl ⟨by rfl, ?_⟩) (by assumption) ?_
                rotate_left
                · (intro w hSw; (try dsimp only at hSw); go_simp; try with_reducible rfl)
                intro act_ hact_; simp only [Act.put, List.setIfInBounds_toArray, List.set_cons_zero, List.set_cons_succ] at hact_; subst hact_
                refine take_op2 (i := 11) (v := ?_) rfl (by kernel_rfl) (by kernel_rfl) (by kernel_rfl) (fun _ _ _ h => h) (Or.inl ⟨by rfl, ?_⟩) (by assumption) ?_
                rotate_left
                · (intro w hSw; (try dsimp only at hSw); go_simp; try with_reducible rfl)
                intro act_ hact_; simp only [Act.put, List.setIfInBounds_toArray, List.set_cons_zero, List.set_cons_succ] at hact_; subst hact_
                refine wpAnyH_ready (rs := [12]) (by kernel_rfl) (List.cons_ne_nil _ _) ?_
                refine AllReadyH.cons rfl (fun K hK => ?_) AllReadyH.nil
                go_simp
                go_wp2_with (go_at_call 18; ((with_reducible refine (HHW.out x HXW _ (SW.out.on hHeld.2.2)).mono ?_); rintro e y6 ⟨rfl, rfl⟩))
                refine hK.out _ _ ?_ (fun hHeld => ?_)
                · exact hHeld
                clear hK K
                refine take_op2 (i := 13) (v := ?_) rfl (by kernel_rfl) (by kernel_rfl) (by kernel_rfl) (fun _ _ _ h => h) (Or.inl ⟨by rfl, ?_⟩) (by assumption) ?_
                rotate_left
                · (intro w hSw; (try dsimp only at hSw); go_simp; try with_reducible rfl)
                intro act_ hact_; simp only [Act.put, List.setIfInBounds_toArray, List.set_cons_zero, List.set_cons_succ] at hact_; subst hact_
                refine take_op2 (i := 14) (v := ?_) rfl (by kernel_rfl) (by kernel_rfl) (by kernel_rfl) (fun _ _ _ h => h) (Or.inl ⟨wanted_plain rfl, ?_⟩) (by assumption) ?_
                rotate_left
                · (intro w hSw; (try dsimp only at hSw); go_simp; try with_reducible rfl)
                intro act_ hact_; simp only [Act.put, List.setIfInBounds_toArray, List.set_cons_zero, List.set_cons_succ] at hact_; subst hact_
                refine take_op2 (i := 15) (v := ?_) rfl (by kernel_rfl) (by kernel_rfl) (by kernel_rfl) (fun _ _ _ h => h) (Or.inl ⟨wanted_plain rfl, ?_⟩) (by assumption) ?_
                rotate_left
                · (intro w hSw; (try dsimp only at hSw); go_simp; try with_reducible rfl)
                intro act_ hact_; simp only [Act.put, List.setIfInBounds_toArray, List.set_cons_zero, List.set_cons_succ] at hact_; subst hact_
                refine take_op2 (i := 16) (v := ?_) rfl (by kernel_rfl) (by kernel_rfl) (by kernel_rfl) (fun _ _ _ h => h) (Or.inl ⟨by rfl, ?_⟩) (by assumption) ?_
                rotate_left
                · (intro w hSw; (try dsimp only at hSw); go_simp; try with_reducible rfl)
                intro act_ hact_; simp only [Act.put, List.setIfInBounds_toArray, List.set_cons_zero, List.set_cons_succ] at hact_; subst hact_
                refine take_op2 (i := 17) (v := ?_) rfl (by kernel_rfl) (by kernel_rfl) (by kernel_rfl) (fun _ _ _ h => h) (Or.inl ⟨by rfl, ?_⟩) (by assumption) ?_
                rotate_left
                · (intro w hSw; (try dsimp only at hSw); go_simp; try with_reducible rfl)
                intro act_ hact_; simp only [Act.put, List.setIfInBounds_toArray, List.set_cons_zero, List.set_cons_succ] at hact_; subst hact_
                refine take_op2 (i := 18) (v := ?_) rfl (by kernel_rfl) (by kernel_rfl) (by kernel_rfl) (fun _ _ _ h => h) (Or.inl ⟨by rfl, ?_⟩) (by assumption) ?_
                rotate_left
                · (intro w hSw; (try dsimp only at hSw); go_simp; try with_reducible rfl)
                intro act_ hact_; simp only [Act.put, List.setIfInBounds_toArray, List.set_cons_zero, List.set_cons_succ] at hact_; subst hact_
                refine take_op2 (i := 19) (v := ?_) rfl (by kernel_rfl) (by kernel_rfl) (by kernel_rfl) (fun _ _ _ h => h) (Or.inl ⟨by rfl, ?_⟩) (by assumption) ?_
                rotate_left
                · (intro w hSw; (try dsimp only at hSw); go_simp; try with_reducible rfl)
                intro act_ hact_; simp only [Act.put, List.setIfInBounds_toArray, List.set_cons_zero, List.set_cons_succ] at hact_; subst hact_
                refine take_op2 (i := 20) (v := ?_) rfl (by kernel_rfl) (by kernel_rfl) (by kernel_rfl) (fun _ _ _ h => h) (Or.inl ⟨by rfl, ?_⟩) (by assumption) ?_
                rotate_left
                · (intro w hSw; (try dsimp only at hSw); go_simp; try with_reducible rfl)
                intro act_ hact_; simp only [Act.put, List.setIfInBounds_toArray, List.set_cons_zero, List.set_cons_succ] at hact_; subst hact_
                refine take_op2 (i := 21) (v := ?_) rfl (by kernel_rfl) (by kernel_rfl) (by kernel_rfl) (fun _ _ _ h => h) (Or.inl ⟨by rfl, ?_⟩) (by assumption) ?_
                rotate_left
                · (intro w hSw; (try dsimp only at hSw); go_simp; try with_reducible rfl)
                intro act_ hact_; simp only [Act.put, List.setIfInBounds_toArray, List.set_cons_zero, List.set_cons_succ] at hact_; subst hact_
                refine take_op2 (i := 22) (v := ?_) rfl (by kernel_rfl) (by kernel_rfl) (by kernel_rfl) (fun _ _ _ h => h) (Or.inl ⟨by rfl, ?_⟩) (by assumption) ?_
                rotate_left
                · (intro w hSw; (try dsimp only at hSw); go_simp; try with_reducible rfl)
                intro act_ hact_; simp only [Act.put, List.setIfInBounds_toArray, List.set_cons_zero, List.set_cons_succ] at hact_; subst hact_
                refine take_op2 (i := 23) (v := ?_) rfl (by kernel_rfl) (by kernel_rfl) (by kernel_rfl) (fun _ _ _ h => h) (Or.inl ⟨by rfl, ?_⟩) (by assumption) ?_
                rotate_left
                · (intro w hSw; (try dsimp only at hSw); go_simp; try with_reducible rfl)
                intro act_ hact_; simp only [Act.put, List.setIfInBounds_toArray, List.set_cons_zero, List.set_cons_succ] at hact_; subst hact_
                refine take_op2 (i := 24) (v := ?_) rfl (by kernel_rfl) (by kernel_rfl) (by kernel_rfl) (fun _ _ _ h => h) (Or.inl ⟨by rfl, ?_⟩) (by assumption) ?_
                rotate_left
                · (intro w hSw; (try dsimp only at hSw); go_simp; try with_reducible rfl)
                intro act_ hact_; simp only [Act.put, List.setIfInBounds_toArray, List.set_cons_zero, List.set_cons_succ] at hact_; subst hact_
                refine take_op2 (i := 25) (v := ?_) rfl (by kernel_rfl) (by kernel_rfl) (by kernel_rfl) (fun _ _ _ h => h) (Or.inl ⟨by rfl, ?_⟩) (by assumption) ?_
                rotate_left
                · (intro w hSw; (try dsimp only at hSw); go_simp; try with_reducible rfl)
                intro act_ hact_; simp only [Act.put, List.setIfInBounds_toArray, List.set_cons_zero, List.set_cons_succ] at hact_; subst hact_
                refine take_op2 (i := 26) (v := ?_) rfl (by kernel_rfl) (by kernel_rfl) (by kernel_rfl) (fun _ _ _ h => h) (Or.inl ⟨by rfl, ?_⟩) (by assumption) ?_
                rotate_left
                · (intro w hSw; (try dsimp only at hSw); go_simp; try with_reducible rfl)
                intro act_ hact_; simp only [Act.put, List.setIfInBounds_toArray, List.set_cons_zero, List.set_cons_succ] at hact_; subst hact_
                refine take_op2 (i := 27) (v := ?_) rfl (by kernel_rfl) (by kernel_rfl) (by kernel_rfl) (fun _ _ _ h => h) (Or.inl ⟨by rfl, ?_⟩) (by assumption) ?_
                rotate_left
                · (intro w hSw; (try dsimp only at hSw); go_simp; try with_reducible rfl)
                intro act_ hact_; simp only [Act.put, List.setIfInBounds_toArray, List.set_cons_zero, List.set_cons_succ] at hact_; subst hact_
                refine take_op2 (i := 28) (v := ?_) rfl (by kernel_rfl) (by kernel_rfl) (by kernel_rfl) (fun _ _ _ h => h) (Or.inl ⟨by rfl, ?_⟩) (by assumption) ?_
                rotate_left
                · (intro w hSw; (try dsimp only at hSw); go_simp; try with_reducible rfl)
                intro act_ hact_; simp only [Act.put, List.setIfInBounds_toArray, List.set_cons_zero, List.set_cons_succ] at hact_; subst hact_
                refine take_op2 (i := 29) (v := ?_) rfl (by kernel_rfl) (by kernel_rfl) (by kernel_rfl) (fun _ _ _ h => h) (Or.inl ⟨by rfl, ?_⟩) (by assumption) ?_
                rotate_left
                · (intro w hSw; (try dsimp only at hSw); go_simp; try with_reducible rfl)
                intro act_ hact_; simp only [Act.put, List.setIfInBounds_toArray, List.set_cons_zero, List.set_cons_succ] at hact_; subst hact_
                refine take_op2 (i := 30) (v := ?_) rfl (by kernel_rfl) (by kernel_rfl) (by kernel_rfl) (fun _ _ _ h => h) (Or.inl ⟨wanted_plain rfl, ?_⟩) (by assumption) ?_
                rotate_left
                · (intro w hSw; (try dsimp only at hSw); go_simp; try with_reducible rfl)
                intro act_ hact_; simp only [Act.put, List.setIfInBounds_toArray, List.set_cons_zero, List.set_cons_succ] at hact_; subst hact_
                refine wpAnyH_done (by kernel_rfl) ?_ _
                have hq := hHeld
                clear hHeld
                go_wp2_with fail
                go_roundw
                case rel => exact ⟨i + 1 + 1, by omega, by go_num, Lib.hid hq.2.2⟩
                case measure => simp [intOf]; omega
            · obtain rfl : j = n := by omega
              have jj : ¬ (j : Int) < j := by omega
              have B9 := thn BV.out PB4.out
              have G9 := HON.out _ _ GV.out PB4.out
              go_wp2_with (first
                | (go_at_call 10; ((with_reducible refine (HAW.out _ G9).mono ?_); rintro e v10 ⟨rfl, b10⟩)))
              go_ret
              exact ⟨by first | rfl | simp, thn B9 b10⟩
set_option maxRecDepth 100000 in
set_option maxHeartbeats 1600000 in
theorem walk {G : World → Prop} {kn : ByteArray → Bool} (HC : GroupsC G kn) (hkn : ∀ j, j < 18 → expE (gN j) = 0 → ∀ x ∈ expL (gN j), kn x = true) (a0 : ByteArray) (a1 : Int) (w : World) (hG : G w) (w0 : a0.size ≤ maxLen) (w1 : (Lit.int .i64 a1).wf = true) :
    Calls Try.prog 5 #[.string a0, .int .i64 a1] w fun e w' => e = .returned (.bool true) ∧ Below w.heap.size w w' := by
  by_cases hlong : (200 : Int) < a0.size
  · have HAW := Lib.hid (awake11_any HC w hG)
    clear HC hkn hG w0 w1
    go_enter Try.func5, Try.ntmps5
    go_wp2_with (go_at_call 10; ((with_reducible refine (HAW.out).mono ?_); rintro e v1 ⟨rfl, b1⟩))
    go_ret
    exact ⟨rfl, b1⟩
  by_cases h0 : memR a0 = []
  · obtain ⟨J, hJ⟩ := Int.eq_ofNat_of_zero_le (show 0 ≤ a1 % 18446744073709551616 % 18 by omega)
    have hJ8 : J < 18 := by omega
    exact core_unknown HC (gN J) J hJ8 rfl (hkn J hJ8) a0 h0 hlong w0 a1 hJ w hG
  · obtain ⟨j, hj, e⟩ := grp_of h0
    exact core_known HC a0 j hj e (by rw [e]; exact hkn j hj) a1 w hG

set_option maxRecDepth 100000 in
theorem lifted (HC : GroupsC (fun _ => True) knownR) (os : Os) (started : os.Started) (H : Type) (enc : TypeId × Value → H) :
    ReturnsInHanded {} Try.checked os 5 .any (Rows.groupsCallsSpec.pre6 enc Try.prog Try.f5 Rows.groupsCallsRow.domain false) (Rows.groupsCallsSpec.post enc Try.prog Try.f5 false true false false) := by
  refine returnsInHanded_of_change (C := Try.checked) ownKnob_none started (by kernel_rfl) Try.func5
    (ChangeSpec.witness6 (enc := enc) (C := Try.checked) false ⟨#[], #[.string ⟨#[]⟩, .int .i64 0], []⟩ 8 (by kernel_rfl) (by kernel_rfl) (by kernel_rfl) (by kernel_rfl)) ?_
  intro W base args ds gs before hval0 hW hcnd _
  have hval : ∀ (j : Nat) t v, Try.f5.params[j]? = some t → args[j]? = some v → Value.okWide Try.prog W .any base t v := hval0
  have hW' := hW
  obtain ⟨p, q, hA0, hV, rfl, hfz, hnd⟩ := hW
  have hA : DataW.TrodAll enc Try.prog W 0 (fun _ => true) true Try.f5.params.toList args.toList ds p := hA0
  rw [Try.params5] at hA hval
  obtain ⟨v0, vs0, d0, ds0, p0, q0, hargs, rfl, rfl, h0, r0⟩ := trodAll_cons hA
  obtain ⟨v1, vs1, d1, ds1, p1, q1, rfl, rfl, rfl, h1, r1⟩ := trodAll_cons r0
  obtain ⟨rfl, rfl, rfl⟩ := trodAll_nil r1
  obtain rfl : args = #[v0, v1] := by cases args; simp_all
  obtain ⟨rfl, rfl⟩ := trodVars_none hV
  obtain ⟨a0, rfl, rfl, rfl, w0⟩ := open_string Try.underlying9 (hval 0 9 v0 rfl rfl) h0
  obtain ⟨a1, rfl, rfl, rfl, w1⟩ := open_int Try.underlying3 (hval 1 3 v1 rfl rfl) h1
  clear hA0 hval0
  simp only [List.append_nil] at hW'
  refine (walk HC knownR_has a0 a1 W trivial w0 w1).mono fun e W' ⟨he, bel⟩ => ?_
  subst he
  exact ⟨_, rfl, _, _, _, [], [], [], hW', trodAll_mk1 (shut_bool Try.underlying4 _), (trodAll_cons_mk (shut_string Try.underlying9 w0) (trodAll_cons_mk (shut_int Try.underlying3 w1) trodAll_mk0)), rfl, bel.frame _, fun h => by cases h⟩

theorem over (HC : GroupsC (fun _ => True) knownR) : Rows.groupsCallsRow.holds Try.pinned (OpenSpec.ofChange Rows.groupsCallsSpec) :=
  OpenClaim.holds_of_wide 5 Try.f5 rfl rfl rfl rfl rfl rfl rfl ⟨rfl, rfl, rfl, rfl, rfl⟩ rfl rfl rfl rfl rfl (by kernel_rfl) Try.func5 (by kernel_rfl)
    (of_decide_eq_true (by kernel_rfl)) (by unfold Func.isWrapper; first | (rw [if_pos (by decide +kernel)]; kernel_rfl) | (rw [if_neg (by decide +kernel)]; exact ⟨rfl, rfl⟩))
    (fun os started H enc _ => lifted HC os started H enc)

/-- The statement. -/
theorem proved : Rows.GroupsCallsSaid := over groupsC
#print axioms proved
end Go.Proofs.Ytciocmhmdhmdoaa.groupsCalls
