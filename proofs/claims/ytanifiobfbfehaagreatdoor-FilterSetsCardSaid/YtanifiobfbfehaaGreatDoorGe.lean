/- What the document's own Expand returns. No condition. -/
import Derived.Test.YtanifiobfbfehaaGreatDoorGa
import Derived.Deep.LoopGhost
namespace Go.Proofs.YtanifiobfbfehaaGreatDoor
open Go.RowKit
set_option linter.unusedVariables false
theorem iter_zero (s : ByteArray) : iterE s 0 = ([s], []) := rfl
theorem iter_succ (s : ByteArray) (k : Nat) : iterE s (k + 1) = stepE (iterE s k) := rfl
theorem step_cons (x : ByteArray) (r o : List ByteArray) : stepE (x :: r, o) = midE r o (memR x) (memR x).length := by
  unfold midE
  rw [List.take_length]; rfl
theorem mid_zero (r o M : List ByteArray) : midE r o M 0 = (r, o) := rfl
attribute [local irreducible] iterE stepE midE putR putTo memR deepR deepTo grpT
set_option linter.unusedSimpArgs false
attribute [local go_sem ↓] Go.wp_at_zero Go.wp_at_succ

theorem refMem_n (t : ByteArray) (n : Nat) (hn : n = (memR t).length) (W : World) : Calls Tryz.prog 61 #[.string t] W fun e w' => ∃ q c, e = .returned (.slice q n c) ∧ Below W.heap.size W w' ∧ (∀ k s, (memR t)[k]? = some s → ∃ g o, q = some ⟨g, o, none⟩ ∧ w'.cell? ⟨g, o + k, none⟩ = some (.string s) ∧ W.heap.size ≤ g) := by
  refine (refMembers t W).mono ?_
  rintro e w' ⟨v, rfl, ⟨q, c, rfl, hr⟩, hb, hf⟩
  refine ⟨q, c, by rw [hn], hb, fun k s hk => ?_⟩
  obtain ⟨g, o, rfl, hc⟩ := hr k s hk
  exact ⟨g, o, rfl, hc, hf g rfl⟩
theorem QAt.new (B : Nat) (w : World) (s : ByteArray) (t : TypeId) (h : B ≤ w.heap.size) : QAt B (w.alloc (.cells #[.string s] t)) (.slice (some ⟨w.heap.size, 0, none⟩) 1 1) [s] := by
  refine ⟨w.heap.size, 0, 1, rfl, h, by rw [World.size_alloc]; omega, Nat.le_refl _, by unfold maxLen; omega, fun k x hk => ?_, fun j hj => absurd hj (by simp)⟩
  have := news_g w s t k (.string x) (sG_get hk)
  rwa [Addr.add_lit] at this
theorem own_kept {w w' : World} {B n s : Nat} {e : TypeId} {v : Value} {xs : List Value} (h : w.ownsRow B e s v n xs) (hb : ∀ g, v.ownBlock = some g → w'.heap[g]? = w.heap[g]?) : w'.ownsRow B e s v n xs := by
  refine ⟨h.1, ?_⟩
  rcases h.2 with h2 | ⟨g, cap, cur, rfl, hgB, hg, r⟩
  · exact Or.inl h2
  · exact Or.inr ⟨g, cap, cur, rfl, hgB, (hb g rfl).trans hg, r⟩
theorem own_on {w w' : World} {B n s : Nat} {e : TypeId} {v : Value} {xs : List Value} (h : w.ownsRow B e s v n xs) (hb : Below w.heap.size w w') : w'.ownsRow B e s v n xs :=
  own_kept h fun g hg => hb.block g (h.lt g hg).2
theorem own_low {w : World} {B B' n s : Nat} {e : TypeId} {v : Value} {xs : List Value} (h : w.ownsRow B e s v n xs) (hB : B' ≤ B) : w.ownsRow B' e s v n xs := by
  refine ⟨h.1, ?_⟩
  rcases h.2 with h2 | ⟨g, cap, cur, hv, hgB, r⟩
  · exact Or.inl h2
  · exact Or.inr ⟨g, cap, cur, hv, by omega, r⟩
/-- A group's names while Expand reads them: in no block of the queue. -/
def MemAt (w : World) (q : Option Addr) (v5 : Value) (M : List ByteArray) : Prop := ∀ k s, M[k]? = some s → ∃ g o, q = some ⟨g, o, none⟩ ∧ w.cell? ⟨g, o + k, none⟩ = some (.string s) ∧ v5.ownBlock ≠ some g
theorem MemAt.on {w w' : World} {q : Option Addr} {v5 : Value} {M : List ByteArray} (h : MemAt w q v5 M) (hb : Below w.heap.size w w') : MemAt w' q v5 M := fun k s hk => by
  obtain ⟨g, o, rfl, hc, hn⟩ := h k s hk
  exact ⟨g, o, rfl, (hb.cell (World.block_lt_of_cell? w _ hc)).trans hc, hn⟩
theorem MemAt.turned {w w' : World} {q : Option Addr} {v5 v' : Value} {M : List ByteArray} (h : MemAt w q v5 M) (hb : ∀ b, b < w.heap.size → v5.ownBlock ≠ some b → w'.heap[b]? = w.heap[b]?) (hv : v'.ownBlock = v5.ownBlock ∨ ∀ b, v'.ownBlock = some b → w.heap.size ≤ b) : MemAt w' q v' M := fun k s hk => by
  obtain ⟨g, o, rfl, hc, hn⟩ := h k s hk
  have hlt : g < w.heap.size := World.block_lt_of_cell? w _ hc
  refine ⟨g, o, rfl, (World.cell?_of_block (a := ⟨g, o + k, none⟩) (hb g hlt hn)).trans hc, fun e => ?_⟩
  rcases hv with hv | hv
  · exact hn (hv ▸ e)
  · have := hv g e; omega
def Apart (v4 v5 : Value) : Prop := ∀ g, v4.ownBlock = some g → v5.ownBlock ≠ some g
set_option maxHeartbeats 4000000 in
theorem expand_none (s : ByteArray) (w : World) (h : memR s = []) : Calls Tryz.prog 45 #[.string s] w fun e w' => ∃ v, e = .returned (.tuple #[v, .int .i64 110]) ∧ w'.ownsRow w.heap.size 9 1 v (([] : List ByteArray)).length (sG (([] : List ByteArray))) ∧ Below w.heap.size w w' := by
  have HM := Lib.hid (refMem_n s 0 (by rw [h]; rfl) w)
  clear h
  go_enter Tryz.func45, Tryz.ntmps45
  go_wp2_with (go_at_call 61; ((with_reducible refine (HM.out).mono ?_); rintro e W ⟨q, c, rfl, b1, _⟩))
  go_ret2
  exact ⟨_, rfl, World.ownsRow_nil _ _ _ _, b1⟩
set_option maxHeartbeats 4000000 in
theorem expand_deep (s : ByteArray) (w : World) (h : memR s ≠ []) (hd : 4 < deepR s) : Calls Tryz.prog 45 #[.string s] w fun e w' => ∃ v, e = .returned (.tuple #[v, .int .i64 111]) ∧ w'.ownsRow w.heap.size 9 1 v (([] : List ByteArray)).length (sG (([] : List ByteArray))) ∧ Below w.heap.size w w' := by
  have h0 : 0 < (memR s).length := List.length_pos_iff.2 h
  obtain ⟨n, hn⟩ : ∃ n, n = (memR s).length := ⟨_, rfl⟩
  rw [← hn] at h0
  have HM := Lib.hid (refMem_n s n hn w)
  have HD := Lib.hid (fun W => refDeep s W)
  obtain ⟨d, hdd⟩ : ∃ d, d = deepR s := ⟨_, rfl⟩
  rw [← hdd] at HD hd
  have i1 : (4 : Int) < d := by omega
  have i2 : ¬ (n : Int) = 0 := by omega
  have i3 : ((n : Int) == 0) = false := beq_eq_false_iff_ne.2 i2
  clear h h0 hn hdd hd
  go_enter Tryz.func45, Tryz.ntmps45
  go_wp2_with (first
    | (go_at_call 61; ((with_reducible refine (HM.out).mono ?_); rintro e W ⟨q, c, rfl, b1, _⟩))
    | (go_at_call 62; ((with_reducible refine (HD.out _).mono ?_); rintro e X ⟨rfl, b2⟩)))
  go_ret2
  exact ⟨_, rfl, World.ownsRow_nil _ _ _ _, b1.trans (b2.mono b1.size)⟩
set_option maxRecDepth 100000 in
set_option maxHeartbeats 32000000 in
theorem expand_all (s : ByteArray) (w : World) (N : Nat) (hN : N ≤ 24) (hend : (iterE s N).1 = []) (h : memR s ≠ []) (hd : ¬ 4 < deepR s) : Calls Tryz.prog 45 #[.string s] w fun e w' => ∃ v, e = .returned (.tuple #[v, .int .i64 0]) ∧ w'.ownsRow w.heap.size 9 1 v ((iterE s N).2).length (sG ((iterE s N).2)) ∧ Below w.heap.size w w' := by
  obtain ⟨i0, hi0, hz0, hz1, hz2⟩ := info_parts str_info11
  have HI := Lib.hid hi0
  have HZ0 := Lib.hid hz0
  have HZ1 := Lib.hid hz1
  have HZ2 := Lib.hid hz2
  have h0 : 0 < (memR s).length := List.length_pos_iff.2 h
  have HEND := Lib.hid hend
  have HN24 := Lib.hid hN
  obtain ⟨n0, hn⟩ : ∃ n, n = (memR s).length := ⟨_, rfl⟩
  rw [← hn] at h0
  have HM := Lib.hid (refMem_n s n0 hn w)
  have HD := Lib.hid (fun W => refDeep s W)
  obtain ⟨d, hdd⟩ : ∃ d, d = deepR s := ⟨_, rfl⟩
  rw [← hdd] at HD hd
  have HMM := Lib.hid (fun (t : ByteArray) (n : Nat) (hn : n = (memR t).length) (W : World) => refMem_n t n hn W)
  have HPP := Lib.hid (fun (v : Value) (l : List ByteArray) (t : ByteArray) (W : World) (hl : StrsAt W v l) (hn : l.length ≤ 1000) => refPut v l t W hl hn)
  have i1 : ¬ (4 : Int) < d := by omega
  have i2 : ¬ (n0 : Int) = 0 := by omega
  have i3 : ((n0 : Int) == 0) = false := beq_eq_false_iff_ne.2 i2
  obtain ⟨R, hR⟩ : ∃ R, R = (iterE s N).2 := ⟨_, rfl⟩
  have HR := Lib.hid hR
  rw [← hR]
  clear h h0 hn hdd hd hend hN hi0 hz0 hz1 hz2 hR
  go_enter Tryz.func45, Tryz.ntmps45
  go_wp2_with (first
    | (go_at_call 61; ((with_reducible refine (HM.out).mono ?_); rintro e W ⟨q, c, rfl, b1, _⟩))
    | (go_at_call 62; ((with_reducible refine (HD.out _).mono ?_); rintro e X ⟨rfl, b2⟩); have B2 := Lib.hid (b1.trans (b2.mono b1.size)); clear b1 b2))
  go_loopg [4, 5] N (fun gk v4 v5 wr => ∃ (op ou : List ByteArray), gk ≤ N ∧ Hid (iterE s (N - gk) = (op, ou)) ∧ Hid (wr.ownsRow w.heap.size 9 1 v4 ou.length (sG ou)) ∧ Hid (QAt w.heap.size wr v5 op) ∧ Hid (Apart v4 v5) ∧ Hid (Below w.heap.size w wr))
  case atStart => exact ⟨[s], [], Nat.le_refl _, Lib.hid (by rw [Nat.sub_self]; exact iter_zero s), Lib.hid (World.ownsRow_nil _ _ _ _), Lib.hid (QAt.new _ _ _ _ B2.out.size), Lib.hid (fun g h => by cases h), Lib.hid (B2.out.alloc B2.out.size _)⟩
  case round =>
    obtain ⟨op, ou, hgk, hit, PO, PQ, PA, PB⟩ := hrel
    obtain ⟨V, rfl⟩ : ∃ wo : World, wo = wr := ⟨_, rfl⟩
    cases op with
    | nil =>
      obtain ⟨g, o, c, hv, _⟩ := PQ.out
      rw [List.length_nil] at hv
      subst hv
      have hR := Lib.hid (show R = ou by
        have := iter_done (s := s) (k := N - gk) (by rw [hit.out]) gk
        rw [HR.out, show iterE s N = iterE s (N - gk + gk) by rw [Nat.sub_add_cancel hgk], this, hit.out])
      go_wp2
      go_ret2
      exact ⟨_, rfl, by rw [hR.out]; exact PO.out, PB.out⟩
    | cons x r =>
      have hg0 : 0 < gk := by
        rcases Nat.eq_zero_or_pos gk with e | e
        · subst e
          have h1 := hit.out
          rw [Nat.sub_zero] at h1
          have h2 := HEND.out
          rw [h1] at h2
          exact absurd h2 (by simp)
        · exact e
      have hsz := iter_le s (N - gk)
      rw [hit.out] at hsz
      unfold szE at hsz
      simp only [List.length_cons] at hsz
      obtain ⟨g, o, c, hv, q1, q2, q3, q4, q5, q6⟩ := PQ.out
      have c0 := q5 0 x rfl
      rw [Nat.add_zero] at c0
      rw [List.length_cons] at hv
      subst hv
      obtain ⟨hc0, QT⟩ := PQ.out.tail
      have hgb : g < V.heap.size := q2
      obtain ⟨m, hm⟩ : ∃ m, m = r.length := ⟨_, rfl⟩
      rw [← hm] at QT ⊢
      have m1 : (0 : Int) < (m : Int) + 1 := by omega
      have m2 : (1 : Int) ≤ (m : Int) + 1 := by omega
      obtain ⟨M, hM⟩ : ∃ M, M = memR x := ⟨_, rfl⟩
      have hM8 : M.length ≤ 8 := by rw [hM]; exact mem_le x
      obtain ⟨n, hn⟩ : ∃ n, n = M.length := ⟨_, rfl⟩
      have HN := Lib.hid hn
      have HMX := Lib.hid (HMM.out x n (by rw [hn, hM]) V)
      rw [← hM] at HMX
      have HNEXT := Lib.hid (show iterE s (N - (gk - 1)) = midE r ou M n by
        rw [show N - (gk - 1) = N - gk + 1 by omega]
        rw [iter_succ, hit.out, step_cons, ← hM, ← hn])
      have hN24 := HN24.out
      have HSZ := Lib.hid (show r.length + ou.length ≤ 193 by omega)
      clear hN24
      have HM8 := Lib.hid hM8
      have HGK := Lib.hid hgk
      have HG0 := Lib.hid hg0
      clear hsz hM8 hgk hg0 hit q1 q2 q3 q4 q5 q6 hm hM hn
      by_cases hc1 : c = 1
      · subst hc1; rw [if_pos rfl] at QT
        go_wp2_with (go_at_call 61; ((with_reducible refine (HMX.out).mono ?_); rintro e X ⟨q, cm, rfl, b3, t3⟩; have B3 := Lib.hid b3; have M3 := Lib.hid t3; clear b3 t3))
        go_loopw [4, 5, 7] (fun v4 v5 v7 wr => ∃ (k : Nat) (op ou' : List ByteArray), k ≤ n ∧ v7 = .int .i64 k ∧ Hid (midE r ou M k = (op, ou')) ∧ Hid (wr.ownsRow w.heap.size 9 1 v4 ou'.length (sG ou')) ∧ Hid (QAt w.heap.size wr v5 op) ∧ Hid (Apart v4 v5) ∧ Hid (MemAt wr q v5 M) ∧ Hid (Below w.heap.size w wr)) (fun _ _ v7 _ => n - (intOf v7).toNat)
        case atStart => exact ⟨0, r, ou, Nat.zero_le _, rfl, Lib.hid (mid_zero r ou M), Lib.hid (own_on PO.out B3.out), Lib.hid (QT.on B3.out), Lib.hid (fun b hb => PA.out b hb), Lib.hid (fun k s hk => by
          obtain ⟨gm, om, hq, hcm, hfm⟩ := M3.out k s hk
          exact ⟨gm, om, hq, hcm, fun e => by have := Option.some.inj e; change g = gm at this; omega⟩), Lib.hid (PB.out.trans (B3.out.mono PB.out.size))⟩
        case round =>
          obtain ⟨k, op, ou', hk, rfl, hmid, QO, QQ, QA, QM, QB⟩ := hrel
          obtain ⟨Y, rfl⟩ : ∃ wo : World, wo = wr := ⟨_, rfl⟩
          by_cases hlt : k < n
          · have hx : M[k]? = some (M[k]'(by rw [← HN.out]; exact hlt)) := List.getElem?_eq_getElem _
            obtain ⟨t, ht⟩ : ∃ t, t = M[k]'(by rw [← HN.out]; exact hlt) := ⟨_, rfl⟩
            rw [← ht] at hx
            obtain ⟨gm, om, rfl, hcm, hnm⟩ := QM.out k t hx
            have HS := Lib.hid (mid_step (r := r) (o := ou) hx)
            have hle := mid_le r ou M k HM8.out
            rw [hmid.out] at HS hle
            have hsz2 := HSZ.out
            unfold szE at hle
            simp only at hle
            have hle1 : op.length ≤ 1000 := by omega
            have hle2 : ou'.length ≤ 1000 := by omega
            have HLT := Lib.hid (World.block_lt_of_cell? Y _ hcm)
            have HC0 := Lib.hid hcm
            have c1 := hcm
            have k1 : (k : Int) < n := by omega
            have k0 : (0 : Int) ≤ k := by omega
            have hn8 : n ≤ 8 := by rw [HN.out]; exact HM8.out
            have hw1 : IntKind.i64.wrap ((k : Int) + 1) = k + 1 := by rw [IntKind.wrap_i64]; omega
            clear hx ht hnm hle hsz2 hcm
            by_cases hmt : memR t = []
            · have HMT := Lib.hid (HMM.out t 0 (by rw [hmt]; rfl) Y)
              have HS2 := Lib.hid (show midE r ou M (k + 1) = (op, putR ou' t) by rw [HS.out]; unfold inE; rw [if_pos hmt])
              have HL2 := Lib.hid hle2
              clear HS hmt hle1 hle2
              go_wp2_with (first
                | (go_at_call 61; ((with_reducible refine (HMT.out).mono ?_); rintro e Z ⟨q2, c2, rfl, b4, _⟩; have B4 := Lib.hid b4; have c4 := (b4.cell HLT.out).trans HC0.out; clear b4))
                | (go_at_call 63; ((with_reducible refine (HPP.out _ ou' t _ (strs_own (own_on QO.out B4.out)) HL2.out).mono ?_); rintro e U ⟨rv, rfl, o5, b5⟩; have B5 := Lib.hid b5; have O5 := Lib.hid o5; clear o5 b5)))
              go_roundw
              case rel =>
                have hYZ : Y.heap.size ≤ Z.heap.size := B4.out.size
                have hYw : w.heap.size ≤ Y.heap.size := QB.out.size
                have B6 : Below Y.heap.size Y U := B4.out.trans (B5.out.mono hYZ)
                exact ⟨k + 1, op, putR ou' t, by omega, by go_num, HS2, Lib.hid (own_low O5.out (by omega)), Lib.hid (QQ.out.on B6), Lib.hid (fun b hb e => by
                  have h1 := (O5.out.lt b hb).1
                  have h2 := (QQ.out.lt b e).2
                  omega), Lib.hid (QM.out.on B6), Lib.hid (QB.out.trans (B6.mono hYw))⟩
              case measure => simp [intOf]; omega
            · have hmp : 0 < (memR t).length := List.length_pos_iff.2 hmt
              obtain ⟨nt, hnt⟩ : ∃ n, n = (memR t).length := ⟨_, rfl⟩
              rw [← hnt] at hmp
              have HMT := Lib.hid (HMM.out t nt hnt Y)
              have HS2 := Lib.hid (show midE r ou M (k + 1) = (op ++ [t], ou') by rw [HS.out]; unfold inE; rw [if_neg hmt])
              have HL1 := Lib.hid hle1
              have n1 : (0 : Int) < (nt : Int) := by omega
              clear HS hmt hle1 hle2 hmp hnt
              go_wp2_with (first
                | (go_at_call 61; ((with_reducible refine (HMT.out).mono ?_); rintro e Z ⟨q2, c2, rfl, b4, _⟩; have B4 := Lib.hid b4; have c4 := (b4.cell HLT.out).trans HC0.out; clear b4))
                | (at_builtin
                   refine wpList_append_q _ rfl (.tmp 39) (.tmp 44) 52 9 rfl i0 _ Tryz.underlying52 HI.out HZ0.out HZ1.out HZ2.out rfl w.heap.size _ op ((QQ.out.on B4.out).kept (by rw [World.size_alloc]; omega) (fun b hb => Below.heap_alloc Z _ b ((QQ.out.on B4.out).lt b hb).2)) rfl t ⟨Z.heap.size, 0, none⟩ 1 rfl (news_g Z t _) HL1.out (by rw [World.size_alloc]; have h1 := B4.out.size; have h2 := QB.out.size; omega) ?_
                   intro v5 U o5 s5 b5 f5 e5
                   have O5 := Lib.hid o5
                   have S5 := Lib.hid s5
                   have B5 := Lib.hid b5
                   have F5 := Lib.hid f5
                   have E5 := Lib.hid e5
                   clear o5 s5 b5 f5 e5))
              go_roundw
              case rel =>
                have hYZ : Y.heap.size ≤ Z.heap.size := B4.out.size
                have hYw : w.heap.size ≤ Y.heap.size := QB.out.size
                have A4 : Below Y.heap.size Y (Z.alloc (.cells #[.string t] 9)) := B4.out.alloc hYZ _
                refine ⟨k + 1, op ++ [t], ou', by omega, by go_num, HS2, Lib.hid (own_kept (own_on QO.out A4) fun b hb => F5.out b ((own_on QO.out A4).lt b hb).2 (QA.out b hb)), O5, Lib.hid (fun b hb e => ?_), Lib.hid ((QM.out.on A4).turned F5.out E5.out), Lib.hid ((QB.out.trans (A4.mono hYw)).trans B5.out)⟩
                rcases E5.out with h1 | h1
                · exact QA.out b hb (h1 ▸ e)
                · have h2 := h1 b e
                  have h3 := ((own_on QO.out A4).lt b hb).2
                  omega
              case measure => simp [intOf]; omega
          · obtain rfl : k = n := by omega
            have k1 : ¬ (k : Int) < k := by omega
            go_wp2
            go_roundg (gk - 1)
            case measure => have := HG0.out; omega
            case rel => exact ⟨op, ou', by have := HGK.out; omega, Lib.hid (by rw [HNEXT.out]; exact hmid.out), QO, QQ, QA, QB⟩
      · rw [if_neg hc1] at QT
        go_wp2_with (go_at_call 61; ((with_reducible refine (HMX.out).mono ?_); rintro e X ⟨q, cm, rfl, b3, t3⟩; have B3 := Lib.hid b3; have M3 := Lib.hid t3; clear b3 t3))
        go_loopw [4, 5, 7] (fun v4 v5 v7 wr => ∃ (k : Nat) (op ou' : List ByteArray), k ≤ n ∧ v7 = .int .i64 k ∧ Hid (midE r ou M k = (op, ou')) ∧ Hid (wr.ownsRow w.heap.size 9 1 v4 ou'.length (sG ou')) ∧ Hid (QAt w.heap.size wr v5 op) ∧ Hid (Apart v4 v5) ∧ Hid (MemAt wr q v5 M) ∧ Hid (Below w.heap.size w wr)) (fun _ _ v7 _ => n - (intOf v7).toNat)
        case atStart => exact ⟨0, r, ou, Nat.zero_le _, rfl, Lib.hid (mid_zero r ou M), Lib.hid (own_on PO.out B3.out), Lib.hid (QT.on B3.out), Lib.hid (fun b hb => PA.out b hb), Lib.hid (fun k s hk => by
          obtain ⟨gm, om, hq, hcm, hfm⟩ := M3.out k s hk
          exact ⟨gm, om, hq, hcm, fun e => by have := Option.some.inj e; change g = gm at this; omega⟩), Lib.hid (PB.out.trans (B3.out.mono PB.out.size))⟩
        case round =>
          obtain ⟨k, op, ou', hk, rfl, hmid, QO, QQ, QA, QM, QB⟩ := hrel
          obtain ⟨Y, rfl⟩ : ∃ wo : World, wo = wr := ⟨_, rfl⟩
          by_cases hlt : k < n
          · have hx : M[k]? = some (M[k]'(by rw [← HN.out]; exact hlt)) := List.getElem?_eq_getElem _
            obtain ⟨t, ht⟩ : ∃ t, t = M[k]'(by rw [← HN.out]; exact hlt) := ⟨_, rfl⟩
            rw [← ht] at hx
            obtain ⟨gm, om, rfl, hcm, hnm⟩ := QM.out k t hx
            have HS := Lib.hid (mid_step (r := r) (o := ou) hx)
            have hle := mid_le r ou M k HM8.out
            rw [hmid.out] at HS hle
            have hsz2 := HSZ.out
            unfold szE at hle
            simp only at hle
            have hle1 : op.length ≤ 1000 := by omega
            have hle2 : ou'.length ≤ 1000 := by omega
            have HLT := Lib.hid (World.block_lt_of_cell? Y _ hcm)
            have HC0 := Lib.hid hcm
            have c1 := hcm
            have k1 : (k : Int) < n := by omega
            have k0 : (0 : Int) ≤ k := by omega
            have hn8 : n ≤ 8 := by rw [HN.out]; exact HM8.out
            have hw1 : IntKind.i64.wrap ((k : Int) + 1) = k + 1 := by rw [IntKind.wrap_i64]; omega
            clear hx ht hnm hle hsz2 hcm
            by_cases hmt : memR t = []
            · have HMT := Lib.hid (HMM.out t 0 (by rw [hmt]; rfl) Y)
              have HS2 := Lib.hid (show midE r ou M (k + 1) = (op, putR ou' t) by rw [HS.out]; unfold inE; rw [if_pos hmt])
              have HL2 := Lib.hid hle2
              clear HS hmt hle1 hle2
              go_wp2_with (first
                | (go_at_call 61; ((with_reducible refine (HMT.out).mono ?_); rintro e Z ⟨q2, c2, rfl, b4, _⟩; have B4 := Lib.hid b4; have c4 := (b4.cell HLT.out).trans HC0.out; clear b4))
                | (go_at_call 63; ((with_reducible refine (HPP.out _ ou' t _ (strs_own (own_on QO.out B4.out)) HL2.out).mono ?_); rintro e U ⟨rv, rfl, o5, b5⟩; have B5 := Lib.hid b5; have O5 := Lib.hid o5; clear o5 b5)))
              go_roundw
              case rel =>
                have hYZ : Y.heap.size ≤ Z.heap.size := B4.out.size
                have hYw : w.heap.size ≤ Y.heap.size := QB.out.size
                have B6 : Below Y.heap.size Y U := B4.out.trans (B5.out.mono hYZ)
                exact ⟨k + 1, op, putR ou' t, by omega, by go_num, HS2, Lib.hid (own_low O5.out (by omega)), Lib.hid (QQ.out.on B6), Lib.hid (fun b hb e => by
                  have h1 := (O5.out.lt b hb).1
                  have h2 := (QQ.out.lt b e).2
                  omega), Lib.hid (QM.out.on B6), Lib.hid (QB.out.trans (B6.mono hYw))⟩
              case measure => simp [intOf]; omega
            · have hmp : 0 < (memR t).length := List.length_pos_iff.2 hmt
              obtain ⟨nt, hnt⟩ : ∃ n, n = (memR t).length := ⟨_, rfl⟩
              rw [← hnt] at hmp
              have HMT := Lib.hid (HMM.out t nt hnt Y)
              have HS2 := Lib.hid (show midE r ou M (k + 1) = (op ++ [t], ou') by rw [HS.out]; unfold inE; rw [if_neg hmt])
              have HL1 := Lib.hid hle1
              have n1 : (0 : Int) < (nt : Int) := by omega
              clear HS hmt hle1 hle2 hmp hnt
              go_wp2_with (first
                | (go_at_call 61; ((with_reducible refine (HMT.out).mono ?_); rintro e Z ⟨q2, c2, rfl, b4, _⟩; have B4 := Lib.hid b4; have c4 := (b4.cell HLT.out).trans HC0.out; clear b4))
                | (at_builtin
                   refine wpList_append_q _ rfl (.tmp 39) (.tmp 44) 52 9 rfl i0 _ Tryz.underlying52 HI.out HZ0.out HZ1.out HZ2.out rfl w.heap.size _ op ((QQ.out.on B4.out).kept (by rw [World.size_alloc]; omega) (fun b hb => Below.heap_alloc Z _ b ((QQ.out.on B4.out).lt b hb).2)) rfl t ⟨Z.heap.size, 0, none⟩ 1 rfl (news_g Z t _) HL1.out (by rw [World.size_alloc]; have h1 := B4.out.size; have h2 := QB.out.size; omega) ?_
                   intro v5 U o5 s5 b5 f5 e5
                   have O5 := Lib.hid o5
                   have S5 := Lib.hid s5
                   have B5 := Lib.hid b5
                   have F5 := Lib.hid f5
                   have E5 := Lib.hid e5
                   clear o5 s5 b5 f5 e5))
              go_roundw
              case rel =>
                have hYZ : Y.heap.size ≤ Z.heap.size := B4.out.size
                have hYw : w.heap.size ≤ Y.heap.size := QB.out.size
                have A4 : Below Y.heap.size Y (Z.alloc (.cells #[.string t] 9)) := B4.out.alloc hYZ _
                refine ⟨k + 1, op ++ [t], ou', by omega, by go_num, HS2, Lib.hid (own_kept (own_on QO.out A4) fun b hb => F5.out b ((own_on QO.out A4).lt b hb).2 (QA.out b hb)), O5, Lib.hid (fun b hb e => ?_), Lib.hid ((QM.out.on A4).turned F5.out E5.out), Lib.hid ((QB.out.trans (A4.mono hYw)).trans B5.out)⟩
                rcases E5.out with h1 | h1
                · exact QA.out b hb (h1 ▸ e)
                · have h2 := h1 b e
                  have h3 := ((own_on QO.out A4).lt b hb).2
                  omega
              case measure => simp [intOf]; omega
          · obtain rfl : k = n := by omega
            have k1 : ¬ (k : Int) < k := by omega
            go_wp2
            go_roundg (gk - 1)
            case measure => have := HG0.out; omega
            case rel => exact ⟨op, ou', by have := HGK.out; omega, Lib.hid (by rw [HNEXT.out]; exact hmid.out), QO, QQ, QA, QB⟩
theorem refExpand_own (s : ByteArray) (w : World) : Calls Tryz.prog 45 #[.string s] w fun e w' => ∃ v, e = .returned (.tuple #[v, .int .i64 (expE s)]) ∧ w'.ownsRow w.heap.size 9 1 v (expL s).length (sG (expL s)) ∧ Below w.heap.size w w' := by
  unfold expE expL
  by_cases h : memR s = []
  · rw [if_pos h, if_pos (Or.inl h)]
    exact expand_none s w h
  · rw [if_neg h]
    by_cases hd : 4 < deepR s
    · rw [if_pos hd, if_pos (Or.inr hd)]
      exact expand_deep s w h hd
    · rw [if_neg hd, if_neg (by rintro (h1 | h1); exact h h1; exact hd h1)]
      exact expand_all s w 24 (Nat.le_refl _) (exp_end h) h hd
end Go.Proofs.YtanifiobfbfehaaGreatDoor
