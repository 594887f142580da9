/- The map of the drop-ins that count: what the landed call makes of files. Condition: files that lie in memory, at most 1000. -/
import Derived.Test.YtgigdhincpcdbaaGreatDoorRb
import Derived.Test.YtgigdhincpcdbaaGreatDoorRc
import Derived.Maps.RangeWalk
namespace Go.Proofs.YtgigdhincpcdbaaGreatDoor
open Go.RowKit Go.Maps
set_option linter.unusedVariables false
set_option linter.unusedSimpArgs false
attribute [local go_sem ↓] Go.wp_at_zero Go.wp_at_succ

theorem keyed14 : Keyed Tryz.prog 9 := string_keyed Tryz.underlying9
theorem zero14 (w : World) : (zeroValue 24).run Tryz.prog w = .ok (.agg #[.string ⟨#[]⟩, .int .i64 0, .slice none 0 0]) w := by kernel_rfl
/-- A look-up, what stands there being known. -/
theorem lookup14 {P : Program} {w : World} {ops : Array Oper} {rest : List Oper} {o : Oper} {a : Act} {Q : Exit → Act → World → Prop} (hg : o.guard = none) (m x : Operand) (t : TypeId) (hop : o.op = Op.lookup t m x true)
    (k e : TypeId) (K : Keyed P k) (ht : P.underlying t = some (.map k e)) {z : Value} (hz : (zeroValue e).run P w = .ok z w) (b n : Nat) {D : DataW Value}
    (hm : a.eval m = .map (some b)) (hown : w.ownsMap P k RV b n D) (key : Value) (kl : Lit) (hx : a.eval x = key) (hkey : Go.keyOf P k key = some kl) (v : Value) (ok : Bool) (hok : has D kl = ok) (hv : D.atKey kl (.held z) = .held v)
    (hK : wpList P ops Q rest (a.put o.dst (.tuple #[v, .bool ok])) w) : wpList P ops Q (o :: rest) a w :=
  wpList_lookup_own_ok w hg m x t hop k e K ht RV hz (.held z) [] rfl b n D hm hown key kl hx hkey fun v' ps h => by
    have e1 := congrArg (fun q => q.1) (Option.some.inj h)
    have e2 : DataW.held v' = .held v := (show DataW.held v' = D.atKey kl (.held z) from e1).trans hv
    injection e2 with e2
    rw [e2, hok]; exact hK
set_option maxRecDepth 100000 in
set_option maxHeartbeats 16000000 in
theorem effective14 (D : List Fle) (a : Option Addr) (n cap : Nat) (w : World) (h : FsAt w a n cap D) (hn : n ≤ 1000) : Calls Tryz.prog 24 #[.slice a n cap] w fun e w' =>
    ∃ M, e = .returned (.map (some w.heap.size)) ∧ w'.ownsMap Tryz.prog 9 RV w.heap.size n M ∧ MapK M D n ∧ Below w.heap.size w w' := by
  have hmm := @run_makeMap Tryz.prog
  obtain ⟨g, o, hbase, hcells⟩ := h.base
  have HA := Lib.hid hbase
  have HCL := Lib.hid (fun (W : World) (b : Below w.heap.size w W) k (hk : k < n) => (show W.cell? ⟨g, o + k * 3, none⟩ = some (.string (D.getD k f0).name) ∧ W.cell? ⟨g, o + k * 3 + 1, none⟩ = some (.int .i64 (D.getD k f0).dir) ∧ W.cell? ⟨g, o + k * 3 + 2, none⟩ = some (.slice (D.getD k f0).ptr (D.getD k f0).len (D.getD k f0).cap) from
    ⟨(b.cell (World.block_lt_of_cell? w _ (hcells k hk).1)).trans (hcells k hk).1, (b.cell (World.block_lt_of_cell? w _ (hcells k hk).2.1)).trans (hcells k hk).2.1, (b.cell (World.block_lt_of_cell? w _ (hcells k hk).2.2)).trans (hcells k hk).2.2⟩))
  have HNM := Lib.hid (fun k (hk : k < n) => (show (D.getD k f0).name.size ≤ maxLen from by obtain ⟨_, _, _, _, _, _, hf⟩ := h.at hk; exact hf.nm))
  have HN := Lib.hid hn
  clear h hbase hcells hn
  go_enter Tryz.func24, Tryz.ntmps24
  go_wp2_with fail
  clear hmm
  go_loopw [11] (fun v11 wr => ∃ (k : Nat) (M : DataW Value), k ≤ n ∧ v11 = .int .i64 k ∧ Hid (wr.ownsMap Tryz.prog 9 RV w.heap.size k M) ∧ Hid (MapK M D k) ∧ Hid (Below w.heap.size w wr)) (fun v11 _ => n - (intOf v11).toNat)
  case atStart => exact ⟨0, .map [], Nat.zero_le _, rfl, Lib.hid (World.ownsMap_made _ _ _ _), Lib.hid (MapK.start D), Lib.hid ((Below.refl _ _).alloc (Nat.le_refl _) _)⟩
  case round =>
    obtain ⟨k, M, hk, rfl, HO, HM, PB⟩ := hrel
    obtain ⟨V, rfl⟩ : ∃ wo : World, wo = wr := ⟨_, rfl⟩
    by_cases hlt : k < n
    · obtain rfl := HA.out (by omega)
      obtain ⟨c0, c1, c2⟩ := HCL.out V PB.out k hlt
      have k1 : (k : Int) < n := by omega
      have k0 : (0 : Int) ≤ k := by omega
      have hw1 : IntKind.i64.wrap ((k : Int) + 1) = k + 1 := by have := HN.out; rw [IntKind.wrap_i64]; omega
      have hnm := HNM.out k hlt
      have HPN := Lib.hid (fun hx => HM.out.put_new (k := k) trivial hx)
      have HPL := Lib.hid (fun (i : Nat) (hi : i < k) hm e hd => HM.out.put_less (k := k) (i := i) trivial hi hm e hd)
      have HPS := Lib.hid (fun (i : Nat) (hi : i < k) hm e hd => HM.out.stay (k := k) (i := i) hi hm e hd)
      have HFD := Lib.hid (fun hx => HM.out.found (k := k) hx)
      obtain ⟨dk, hdk⟩ : ∃ d, d = D.getD k f0 := ⟨_, rfl⟩
      rw [← hdk] at c0 c1 c2 hnm HPN HPL HPS HFD
      obtain ⟨kn, kd, kp, kl, kc, kb⟩ := dk
      simp only at c0 c1 c2 hnm
      have HKY := Lib.hid (show Go.keyOf Tryz.prog 9 (.string kn) = some (keyF ⟨kn, kd, kp, kl, kc, kb⟩) from WideMaps.keyOf_string_mk Tryz.underlying9 hnm)
      have HKM := Lib.hid (show k < maxLen from by have := HN.out; unfold maxLen; omega)
      clear hnm hdk
      cases hh : has M (keyF ⟨kn, kd, kp, kl, kc, kb⟩) with
      | false =>
        have HHS := Lib.hid hh
        have HAT := Lib.hid (show M.atKey (keyF ⟨kn, kd, kp, kl, kc, kb⟩) (.held (.agg #[.string ⟨#[]⟩, .int .i64 0, .slice none 0 0])) = .held (.agg #[.string ⟨#[]⟩, .int .i64 0, .slice none 0 0]) from atKey_of_not_has hh _)
        have HNX := Lib.hid (HPN.out hh)
        clear hh HPN HPL HPS HFD
        go_wp2_with (first
          | (at_lookup
             refine lookup14 rfl (.tmp 16) (.tmp 18) 52 rfl 9 24 keyed14 Tryz.underlying52 (zero14 _) w.heap.size k rfl (HO.out.alloc _) _ (keyF ⟨kn, kd, kp, kl, kc, kb⟩) rfl HKY.out (.agg #[.string ⟨#[]⟩, .int .i64 0, .slice none 0 0]) false HHS.out HAT.out ?_)
          | (at_mapUpdate
             refine wpList_mapUpdate_own _ rfl (.tmp 31) (.tmp 33) (.tmp 34) 52 rfl 9 24 keyed14 Tryz.underlying52 RV w.heap.size k M rfl ((HO.out.alloc _).alloc _) HKM.out _ _ (keyF ⟨kn, kd, kp, kl, kc, kb⟩) rfl rfl HKY.out (.held (aggF ⟨kn, kd, kp, kl, kc, kb⟩)) [] rfl ?_
             intro w1 hown1 hgrow1
             have O1 := Lib.hid hown1
             have B1 := Lib.hid (((PB.out.alloc PB.out.size _).alloc (by rw [World.size_alloc]; exact Nat.le_succ_of_le PB.out.size) _).grown hgrow1 (by rw [World.size_alloc, World.size_alloc]; have := PB.out.size; omega) (fun g hg => by have e2 : w.heap.size = g := Option.some.inj hg; omega))
             clear hown1 hgrow1))
        go_roundw
        case rel => exact ⟨k + 1, _, by omega, by go_num, O1, HNX, B1⟩
        case measure => simp [intOf]; omega
      | true =>
        have HHS := Lib.hid hh
        obtain ⟨i, hi, hm, he, hat⟩ := HFD.out hh
        have HPL2 := Lib.hid (fun hd => HPL.out i hi hm he hd)
        have HPS2 := Lib.hid (fun hd => HPS.out i hi hm he hd)
        obtain ⟨di, hdi⟩ : ∃ d, d = D.getD i f0 := ⟨_, rfl⟩
        rw [← hdi] at hat HPL2 HPS2
        obtain ⟨en, ed, ep, el, ec, eb⟩ := di
        have HAT := Lib.hid (show M.atKey (keyF ⟨kn, kd, kp, kl, kc, kb⟩) (.held (.agg #[.string ⟨#[]⟩, .int .i64 0, .slice none 0 0])) = .held (.agg #[.string en, .int .i64 ed, .slice ep el ec]) from hat _)
        clear hh hat hdi HPN HPL HPS HFD hi hm he
        by_cases hd : kd < ed
        · have HNX := Lib.hid (HPL2.out hd)
          clear HPL2 HPS2
          go_wp2_with (first
            | (at_lookup
               refine lookup14 rfl (.tmp 16) (.tmp 18) 52 rfl 9 24 keyed14 Tryz.underlying52 (zero14 _) w.heap.size k rfl (HO.out.alloc _) _ (keyF ⟨kn, kd, kp, kl, kc, kb⟩) rfl HKY.out (.agg #[.string en, .int .i64 ed, .slice ep el ec]) true HHS.out HAT.out ?_)
            | (at_mapUpdate
               refine wpList_mapUpdate_own _ rfl (.tmp 31) (.tmp 33) (.tmp 34) 52 rfl 9 24 keyed14 Tryz.underlying52 RV w.heap.size k M rfl ((HO.out.alloc _).alloc _) HKM.out _ _ (keyF ⟨kn, kd, kp, kl, kc, kb⟩) rfl rfl HKY.out (.held (aggF ⟨kn, kd, kp, kl, kc, kb⟩)) [] rfl ?_
               intro w1 hown1 hgrow1
               have O1 := Lib.hid hown1
               have B1 := Lib.hid (((PB.out.alloc PB.out.size _).alloc (by rw [World.size_alloc]; exact Nat.le_succ_of_le PB.out.size) _).grown hgrow1 (by rw [World.size_alloc, World.size_alloc]; have := PB.out.size; omega) (fun g hg => by have e2 : w.heap.size = g := Option.some.inj hg; omega))
               clear hown1 hgrow1))
          go_roundw
          case rel => exact ⟨k + 1, _, by omega, by go_num, O1, HNX, B1⟩
          case measure => simp [intOf]; omega
        · have HNX := Lib.hid (HPS2.out hd)
          clear HPL2 HPS2
          go_wp2_with (first
            | (at_lookup
               refine lookup14 rfl (.tmp 16) (.tmp 18) 52 rfl 9 24 keyed14 Tryz.underlying52 (zero14 _) w.heap.size k rfl (HO.out.alloc _) _ (keyF ⟨kn, kd, kp, kl, kc, kb⟩) rfl HKY.out (.agg #[.string en, .int .i64 ed, .slice ep el ec]) true HHS.out HAT.out ?_))
          go_roundw
          case rel => exact ⟨k + 1, M, by omega, by go_num, Lib.hid (((HO.out.alloc _).alloc _).mono (Nat.le_succ _)), HNX, Lib.hid ((PB.out.alloc PB.out.size _).alloc (by rw [World.size_alloc]; exact Nat.le_succ_of_le PB.out.size) _)⟩
          case measure => simp [intOf]; omega
    · obtain rfl : k = n := by omega
      have k1 : ¬ (k : Int) < k := by omega
      go_wp2_with fail
      go_ret
      first | exact ⟨M, rfl, HO.out, HM.out, PB.out⟩ | exact ⟨rfl, M, HO.out, HM.out, PB.out⟩
end Go.Proofs.YtgigdhincpcdbaaGreatDoor
