/- What the landed arch.In, arch.All return, and all of the package's calls together, of a world in which its table lies. -/
import Derived.Test.YtjfoipjifjblmaaDoorBk
import Derived.OwnWalk
namespace Go.Proofs.YtjfoipjifjblmaaDoor
open Go.RowKit
set_option linter.unusedVariables false
attribute [local go_sem ↓] Go.wp_at_zero Go.wp_at_succ

/-- 'make' of a length that is written out: its cells are written out. -/
theorem wpList_make_cells {P : Program} (w : World) {ops : Array Oper} {rest : List Oper} {o : Oper} {a : Act} {Q : Exit → Act → World → Prop}
    (hg : o.guard = none) (l c : Operand) (t : TypeId) (hop : o.op = Op.makeSlice t l c)
    (e : TypeId) (z : Value) (size bytes n : Nat) (cs : Array Value) (h1 : P.underlying t = some (.slice e)) (hinfo : (P.info? e).map (fun i => (i.zero, i.size, i.bytes)) = some (some z, size, bytes))
    (kl kc : IntKind) (hl : a.eval l = .int kl (n : Int)) (hc : a.eval c = .int kc (n : Int)) (b2 : bytes * n ≤ 281474976710656) (b3 : (n : Int) ≤ 9223372036854775807) (hcs : madeCells z.cells (n * size) = cs)
    (hK : wpList P ops Q rest (a.put o.dst (.slice (some ⟨w.heap.size, 0, none⟩) n n)) (w.alloc (.cells cs e))) :
    wpList P ops Q (o :: rest) a w := by
  refine wpList_plain hg fun K hK' => ?_
  obtain ⟨i, hi, hzz⟩ := Option.map_eq_some_iff.1 hinfo
  simp only [Prod.mk.injEq] at hzz
  obtain ⟨hz, hs, hb⟩ := hzz
  have hb' : (i.bytes : Int) * (n : Int) ≤ 281474976710656 := by
    have h : ((i.bytes * n : Nat) : Int) ≤ 281474976710656 := by rw [hb]; omega
    rwa [Int.natCast_mul] at h
  have hr := run_make (P := P) w t e i z h1 hi hz kl kc n n (by omega) (Int.le_refl _) hb' b3
  simp only [Int.toNat_natCast, hs, hcs] at hr
  unfold Oper.wp
  simp [execOp, hop, hl, hc, hr, Result.andThen]
  exact hK' _ _ hK
def idxR (l : List Int) (a : Int) : Int := match l.findIdx? (fun x => decide (x = a)) with | some k => ((k : Nat) : Int) | none => -1
theorem idx_hit {l : List Int} {a : Int} {k : Nat} (hk : k < l.length) (h : l.getD k 0 = a) (hm : ∀ j, j < k → l.getD j 0 ≠ a) : idxR l a = k := by
  have : l.findIdx? (fun x => decide (x = a)) = some k := by
    rw [List.findIdx?_eq_some_iff_getElem]
    refine ⟨hk, ?_, fun j hj => ?_⟩
    · rw [← getD_of (d := 0) hk, h]; simp
    · rw [← getD_of (d := 0) (by omega), decide_eq_false (hm j hj)]; decide
  unfold idxR
  rw [this]
theorem idx_miss {l : List Int} {a : Int} (hm : ∀ j, j < l.length → l.getD j 0 ≠ a) : idxR l a = -1 := by
  have : l.findIdx? (fun x => decide (x = a)) = none := by
    rw [List.findIdx?_eq_none_iff]
    intro x hx
    obtain ⟨j, hj, e⟩ := List.mem_iff_getElem.1 hx
    exact decide_eq_false (by rw [← e, ← getD_of (d := 0) hj]; exact hm j hj)
  unfold idxR
  rw [this]
theorem idx_mem (l : List Int) (a : Int) : decide (0 ≤ idxR l a) = decide (a ∈ l) := by
  rw [Bool.eq_iff_iff, decide_eq_true_iff, decide_eq_true_iff]
  unfold idxR
  cases h : l.findIdx? (fun x => decide (x = a)) with
  | none =>
    rw [List.findIdx?_eq_none_iff] at h
    exact ⟨fun g => absurd g (by simp), fun g => absurd (h a g) (by simp)⟩
  | some k =>
    rw [List.findIdx?_eq_some_iff_getElem] at h
    obtain ⟨hk, e, _⟩ := h
    exact ⟨fun _ => by rw [← of_decide_eq_true e]; exact List.getElem_mem _, fun _ => by simp⟩
set_option maxHeartbeats 1600000 in
theorem index8 (a0 : Option Addr) (n cap : Nat) (l : List Int) (a : Int) (w : World) (hl : l.length = n) (hn : n ≤ 1099511627776) (hr : RdZ w w.heap.size a0 l) : Calls Tryd.prog 27 #[.slice a0 n cap, .int .i64 a] w fun e w' => e = .returned (.int .i64 (idxR l a)) ∧ w = w' := by
  have HL := Lib.hid hl
  have HR := Lib.hid hr
  have n1 : (n : Int) ≤ 1099511627776 := by omega
  clear hl hr hn
  go_enter Tryd.func27, Tryd.ntmps27
  go_wp2
  go_loop [8] (fun i => ∃ k : Nat, k ≤ n ∧ i = .int .i64 k ∧ Hid (∀ j, j < k → l.getD j 0 ≠ a)) (fun i => n - (intOf i).toNat)
  case atStart => exact ⟨0, by omega, rfl, Lib.hid (fun j hj => absurd hj (by omega))⟩
  case round =>
    obtain ⟨k, hk, rfl, hm⟩ := hrel
    by_cases hlt : k < n
    · obtain ⟨b, o, rfl, hb, hcs⟩ := HR.out (by rw [HL.out]; omega)
      have hc := hcs k (by rw [HL.out]; exact hlt)
      have k1 : (k : Int) < n := by omega
      have k0 : (0 : Int) ≤ k := by omega
      have HS := Lib.hid (fun (h : l.getD k 0 ≠ a) => (fun j hj => by
        by_cases e : j = k
        · rw [e]; exact h
        · exact hm.out j (by omega) : ∀ j, j < k + 1 → l.getD j 0 ≠ a))
      have HI := Lib.hid (fun (h : l.getD k 0 = a) => idx_hit (by rw [HL.out]; exact hlt) h hm.out)
      obtain ⟨x, hx⟩ : ∃ x, x = l.getD k 0 := ⟨_, rfl⟩
      rw [← hx] at hc HI HS
      clear hx hm hcs hb
      by_cases he : a = x
      · subst he
        have hv := Lib.hid (HI.out rfl)
        have hbb : (a == a) = true := by simp
        clear HI HS
        go_wp2
        go_ret
        exact ⟨by rw [hv.out]; rfl, rfl⟩
      · have hv := Lib.hid (HS.out (fun h => he h.symm))
        have hbb : (a == x) = false := beq_eq_false_iff_ne.2 he
        clear HI HS he
        go_wp2
        go_round
        case rel => exact ⟨k + 1, by omega, by go_num, hv⟩
        case measure => simp [intOf]; omega
    · obtain rfl : k = n := by omega
      have hv := Lib.hid (idx_miss (l := l) (a := a) (by rw [HL.out]; exact hm.out))
      go_wp2
      go_ret
      exact ⟨by rw [hv.out]; rfl, rfl⟩
theorem contains8 (a0 : Option Addr) (n cap : Nat) (l : List Int) (a : Int) (w : World) (hl : l.length = n) (hn : n ≤ 1099511627776) (hr : RdZ w w.heap.size a0 l) : Calls Tryd.prog 26 #[.slice a0 n cap, .int .i64 a] w fun e w' => e = .returned (.bool (decide (a ∈ l))) ∧ w = w' := by
  have H := Lib.hid (index8 a0 n cap l a w hl hn hr)
  rw [← idx_mem]
  generalize idxR l a = x at H ⊢
  clear hl hn hr
  go_enter Tryd.func26, Tryd.ntmps26
  go_wp2_with (go_at_call 27; ((with_reducible refine (H.out).mono ?_); rintro e w1 ⟨rfl, rfl⟩))
  go_ret
  exact ⟨rfl, rfl⟩
theorem in8 (a0 : Option Addr) (n cap : Nat) (l : List Int) (a : Int) (w : World) (hl : l.length = n) (hn : n ≤ 1099511627776) (hr : RdZ w w.heap.size a0 l) : Calls Tryd.prog 18 #[.slice a0 n cap, .int .i64 a] w fun e w' => e = .returned (.bool (inR l a)) ∧ Below w.heap.size w w' := by
  by_cases h0 : n = 0
  · subst h0
    have hv := Lib.hid (show inR l a = true from by
      have : l = [] := List.eq_nil_of_length_eq_zero hl
      rw [this]; unfold inR; simp)
    rw [hv.out]
    clear hv hl hn hr
    go_enter Tryd.func18, Tryd.ntmps18
    go_wp2
    go_ret
    exact ⟨rfl, Below.refl _ _⟩
  · have H := Lib.hid (contains8 a0 n cap l a w hl hn hr)
    have hv := Lib.hid (show inR l a = decide (a ∈ l) from by
      unfold inR
      have : l.isEmpty = false := by rw [Bool.eq_false_iff]; intro h; rw [List.isEmpty_iff] at h; rw [h] at hl; exact h0 hl.symm
      rw [this, Bool.or_false])
    rw [hv.out]
    have hb : ((n : Int) == 0) = false := beq_eq_false_iff_ne.2 (by omega)
    generalize decide (a ∈ l) = x at H ⊢
    clear hv hl hn hr h0
    go_enter Tryd.func18, Tryd.ntmps18
    go_wp2_with (go_at_call 26; ((with_reducible refine (H.out).mono ?_); rintro e w1 ⟨rfl, rfl⟩))
    go_ret
    exact ⟨rfl, Below.refl _ _⟩
set_option maxHeartbeats 3200000 in
theorem all8 (w : World) : Calls Tryd.prog 20 #[] w fun e w' => e = .returned (.slice (some ⟨w.heap.size, 0, none⟩) 6 6) ∧ w' = w.alloc (.cells #[.int .i64 0, .int .i64 1, .int .i64 2, .int .i64 3, .int .i64 4, .int .i64 5] 3) := by
  go_enter Tryd.func20, Tryd.ntmps20
  go_wp2_with (at_make; refine wpList_make_cells _ rfl _ _ 33 rfl 3 (.int .i64 0) 1 8 6 #[.int .i64 0, .int .i64 0, .int .i64 0, .int .i64 0, .int .i64 0, .int .i64 0] Tryd.underlying33 (by kernel_rfl) .i64 .i64 rfl rfl (by decide) (by decide) (by kernel_rfl) ?_)
  refine wp_loop_rounds 7 ?_
  rw [rounds_succ]
  go_wp2
  rw [rounds_succ]
  go_wp2
  rw [rounds_succ]
  go_wp2
  rw [rounds_succ]
  go_wp2
  rw [rounds_succ]
  go_wp2
  rw [rounds_succ]
  go_wp2
  rw [rounds_succ]
  go_wp2
  go_ret
  exact ⟨rfl, rfl⟩
theorem archC : ArchC GA8 where
  on h b := h.on b
  name a w g _ _ := name8 a w g
  parse s w g _ := parse8 s w g
  token a w g _ _ := token8 a w g
  of_ t nr w g _ _ n0 n1 := of8 t nr n0 n1 w g
  all w g := (all8 w).mono fun e w' ⟨h1, h2⟩ => by
    subst h2
    refine ⟨w.heap.size, 0, 6, h1, by simp, fun i hi => ?_, (Below.refl _ _).alloc (Nat.le_refl _) _⟩
    rw [cell_of_row _ _ (0 + i) _ _ (0, 0) (heap_alloc_new w _)]
    match i, hi with
    | 0, _ => rfl
    | 1, _ => rfl
    | 2, _ => rfl
    | 3, _ => rfl
    | 4, _ => rfl
    | 5, _ => rfl
    | k + 6, hk => omega
  in_ a0 n cap l a w g hl _ hn _ _ _ _ _ hr := in8 a0 n cap l a w hl (by omega) hr
  of64 a w g _ _ := of64_8 a w g
end Go.Proofs.YtjfoipjifjblmaaDoor
