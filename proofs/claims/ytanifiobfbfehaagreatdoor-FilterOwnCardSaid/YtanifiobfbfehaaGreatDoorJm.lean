/- What numberOf and nameOf of the landed names return of rows that lie in memory: what is found. No condition but at most 100 rows. What the calls of the landed names return that ask a table alone, of a world in which the tables lie as the text lays them: as the chapter says. What Spaces and Flags of the landed names return: all flags together; those that are set in a number, in order. Condition: the table of namespaces lies as the text lays it. -/
import Derived.Test.YtanifiobfbfehaaGreatDoorJa
import Derived.Test.YtanifiobfbfehaaGreatDoorLz
import Derived.Deep.MidRow
import Derived.Deep.QuietTactic
import Derived.BigQuiet
import Derived.Laws.BitsAllLaws
import Derived.WalkSmall
import Derived.Lib.AppendIntMem
namespace Go.Proofs.YtanifiobfbfehaaGreatDoor
open Go.RowKit
set_option linter.unusedVariables false
attribute [local go_sem ↓] Go.wp_at_zero Go.wp_at_succ

theorem thnJ {u v w : World} (h : Below u.heap.size u v) (k : Below v.heap.size v w) : Below u.heap.size u w := h.trans (k.mono h.size)
/-- Rows of a name and a number of u32 lie in memory. -/
def Rows_u32 (w : World) (g : Nat) (l : List En10) : Prop := ∀ k e, l[k]? = some e → w.cell? ⟨g, k * 2, none⟩ = some (.string e.1) ∧ w.cell? ⟨g, k * 2 + 1, none⟩ = some (.int .u32 (e.2 : Nat))
theorem rows_on_u32 {w w' : World} {g : Nat} {l : List En10} (h : Rows_u32 w g l) (hb : Below w.heap.size w w') : Rows_u32 w' g l := fun k e hk =>
  ⟨(hb.cell (World.block_lt_of_cell? w _ (h k e hk).1)).trans (h k e hk).1, (hb.cell (World.block_lt_of_cell? w _ (h k e hk).2)).trans (h k e hk).2⟩
set_option maxHeartbeats 1600000 in
theorem numOf_u32 (l : List En10) (g : Nat) (s : ByteArray) (er : Int) (w : World) (hl : l.length ≤ 100) (h : Rows_u32 w g l) : Calls Tryz.prog 50 #[.slice (some ⟨g, 0, none⟩) l.length l.length, .string s, .int .i64 er] w fun e w' =>
    e = .returned (.tuple #[.int .u32 ((findR l s).getD 0 : Nat), .int .i64 (if (findR l s).isSome = true then 0 else er)]) ∧ Below w.heap.size w w' := by
  have HR := Lib.hid h
  have HD := Lib.hid (show findR (l.drop 0) s = findR l s by rw [List.drop_zero])
  obtain ⟨n, hn⟩ : ∃ n, n = l.length := ⟨_, rfl⟩
  have HN := Lib.hid hn
  rw [← hn] at hl ⊢
  obtain ⟨r, hr⟩ : ∃ r, r = findR l s := ⟨_, rfl⟩
  rw [← hr] at HD ⊢
  obtain ⟨ev, hev⟩ : ∃ v : Int, v = if r.isSome = true then 0 else er := ⟨_, rfl⟩
  rw [← hev]
  have HEV := Lib.hid hev
  clear h hn hr hev
  go_enter Tryz.func50, Tryz.ntmps50
  go_wp2
  go_loopw [12] (fun i wr => ∃ k : Nat, k ≤ n ∧ i = .int .i64 k ∧ Hid (findR (l.drop k) s = r) ∧ Hid (Below w.heap.size w wr)) (fun i _ => n - (intOf i).toNat)
  case atStart => exact ⟨0, by omega, rfl, HD, Lib.hid (Below.refl _ _)⟩
  case round =>
    obtain ⟨k, hk, rfl, hm, hB⟩ := hrel
    have hsz := hB.out.size
    by_cases hlt : k < n
    · have hx : l[k]? = some (l[k]'(by rw [← HN.out]; exact hlt)) := List.getElem?_eq_getElem _
      obtain ⟨⟨x, y⟩, he⟩ : ∃ e, e = l[k]'(by rw [← HN.out]; exact hlt) := ⟨_, rfl⟩
      rw [← he] at hx
      obtain ⟨c0, c1⟩ := rows_on_u32 HR.out hB.out k _ hx
      simp only at c0 c1
      have HA := Lib.hid (find_at hx s)
      have k1 : (k : Int) < n := by omega
      have k0 : (0 : Int) ≤ k := by omega
      have HB2 := Lib.hid (hB.out.alloc hsz (.cells #[.string x, .int .u32 (y : Nat)] 93))
      clear hx he
      by_cases hs : x = s
      · subst hs
        have hv := Lib.hid (show r = some y by rw [← hm.out, HA.out, if_pos rfl])
        have t1 : (x.toList == x.toList) = true := by simp
        clear HA hm
        go_wp2
        go_ret2
        exact ⟨by rw [HEV.out, hv.out]; rfl, HB2.out⟩
      · have hv := Lib.hid (show findR (l.drop (k + 1)) s = r by rw [← hm.out, HA.out, if_neg hs])
        have hb : (x.toList == s.toList) = false := beq_eq_false_iff_ne.2 (fun e => hs (list_of_bytes10 e))
        clear HA hm hs
        go_wp2
        go_roundw
        case rel => exact ⟨k + 1, by omega, by go_num, hv, HB2⟩
        case measure => simp [intOf]; omega
    · obtain rfl : k = n := by omega
      have k1 : ¬ (k : Int) < k := by omega
      have hv := Lib.hid (show r = none by rw [← hm.out, HN.out, List.drop_length]; rfl)
      go_wp2
      go_ret2
      exact ⟨by rw [HEV.out, hv.out]; rfl, hB.out⟩
end Go.Proofs.YtanifiobfbfehaaGreatDoor
namespace Go.Proofs.YtanifiobfbfehaaGreatDoor
open Go.RowKit
set_option linter.unusedVariables false
set_option linter.unusedSimpArgs false
attribute [local go_sem ↓] Go.wp_at_zero Go.wp_at_succ

/-- A table's cells. -/
def cellsT (kd : IntKind) (l : List En10) : List Value := l.flatMap fun e => [.string e.1, .int kd (e.2 : Nat)]
theorem cellsT_get {kd : IntKind} : ∀ {l : List En10} {k : Nat} {e : En10}, l[k]? = some e → (cellsT kd l)[k * 2]? = some (.string e.1) ∧ (cellsT kd l)[k * 2 + 1]? = some (.int kd (e.2 : Nat))
  | [], k, e, h => by simp at h
  | x :: r, 0, e, h => by injection h with h; subst h; exact ⟨rfl, rfl⟩
  | x :: r, k + 1, e, h => by
    have := cellsT_get (kd := kd) (l := r) (k := k) (e := e) (by simpa using h)
    have e1 : cellsT kd (x :: r) = .string x.1 :: .int kd (x.2 : Nat) :: cellsT kd r := rfl
    rw [e1, show (k + 1) * 2 = k * 2 + 1 + 1 by omega]
    exact this
theorem cellsT_one {kd : IntKind} : ∀ {l : List En10}, ∀ v ∈ cellsT kd l, v.oneCell' = true := by
  intro l v hv
  obtain ⟨e, _, h⟩ := List.mem_flatMap.1 hv
  simp only [List.mem_cons, List.not_mem_nil, or_false] at h
  rcases h with rfl | rfl <;> rfl
theorem below_setCellsN {w0 : World} {b : Nat} (hb : w0.heap.size ≤ b) : ∀ (vs : List Value) (o : Nat) (w : World), Below w0.heap.size w0 w → Below w0.heap.size w0 (w.setCells b o vs)
  | [], o, w, h => h
  | v :: vs, o, w, h => below_setCellsN hb vs (o + 1) (w.setCell ⟨b, o, none⟩ v) (h.setCell hb v)
/-- What lies in memory: the tables, the library's table of powers of ten, its two errors. -/
structure GN (w : World) : Prop where
  errs : LaidAt w 0 (cellsT .u32 errnoT)
  pow : Lib.TabIs Tryz.prog w "internal/strconv.uint64pow10" .u64 Lib.pow10Tab
  syn : ∃ t p, w.cell? ⟨1, 0, none⟩ = some (.iface t p)
  rng : ∃ t p, w.cell? ⟨2, 0, none⟩ = some (.iface t p)
theorem tab_onN {w w' : World} (h : Lib.TabIs Tryz.prog w "internal/strconv.uint64pow10" .u64 Lib.pow10Tab) (b : Below w.heap.size w w') : Lib.TabIs Tryz.prog w' "internal/strconv.uint64pow10" .u64 Lib.pow10Tab := by
  unfold Lib.TabIs World.var? at *
  cases hg : Program.globalNamed Tryz.prog "internal/strconv.uint64pow10" with
  | none => simp [hg] at h
  | some g =>
    simp only [hg, Option.bind_some] at h ⊢
    have hlt : g < w.heap.size := by
      rcases Nat.lt_or_ge g w.heap.size with h' | h'
      · exact h'
      · rw [Array.getElem?_eq_none h'] at h; simp at h
    rw [b.block g hlt]
    exact h
theorem GN.on {w w' : World} (h : GN w) (b : Below w.heap.size w w') : GN w' := by
  obtain ⟨t0, p0, h0⟩ := h.syn
  obtain ⟨t1, p1, h1⟩ := h.rng
  exact ⟨h.errs.on (by decide) b, tab_onN h.pow b, ⟨t0, p0, (b.cell (World.block_lt_of_cell? w _ h0)).trans h0⟩, ⟨t1, p1, (b.cell (World.block_lt_of_cell? w _ h1)).trans h1⟩⟩
theorem rows32_of {w : World} {b : Nat} {l : List En10} (h : w.rangeAt b 0 (cellsT .u32 l)) : Rows_u32 w b l := fun k e hk => by
  obtain ⟨h1, h2⟩ := cellsT_get (kd := .u32) hk
  have a1 := h _ _ h1
  have a2 := h _ _ h2
  rw [Nat.zero_add] at a1 a2
  exact ⟨a1, a2⟩
theorem range_errs {w : World} (h : GN w) : w.rangeAt 0 0 (cellsT .u32 errnoT) := fun j v hv => by rw [Nat.zero_add]; exact h.errs j v hv
def zeroT_errs : Array Value := ((List.range 15).flatMap fun _ => [.string ⟨#[]⟩, .int .u32 0]).toArray
theorem info_errs : (Tryz.prog.info? 94).map (·.size) = some (cellsT .u32 errnoT).length := by kernel_rfl
theorem infa_errs : (Tryz.prog.info? 94).map (·.size) = some (cellsT .u32 errnoT).toArray.size := by kernel_rfl
theorem one_errs : (cellsT .u32 errnoT).toArray.all (·.oneCell') = true := all_oneCell_toArray cellsT_one
theorem there_errs (W : World) : (W.alloc (.cells zeroT_errs 94)).there W.heap.size 0 (cellsT .u32 errnoT).toArray.size := fun j hj => by
  have h : zeroT_errs.size = (cellsT .u32 errnoT).toArray.size := by kernel_rfl
  refine ⟨?_, frozen_of_row _ _ _ _ _ (heap_alloc_new W _)⟩
  rw [cell_of_row _ _ (0 + j) _ _ (0, 0) (heap_alloc_new W _), Nat.zero_add, Array.getElem?_eq_getElem (by omega)]; rfl
theorem copy_errs (W : World) : Rows_u32 ((W.alloc (.cells zeroT_errs 94)).setCells W.heap.size 0 (cellsT .u32 errnoT).toArray.toList) W.heap.size errnoT ∧ Below W.heap.size W ((W.alloc (.cells zeroT_errs 94)).setCells W.heap.size 0 (cellsT .u32 errnoT).toArray.toList) :=
  ⟨rows32_of (World.rangeAt_setCells_same _ W.heap.size 0 _ (there_errs W)), below_setCellsN (Nat.le_refl _) _ _ _ ((Below.refl _ _).alloc (Nat.le_refl _) _)⟩
theorem wpList_new_errs {ops : Array Oper} {rest : List Oper} {op : Oper} {a : Act} {w : World} {Q : Exit → Act → World → Prop} (hgd : op.guard = none) (ho : op.op = .alloc 94)
    (h : wpList Tryz.prog ops Q rest (a.put op.dst (.pointer (some ⟨w.heap.size, 0, none⟩))) (w.alloc (.cells zeroT_errs 94))) : wpList Tryz.prog ops Q (op :: rest) a w :=
  wpList_plain hgd fun _ hK => by
    have hr : (execOp a.eval op).run Tryz.prog w = .ok (.value (.pointer (some ⟨w.heap.size, 0, none⟩))) (w.alloc (.cells zeroT_errs 94)) := by
      unfold execOp; rw [ho]; kernel_rfl
    unfold Oper.wp; rw [hr]; exact hK _ _ h
end Go.Proofs.YtanifiobfbfehaaGreatDoor
namespace Go.Proofs.YtanifiobfbfehaaGreatDoor
open Go.RowKit
set_option linter.unusedVariables false
set_option linter.unusedSimpArgs false
attribute [local go_sem ↓] Go.wp_at_zero Go.wp_at_succ

end Go.Proofs.YtanifiobfbfehaaGreatDoor
