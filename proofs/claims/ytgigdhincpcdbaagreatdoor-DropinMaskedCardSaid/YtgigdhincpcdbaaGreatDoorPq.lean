/- A file of one assignment, as the chapter's rows make it. No condition. -/
import Derived.Test.YtgigdhincpcdbaaGreatDoorPi
import Derived.Deep.MidRow
import Derived.Laws.BytesArg
namespace Go.Proofs.YtgigdhincpcdbaaGreatDoor
open Go.RowKit
set_option linter.unusedVariables false
set_option linter.unusedSimpArgs false
attribute [local go_sem ↓] Go.wp_at_zero Go.wp_at_succ

theorem below_setCells14 {w0 : World} {b : Nat} (hb : w0.heap.size ≤ b) : ∀ (vs : List Value) (o : Nat) (w : World), Below w0.heap.size w0 w → Below w0.heap.size w0 (w.setCells b o vs)
  | [], o, w, h => h
  | v :: vs, o, w, h => below_setCells14 hb vs (o + 1) (w.setCell ⟨b, o, none⟩ v) (h.setCell hb v)
theorem results_row14 {fn : Func} {tmps : Array Value} {w : World} {t : Nat} {ty : TypeId} {p : Addr} {v : Value} (hr : fn.results = #[.cell t ty]) (ha : tmps.getD t undef = .pointer (some p)) (hl : (loadVar ty p).run Tryz.prog w = .ok v w) : (results fn tmps).run Tryz.prog w = .ok v w := by
  have ha' : tmps[t]?.getD undef = .pointer (some p) := by simpa using ha
  simp [results, hr, asAddr, ha', hl]
theorem row_there14 {V : World} {g : Nat} (h : V.heap[g]? = some (.cells #[.string ⟨#[]⟩, .int .i64 0, .slice none 0 0] 24 (0, 0))) : V.there g 0 3 := fun j hj => by
  refine ⟨?_, frozen_of_row _ _ _ _ _ h⟩
  rw [cell_of_row _ _ (0 + j) _ _ (0, 0) h]
  match j, hj with
  | 0, _ => rfl
  | 1, _ => rfl
  | 2, _ => rfl
  | j + 3, hj => omega
theorem ret14 {w V : World} {g : Nat} (h : V.heap[g]? = some (.cells #[.string ⟨#[]⟩, .int .i64 0, .slice none 0 0] 24 (0, 0))) (hB : Below w.heap.size w V) (hg : w.heap.size ≤ g) (x : ByteArray) (d : Int) (p : Option Addr) (n c : Nat) :
    (loadVar 24 ⟨g, 0, none⟩).run Tryz.prog (V.setCells g 0 [.string x, .int .i64 d, .slice p n c]) = .ok (.agg #[.string x, .int .i64 d, .slice p n c]) (V.setCells g 0 [.string x, .int .i64 d, .slice p n c]) ∧ Below w.heap.size w (V.setCells g 0 [.string x, .int .i64 d, .slice p n c]) := by
  have hinf : (Tryz.prog.info? 24).map (·.size) = some 3 := by kernel_rfl
  exact ⟨run_loadVar_mid (P := Tryz.prog) _ g 0 24 [.string x, .int .i64 d, .slice p n c] _ (World.rangeAt_setCells_same V g 0 [.string x, .int .i64 d, .slice p n c] (row_there14 h)) Tryz.underlying24 rfl hinf, below_setCells14 hg _ _ _ hB⟩
theorem bs_cat14 (a b : List UInt8) : bs a ++ bs b = bs (a ++ b) := by
  apply ByteArray.ext
  rw [ByteArray.data_append]
  simp [bs]
theorem setCells_size14 (g : Nat) : ∀ (vs : List Value) (o : Nat) (V : World), (V.setCells g o vs).heap.size = V.heap.size
  | [], _, _ => rfl
  | v :: vs, o, V => (setCells_size14 g vs (o + 1) (V.setCell ⟨g, o, none⟩ v)).trans (by simp)
theorem rdb_keep14 {V : World} {B g : Nat} {vs : List Value} {p : Option Addr} {l : List UInt8} (h : RdB V B p l) (hne : ∀ b o, p = some ⟨b, o, none⟩ → b ≠ g) : RdB (V.setCells g 0 vs) B p l := fun h0 => by
  obtain ⟨b, o, e, hb, hc⟩ := h h0
  refine ⟨b, o, e, hb, fun i hi => ?_⟩
  rw [World.cell?_setCells_out g vs 0 V ⟨b, o + i, none⟩ (fun e2 => absurd e2 (hne b o e))]
  exact hc i hi
def fileL (d : UInt8) : List UInt8 := [91, 83, 93, 10, 75, 61, d, 10]
set_option maxRecDepth 100000 in
set_option maxHeartbeats 4000000 in
theorem made_c14 (x : ByteArray) (dir : Int) (d : UInt8) (hx : x.size ≤ maxLen) (w : World) : Calls Tryz.prog 29 #[.string x, .int .i64 dir, .string (bs [d])] w fun e w' => ∃ p c, e = .returned (.agg #[.string x, .int .i64 dir, .slice p 8 c]) ∧ FleAt w'.heap.size w' ⟨x, dir, p, 8, c, fileL d⟩ ∧ Below w.heap.size w w' := by
  have hinf : (Tryz.prog.info? 24).map (·.size) = some 3 := by kernel_rfl
  have HIN := Lib.hid hinf
  have HZ := Lib.hid (heap_alloc_new w (.cells #[.string ⟨#[]⟩, .int .i64 0, .slice none 0 0] 24))
  have B0 := Lib.hid ((Below.refl w.heap.size w).alloc (Nat.le_refl _) (.cells #[.string ⟨#[]⟩, .int .i64 0, .slice none 0 0] 24))
  obtain ⟨l, hl⟩ : ∃ l, l = fileL d := ⟨_, rfl⟩
  obtain ⟨S, hS⟩ : ∃ S, S = bs [d] := ⟨_, rfl⟩
  obtain ⟨S2, hS2⟩ : ∃ S, S = bs [91, 83, 93, 10, 75, 61, d] := ⟨_, rfl⟩
  have h1 : (⟨#[91, 83, 93, 10, 75, 61]⟩ : ByteArray) ++ S = S2 := by rw [hS, hS2]; exact (bs_cat14 [91, 83, 93, 10, 75, 61] [d])
  have h2 : S2 ++ (⟨#[10]⟩ : ByteArray) = bs l := by rw [hS2, hl]; exact (bs_cat14 [91, 83, 93, 10, 75, 61, d] [10])
  have s1 : S.size = 1 := by rw [hS, bs_size]; rfl
  have s2 : S2.size = 7 := by rw [hS2, bs_size]; rfl
  have hln : l.length = 8 := by rw [hl]; rfl
  have HL := Lib.hid hl
  have HLN := Lib.hid hln
  have HX := Lib.hid hx
  rw [← hS]
  clear hinf hl hS hS2 hln hx
  go_enter Tryz.func29, Tryz.ntmps29
  go_wp2_with (first
    | ((with_reducible show wpList _ _ _ (⟨some 12, _, _, _, _, _⟩ :: _) _ _)
       refine wpList_bytes12 (l := l) rfl rfl (by rfl) (by rw [HLN.out]; unfold maxLen; omega) ?_
       intro W1 c1 b1 r1 hc1 hc2
       rw [HLN.out] at hc1 ⊢
       have r1 := r1
       rw [show (w.alloc (.cells #[.string ⟨#[]⟩, .int .i64 0, .slice none 0 0] 24)).heap.size = w.heap.size + 1 from World.size_alloc _ _] at r1
       have B1 := Lib.hid (B0.out.trans (b1.mono B0.out.size))
       have hz2 := Lib.hid ((b1.block w.heap.size (by rw [World.size_alloc]; exact Nat.lt_succ_self _)).trans HZ.out)
       have R1 := Lib.hid r1
       have C1 := Lib.hid (And.intro hc1 hc2)
       have HS1 := Lib.hid b1.size
       clear b1 r1 hc1 hc2)
    | ((with_reducible show wpList _ _ _ (⟨none, .store 24 (.tmp 6) (.tmp 13), _, _, _, _⟩ :: _) _ _)
       obtain ⟨hld, hb3⟩ := ret14 hz2.out B1.out (Nat.le_refl _) x dir (some ⟨w.heap.size + 1, 0, none⟩) 8 c1
       have R2 := Lib.hid (rdb_keep14 (vs := [.string x, .int .i64 dir, .slice (some ⟨w.heap.size + 1, 0, none⟩) 8 c1]) (g := w.heap.size) R1.out (fun b o e => by injection e with e; injection e with e; rw [← e]; omega))
       refine wpList_store_mid rfl 24 (.tmp 6) (.tmp 13) rfl w.heap.size 0 #[.string x, .int .i64 dir, .slice (some ⟨w.heap.size + 1, 0, none⟩) 8 c1] rfl rfl (row_there14 hz2.out) HIN.out (by kernel_rfl) ?_
       show wpList _ _ _ _ _ (W1.setCells w.heap.size 0 [.string x, .int .i64 dir, .slice (some ⟨w.heap.size + 1, 0, none⟩) 8 c1])
       have HSZ := Lib.hid (setCells_size14 w.heap.size [.string x, .int .i64 dir, .slice (some ⟨w.heap.size + 1, 0, none⟩) 8 c1] 0 W1)
       generalize W1.setCells w.heap.size 0 [.string x, .int .i64 dir, .slice (some ⟨w.heap.size + 1, 0, none⟩) 8 c1] = w3 at hld hb3 R2 HSZ ⊢))
  refine bodyPost_ret (v := .agg #[.string x, .int .i64 dir, .slice (some ⟨w.heap.size + 1, 0, none⟩) 8 c1]) (results_row14 Tryz.results29 rfl hld) rfl ⟨_, _, rfl, ?_, hb3⟩
  refine ⟨HX.out, rfl, C1.out.1, C1.out.2, fun h => (by cases h), ?_⟩
  have := R2.out
  rw [HL.out] at this
  rw [HSZ.out]; exact this
end Go.Proofs.YtgigdhincpcdbaaGreatDoor
