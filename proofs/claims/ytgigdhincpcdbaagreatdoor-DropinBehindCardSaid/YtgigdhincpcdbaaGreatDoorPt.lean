/- The chapter's rows come to true, over what dropin's calls have to return. Condition: what they have to return. -/
import Derived.Test.YtgigdhincpcdbaaGreatDoorPs
namespace Go.Proofs.YtgigdhincpcdbaaGreatDoor
open Go.RowKit
set_option linter.unusedVariables false
set_option linter.unusedSimpArgs false
attribute [local go_sem ↓] Go.wp_at_zero Go.wp_at_succ

def Z17 : Array Value := madeCells #[.string ⟨#[]⟩, .int .i64 0, .slice none 0 0] 51
theorem z17_is : (rowC encF (List.replicate 17 f0)).toArray = Z17 := by kernel_rfl
theorem fs_z17 (V : World) : FsAt (V.alloc (.cells Z17 24)).drew (some ⟨V.heap.size, 0, none⟩) 17 17 (List.replicate 17 f0) := by
  have h := fs_zero V.drew
  rw [z17_is] at h
  exact h
theorem make17 (W : World) : (Instr.makeSlice 25 (.int .i64 17) (.int .i64 17)).run Tryz.prog W = .ok (.slice (some ⟨W.heap.size, 0, none⟩) 17 17) (W.alloc (.cells Z17 24)) := by
  obtain ⟨i, hi, hz, hs, hb⟩ := info_parts fle_info
  have hr := run_make (P := Tryz.prog) W 25 24 i _ Tryz.underlying25 hi hz .i64 .i64 17 17 (by decide) (Int.le_refl _) (by rw [hb]; decide) (by decide)
  rw [hs] at hr
  exact hr
theorem fils3 {L : List Fle} {x0 x1 x2 : ByteArray × Int × List UInt8} (h : L.map Fle.fil = [x0, x1, x2]) : (L.getD 0 f0).fil = x0 ∧ (L.getD 1 f0).fil = x1 ∧ (L.getD 2 f0).fil = x2 := by
  match L, h with
  | [a, b, c], h =>
    simp only [List.map_cons, List.map_nil, List.cons.injEq] at h
    exact ⟨h.1, h.2.1, h.2.2.1⟩
/-- What is read of the three files. -/
theorem three_at {W : World} {q : Option Addr} {c : Nat} {L : List Fle} (h : FsAt W q 3 c L) (hl : L.map Fle.fil = [(⟨#[109]⟩, 0, fileL 48), (⟨#[97, 46, 99, 111, 110, 102]⟩, 0, fileL 51), (⟨#[98, 46, 99, 111, 110, 102]⟩, 0, fileL 49)]) : ∃ g o p n k, q = some ⟨g, o, none⟩ ∧ W.cell? ⟨g, o, none⟩ = some (.string ⟨#[109]⟩) ∧ W.cell? ⟨g, o + 3, none⟩ = some (.string ⟨#[97, 46, 99, 111, 110, 102]⟩) ∧ W.cell? ⟨g, o + 3 + 1, none⟩ = some (.int .i64 0) ∧ W.cell? ⟨g, o + 6 + 2, none⟩ = some (.slice p n k) ∧ (convert 22 9 (.slice p n k)).run Tryz.prog W = .ok (.string (bs (fileL 49))) W := by
  obtain ⟨e0, e1, e2⟩ := fils3 hl
  obtain ⟨g, o, e, a0, _, _, _⟩ := h.at (show 0 < 3 by decide)
  obtain ⟨g1, o1, e', b0, b1, _, _⟩ := h.at (show 1 < 3 by decide)
  obtain ⟨g2, o2, e'', _, _, c2, f2⟩ := h.at (show 2 < 3 by decide)
  rw [e] at e' e''
  injection e' with e'
  injection e' with e3 e4
  injection e'' with e''
  injection e'' with e5 e6
  subst e3 e4 e5 e6
  obtain ⟨n0, _, _⟩ := fil_parts (b := mk14 ⟨#[109]⟩ 0 48 none 0) e0
  obtain ⟨n1, d1, _⟩ := fil_parts (b := mk14 ⟨#[97, 46, 99, 111, 110, 102]⟩ 0 51 none 0) e1
  obtain ⟨_, _, y2⟩ := fil_parts (b := mk14 ⟨#[98, 46, 99, 111, 110, 102]⟩ 0 49 none 0) e2
  rw [n0] at a0
  rw [n1] at b0
  rw [d1] at b1
  refine ⟨g, o, _, _, _, e, by rwa [Nat.zero_mul, Nat.add_zero] at a0, by rwa [Nat.one_mul] at b0, by rwa [Nat.one_mul] at b1, c2, ?_⟩
  have hr := run_bytes14 (cap := (L.getD 2 f0).cap) f2.len f2.rd
  rw [y2] at hr
  exact hr
theorem two_at {W : World} {q : Option Addr} {c : Nat} (h : RowsAt 5 encA W (.slice q 3 c) [⟨⟨#[109]⟩, 2, ⟨#[83]⟩, ⟨#[75]⟩, ⟨#[48]⟩⟩, ⟨⟨#[97, 46, 99, 111, 110, 102]⟩, 2, ⟨#[83]⟩, ⟨#[75]⟩, ⟨#[51]⟩⟩, ⟨⟨#[98, 46, 99, 111, 110, 102]⟩, 2, ⟨#[83]⟩, ⟨#[75]⟩, ⟨#[49]⟩⟩]) : ∃ g o, q = some ⟨g, o, none⟩ ∧ W.cell? ⟨g, o + 5 + 4, none⟩ = some (.string ⟨#[51]⟩) ∧ W.cell? ⟨g, o + 10 + 4, none⟩ = some (.string ⟨#[49]⟩) := by
  obtain ⟨q1, c1, e, hr⟩ := h
  injection e with e1 _ _
  obtain ⟨g, o, h1, h2⟩ := hr 1 _ rfl
  obtain ⟨g', o', h1', h2'⟩ := hr 2 _ rfl
  rw [h1] at h1'
  injection h1' with h1'
  injection h1' with e3 e4
  subst e3 e4
  exact ⟨g, o, by rw [e1, h1], h2 4 _ rfl, h2' 4 _ rfl⟩
set_option maxRecDepth 100000 in
set_option maxHeartbeats 64000000 in
theorem awake14 {G : World → Prop} (HC : DropinC G) : AwakeC14 G := by
  intro w hG
  have HON := Lib.hid (fun (w w' : World) => HC.on (w := w) (w' := w'))
  have HG := Lib.hid hG
  have H0 := Lib.hid (fun W => (show Calls Tryz.prog 29 #[.string ⟨#[109]⟩, .int .i64 0, .string ⟨#[48]⟩] W (fun e w' => ∃ p c, e = .returned (.agg #[.string ⟨#[109]⟩, .int .i64 0, .slice p 8 c]) ∧ FleAt w'.heap.size w' (mk14 ⟨#[109]⟩ 0 48 p c) ∧ Below W.heap.size W w') from made_c14 ⟨#[109]⟩ 0 48 (by decide) W))
  have H20 := Lib.hid (fun W => (show Calls Tryz.prog 29 #[.string ⟨#[98, 46, 99, 111, 110, 102]⟩, .int .i64 0, .string ⟨#[49]⟩] W (fun e w' => ∃ p c, e = .returned (.agg #[.string ⟨#[98, 46, 99, 111, 110, 102]⟩, .int .i64 0, .slice p 8 c]) ∧ FleAt w'.heap.size w' (mk14 ⟨#[98, 46, 99, 111, 110, 102]⟩ 0 49 p c) ∧ Below W.heap.size W w') from made_c14 ⟨#[98, 46, 99, 111, 110, 102]⟩ 0 49 (by decide) W))
  have H21 := Lib.hid (fun W => (show Calls Tryz.prog 29 #[.string ⟨#[97, 46, 99, 111, 110, 102]⟩, .int .i64 1, .string ⟨#[50]⟩] W (fun e w' => ∃ p c, e = .returned (.agg #[.string ⟨#[97, 46, 99, 111, 110, 102]⟩, .int .i64 1, .slice p 8 c]) ∧ FleAt w'.heap.size w' (mk14 ⟨#[97, 46, 99, 111, 110, 102]⟩ 1 50 p c) ∧ Below W.heap.size W w') from made_c14 ⟨#[97, 46, 99, 111, 110, 102]⟩ 1 50 (by decide) W))
  have H22 := Lib.hid (fun W => (show Calls Tryz.prog 29 #[.string ⟨#[97, 46, 99, 111, 110, 102]⟩, .int .i64 0, .string ⟨#[51]⟩] W (fun e w' => ∃ p c, e = .returned (.agg #[.string ⟨#[97, 46, 99, 111, 110, 102]⟩, .int .i64 0, .slice p 8 c]) ∧ FleAt w'.heap.size w' (mk14 ⟨#[97, 46, 99, 111, 110, 102]⟩ 0 51 p c) ∧ Below W.heap.size W w') from made_c14 ⟨#[97, 46, 99, 111, 110, 102]⟩ 0 51 (by decide) W))
  have H23 := Lib.hid (fun W => (show Calls Tryz.prog 29 #[.string ⟨#[98, 46, 99, 111, 110, 102]⟩, .int .i64 0, .string ⟨#[52]⟩] W (fun e w' => ∃ p c, e = .returned (.agg #[.string ⟨#[98, 46, 99, 111, 110, 102]⟩, .int .i64 0, .slice p 8 c]) ∧ FleAt w'.heap.size w' (mk14 ⟨#[98, 46, 99, 111, 110, 102]⟩ 0 52 p c) ∧ Below W.heap.size W w') from made_c14 ⟨#[98, 46, 99, 111, 110, 102]⟩ 0 52 (by decide) W))
  have H40 := Lib.hid (fun W => (show Calls Tryz.prog 29 #[.string ⟨#[97, 47, 98, 46, 99, 111, 110, 102]⟩, .int .i64 0, .string ⟨#[49]⟩] W (fun e w' => ∃ p c, e = .returned (.agg #[.string ⟨#[97, 47, 98, 46, 99, 111, 110, 102]⟩, .int .i64 0, .slice p 8 c]) ∧ FleAt w'.heap.size w' (mk14 ⟨#[97, 47, 98, 46, 99, 111, 110, 102]⟩ 0 49 p c) ∧ Below W.heap.size W w') from made_c14 ⟨#[97, 47, 98, 46, 99, 111, 110, 102]⟩ 0 49 (by decide) W))
  have H50 := Lib.hid (fun W => (show Calls Tryz.prog 29 #[.string ⟨#[98, 46, 99, 111, 110, 102]⟩, .int .i64 0, .string ⟨#[49]⟩] W (fun e w' => ∃ p c, e = .returned (.agg #[.string ⟨#[98, 46, 99, 111, 110, 102]⟩, .int .i64 0, .slice p 8 c]) ∧ FleAt w'.heap.size w' (mk14 ⟨#[98, 46, 99, 111, 110, 102]⟩ 0 49 p c) ∧ Below W.heap.size W w') from made_c14 ⟨#[98, 46, 99, 111, 110, 102]⟩ 0 49 (by decide) W))
  have H51 := Lib.hid (fun W => (show Calls Tryz.prog 29 #[.string ⟨#[97, 46, 99, 111, 110, 102]⟩, .int .i64 0, .string ⟨#[51]⟩] W (fun e w' => ∃ p c, e = .returned (.agg #[.string ⟨#[97, 46, 99, 111, 110, 102]⟩, .int .i64 0, .slice p 8 c]) ∧ FleAt w'.heap.size w' (mk14 ⟨#[97, 46, 99, 111, 110, 102]⟩ 0 51 p c) ∧ Below W.heap.size W w') from made_c14 ⟨#[97, 46, 99, 111, 110, 102]⟩ 0 51 (by decide) W))
  have HMA := Lib.hid (fun W (g : G W) => HC.may ⟨#[97]⟩ W g (by decide))
  have HMB := Lib.hid (fun W (g : G W) => HC.may ⟨#[46, 99, 111, 110, 102]⟩ W g (by decide))
  have HMC := Lib.hid (fun W (g : G W) => HC.may ⟨#[97, 46, 99, 111, 110, 102]⟩ W g (by decide))
  rw [show mayL (⟨#[97]⟩ : ByteArray).data.toList = false from by decide +kernel] at HMA
  rw [show mayL (⟨#[46, 99, 111, 110, 102]⟩ : ByteArray).data.toList = false from by decide +kernel] at HMB
  rw [show mayL (⟨#[97, 46, 99, 111, 110, 102]⟩ : ByteArray).data.toList = true from by decide +kernel] at HMC
  have HHC := Lib.hid HC
  have hmk := make17
  clear HC hG
  go_enter Tryz.func15, Tryz.ntmps15
  go_wp2_with (go_at_call 29; ((with_reducible refine (H0.out _).mono ?_); rintro e W1 ⟨p0, c0, rfl, fm, b1⟩); have B1 := Lib.hid b1; have FM := Lib.hid fm; clear fm b1)
  obtain ⟨V, hV⟩ : ∃ V, V = W1.alloc (.cells #[.string ⟨#[109]⟩, .int .i64 0, .slice p0 8 c0] 24) := ⟨_, rfl⟩
  have HBX := heap_alloc_new W1 (.cells #[.string ⟨#[109]⟩, .int .i64 0, .slice p0 8 c0] 24)
  have BW1 := Lib.hid (show Below w.heap.size w V from by rw [hV]; exact B1.out.alloc B1.out.size _)
  have FMV := Lib.hid (show FleAt V.heap.size V (mk14 ⟨#[109]⟩ 0 48 p0 c0) from by rw [hV]; exact FM.out.on (ball W1 _))
  have HBL := (show W1.heap.size < V.heap.size from by rw [hV, World.size_alloc]; exact Nat.lt_succ_self _)
  rw [← hV] at HBX ⊢
  obtain ⟨bm, hbm⟩ : ∃ b, b = W1.heap.size := ⟨_, rfl⟩
  rw [← hbm] at HBX HBL ⊢
  have HCK2 := Lib.hid (fun (W : World) (b : Below V.heap.size V W) => show W.cell? ⟨bm, 0, none⟩ = some (.string ⟨#[109]⟩) ∧ W.cell? ⟨bm, 1, none⟩ = some (.int .i64 0) ∧ W.cell? ⟨bm, 2, none⟩ = some (.slice p0 8 c0) from
    ⟨(cell_of_row W bm 0 _ _ (0, 0) ((b.block bm HBL).trans HBX)).trans rfl, (cell_of_row W bm 1 _ _ (0, 0) ((b.block bm HBL).trans HBX)).trans rfl, (cell_of_row W bm 2 _ _ (0, 0) ((b.block bm HBL).trans HBX)).trans rfl⟩)
  have HFM2 := Lib.hid (fun (W : World) (b : Below V.heap.size V W) => FMV.out.on b)
  have HGV2 := Lib.hid (fun (W : World) (b : Below V.heap.size V W) => HON.out _ _ HG.out (thn13 BW1.out b))
  have HC := HHC.out
  have HO2 := Lib.hid (fun (D : List Fle) (a : Option Addr) (n cap : Nat) (W : World) (hD : D.map Fle.fil = [mk14 ⟨#[98, 46, 99, 111, 110, 102]⟩ 0 49 none 0, mk14 ⟨#[97, 46, 99, 111, 110, 102]⟩ 1 50 none 0, mk14 ⟨#[97, 46, 99, 111, 110, 102]⟩ 0 51 none 0, mk14 ⟨#[98, 46, 99, 111, 110, 102]⟩ 0 52 none 0].map Fle.fil) (g : G W) (hm : FleAt W.heap.size W (mk14 ⟨#[109]⟩ 0 48 p0 c0)) (h : FsAt W a n cap D) (hb : ∀ f ∈ D, f.len ≤ 1000000 ∧ f.name.size ≤ 1000000) (hn : n ≤ 1000) =>
    (show Calls Tryz.prog 10 #[.agg #[.string ⟨#[109]⟩, .int .i64 0, .slice p0 8 c0], .slice a n cap] W (fun e w' => ∃ q c L, e = .returned (.tuple #[.slice q 3 c, .int .i64 0]) ∧ FsAt w' q 3 c L ∧ L.map Fle.fil = [(⟨#[109]⟩, 0, fileL 48), (⟨#[97, 46, 99, 111, 110, 102]⟩, 0, fileL 51), (⟨#[98, 46, 99, 111, 110, 102]⟩, 0, fileL 49)] ∧ Below W.heap.size W w') from
      order_k HC (mk14 ⟨#[109]⟩ 0 48 p0 c0) (mk14 ⟨#[109]⟩ 0 48 none 0) D [mk14 ⟨#[98, 46, 99, 111, 110, 102]⟩ 0 49 none 0, mk14 ⟨#[97, 46, 99, 111, 110, 102]⟩ 1 50 none 0, mk14 ⟨#[97, 46, 99, 111, 110, 102]⟩ 0 51 none 0, mk14 ⟨#[98, 46, 99, 111, 110, 102]⟩ 0 52 none 0] [(⟨#[109]⟩, 0, fileL 48), (⟨#[97, 46, 99, 111, 110, 102]⟩, 0, fileL 51), (⟨#[98, 46, 99, 111, 110, 102]⟩, 0, fileL 49)] 3 0 rfl hD rows_2 rfl W g hm a n cap h (fun f hf => by
        rcases List.mem_cons.1 hf with e | e
        · rw [e]; exact ⟨Nat.le_of_ble_eq_true rfl, Nat.le_of_ble_eq_true rfl⟩
        · exact hb f e) hn))
  have HO3 := Lib.hid (fun (D : List Fle) (a : Option Addr) (n cap : Nat) (W : World) (hD : D.map Fle.fil = (List.replicate 17 f0).map Fle.fil) (g : G W) (hm : FleAt W.heap.size W (mk14 ⟨#[109]⟩ 0 48 p0 c0)) (h : FsAt W a n cap D) (hb : ∀ f ∈ D, f.len ≤ 1000000 ∧ f.name.size ≤ 1000000) (hn : n ≤ 1000) =>
    (show Calls Tryz.prog 10 #[.agg #[.string ⟨#[109]⟩, .int .i64 0, .slice p0 8 c0], .slice a n cap] W (fun e w' => ∃ q c L, e = .returned (.tuple #[.slice q 0 c, .int .i64 4]) ∧ FsAt w' q 0 c L ∧ L.map Fle.fil = [] ∧ Below W.heap.size W w') from
      order_k HC (mk14 ⟨#[109]⟩ 0 48 p0 c0) (mk14 ⟨#[109]⟩ 0 48 none 0) D (List.replicate 17 f0) [] 0 4 rfl hD rows_3 rfl W g hm a n cap h (fun f hf => by
        rcases List.mem_cons.1 hf with e | e
        · rw [e]; exact ⟨Nat.le_of_ble_eq_true rfl, Nat.le_of_ble_eq_true rfl⟩
        · exact hb f e) hn))
  have HO4 := Lib.hid (fun (D : List Fle) (a : Option Addr) (n cap : Nat) (W : World) (hD : D.map Fle.fil = [mk14 ⟨#[97, 47, 98, 46, 99, 111, 110, 102]⟩ 0 49 none 0].map Fle.fil) (g : G W) (hm : FleAt W.heap.size W (mk14 ⟨#[109]⟩ 0 48 p0 c0)) (h : FsAt W a n cap D) (hb : ∀ f ∈ D, f.len ≤ 1000000 ∧ f.name.size ≤ 1000000) (hn : n ≤ 1000) =>
    (show Calls Tryz.prog 10 #[.agg #[.string ⟨#[109]⟩, .int .i64 0, .slice p0 8 c0], .slice a n cap] W (fun e w' => ∃ q c L, e = .returned (.tuple #[.slice q 0 c, .int .i64 140]) ∧ FsAt w' q 0 c L ∧ L.map Fle.fil = [] ∧ Below W.heap.size W w') from
      order_k HC (mk14 ⟨#[109]⟩ 0 48 p0 c0) (mk14 ⟨#[109]⟩ 0 48 none 0) D [mk14 ⟨#[97, 47, 98, 46, 99, 111, 110, 102]⟩ 0 49 none 0] [] 0 140 rfl hD rows_4 rfl W g hm a n cap h (fun f hf => by
        rcases List.mem_cons.1 hf with e | e
        · rw [e]; exact ⟨Nat.le_of_ble_eq_true rfl, Nat.le_of_ble_eq_true rfl⟩
        · exact hb f e) hn))
  have HM5 := Lib.hid (fun (D : List Fle) (a : Option Addr) (n cap : Nat) (W : World) (hD : D.map Fle.fil = [mk14 ⟨#[98, 46, 99, 111, 110, 102]⟩ 0 49 none 0, mk14 ⟨#[97, 46, 99, 111, 110, 102]⟩ 0 51 none 0].map Fle.fil) (g : G W) (hm : FleAt W.heap.size W (mk14 ⟨#[109]⟩ 0 48 p0 c0)) (h : FsAt W a n cap D) (hb : ∀ f ∈ D, f.len ≤ 1000000 ∧ f.name.size ≤ 1000000) (hn : n ≤ 1000) =>
    (show Calls Tryz.prog 16 #[.agg #[.string ⟨#[109]⟩, .int .i64 0, .slice p0 8 c0], .slice a n cap] W (fun e w' => ∃ q c q2 c2, e = .returned (.tuple #[.slice q 3 c, .slice q2 0 c2]) ∧ RowsAt 5 encA w' (.slice q 3 c) [⟨⟨#[109]⟩, 2, ⟨#[83]⟩, ⟨#[75]⟩, ⟨#[48]⟩⟩, ⟨⟨#[97, 46, 99, 111, 110, 102]⟩, 2, ⟨#[83]⟩, ⟨#[75]⟩, ⟨#[51]⟩⟩, ⟨⟨#[98, 46, 99, 111, 110, 102]⟩, 2, ⟨#[83]⟩, ⟨#[75]⟩, ⟨#[49]⟩⟩] ∧ Below W.heap.size W w') from
      merge_k HC (mk14 ⟨#[109]⟩ 0 48 p0 c0) (mk14 ⟨#[109]⟩ 0 48 none 0) D [mk14 ⟨#[98, 46, 99, 111, 110, 102]⟩ 0 49 none 0, mk14 ⟨#[97, 46, 99, 111, 110, 102]⟩ 0 51 none 0] [⟨⟨#[109]⟩, 2, ⟨#[83]⟩, ⟨#[75]⟩, ⟨#[48]⟩⟩, ⟨⟨#[97, 46, 99, 111, 110, 102]⟩, 2, ⟨#[83]⟩, ⟨#[75]⟩, ⟨#[51]⟩⟩, ⟨⟨#[98, 46, 99, 111, 110, 102]⟩, 2, ⟨#[83]⟩, ⟨#[75]⟩, ⟨#[49]⟩⟩] 3 rfl hD rows_5 rfl W g hm a n cap h (fun f hf => by
        rcases List.mem_cons.1 hf with e | e
        · rw [e]; exact ⟨Nat.le_of_ble_eq_true rfl, Nat.le_of_ble_eq_true rfl⟩
        · exact hb f e) hn))
  clear HC hV hbm HBX HBL FMV FM B1
  have BV := Lib.hid (Below.refl V.heap.size V).drew
  go_region_held3 (fun w' => w'.cell? ⟨bm, 0, none⟩ = some (.string ⟨#[109]⟩) ∧ w'.cell? ⟨bm, 1, none⟩ = some (.int .i64 0) ∧ w'.cell? ⟨bm, 2, none⟩ = some (.slice p0 8 c0))
    (first | (with_reducible exact HCK2.out _ BV.out) | (with_reducible exact HCK2.out _ C1.out) | (with_reducible exact HCK2.out _ C2.out) | (with_reducible exact HCK2.out _ C3.out) | (with_reducible exact HCK2.out _ C4.out) | (with_reducible exact HCK2.out _ (C4.out.alloc C4.out.size _)) | (with_reducible exact HCK2.out _ CE2.out))
    (first
      | ((go_at_call 29); (with_reducible refine (H20.out _).mono ?_); rintro e U1 ⟨p1, c1, rfl, fl, bl⟩; have C1 := Lib.hid (thn13 BV.out bl); have FL1 := Lib.hid fl; clear fl bl)
      | ((go_at_call 29); (with_reducible refine (H21.out _).mono ?_); rintro e U2 ⟨p2, c2, rfl, fl, bl⟩; have C2 := Lib.hid (thn13 C1.out bl); have FL2 := Lib.hid fl; have FL1 := Lib.hid (FL1.out.on bl); clear fl bl)
      | ((go_at_call 29); (with_reducible refine (H22.out _).mono ?_); rintro e U3 ⟨p3, c3, rfl, fl, bl⟩; have C3 := Lib.hid (thn13 C2.out bl); have FL3 := Lib.hid fl; have FL1 := Lib.hid (FL1.out.on bl); have FL2 := Lib.hid (FL2.out.on bl); clear fl bl)
      | ((go_at_call 29); (with_reducible refine (H23.out _).mono ?_); rintro e U4 ⟨p4, c4, rfl, fl, bl⟩; have C4 := Lib.hid (thn13 C3.out bl); have FL4 := Lib.hid fl; have FL1 := Lib.hid (FL1.out.on bl); have FL2 := Lib.hid (FL2.out.on bl); have FL3 := Lib.hid (FL3.out.on bl); clear fl bl)
      | ((go_at_call 10); (have FSR := Lib.hid (show FsAt (U4.alloc (.cells #[.string ⟨#[98, 46, 99, 111, 110, 102]⟩, .int .i64 0, .slice p1 8 c1, .string ⟨#[97, 46, 99, 111, 110, 102]⟩, .int .i64 1, .slice p2 8 c2, .string ⟨#[97, 46, 99, 111, 110, 102]⟩, .int .i64 0, .slice p3 8 c3, .string ⟨#[98, 46, 99, 111, 110, 102]⟩, .int .i64 0, .slice p4 8 c4] 24)) (some ⟨U4.heap.size, 0, none⟩) 4 4 [mk14 ⟨#[98, 46, 99, 111, 110, 102]⟩ 0 49 p1 c1, mk14 ⟨#[97, 46, 99, 111, 110, 102]⟩ 1 50 p2 c2, mk14 ⟨#[97, 46, 99, 111, 110, 102]⟩ 0 51 p3 c3, mk14 ⟨#[98, 46, 99, 111, 110, 102]⟩ 0 52 p4 c4] from fs_lit14 U4 [mk14 ⟨#[98, 46, 99, 111, 110, 102]⟩ 0 49 p1 c1, mk14 ⟨#[97, 46, 99, 111, 110, 102]⟩ 1 50 p2 c2, mk14 ⟨#[97, 46, 99, 111, 110, 102]⟩ 0 51 p3 c3, mk14 ⟨#[98, 46, 99, 111, 110, 102]⟩ 0 52 p4 c4] (by (intro f hf; simp only [List.mem_cons, List.mem_nil_iff, or_false] at hf; rcases hf with rfl | rfl | rfl | rfl) <;> first | exact FL1.out | exact FL2.out | exact FL3.out | exact FL4.out) (Nat.le_of_ble_eq_true rfl))); (have CA := Lib.hid (C4.out.alloc C4.out.size (.cells #[.string ⟨#[98, 46, 99, 111, 110, 102]⟩, .int .i64 0, .slice p1 8 c1, .string ⟨#[97, 46, 99, 111, 110, 102]⟩, .int .i64 1, .slice p2 8 c2, .string ⟨#[97, 46, 99, 111, 110, 102]⟩, .int .i64 0, .slice p3 8 c3, .string ⟨#[98, 46, 99, 111, 110, 102]⟩, .int .i64 0, .slice p4 8 c4] 24))); (with_reducible refine (HO2.out [mk14 ⟨#[98, 46, 99, 111, 110, 102]⟩ 0 49 p1 c1, mk14 ⟨#[97, 46, 99, 111, 110, 102]⟩ 1 50 p2 c2, mk14 ⟨#[97, 46, 99, 111, 110, 102]⟩ 0 51 p3 c3, mk14 ⟨#[98, 46, 99, 111, 110, 102]⟩ 0 52 p4 c4] _ _ _ _ rfl (HGV2.out _ CA.out) (HFM2.out _ CA.out) FSR.out (by (intro f hf; simp only [List.mem_cons, List.mem_nil_iff, or_false] at hf; rcases hf with rfl | rfl | rfl | rfl) <;> exact ⟨Nat.le_of_ble_eq_true rfl, Nat.le_of_ble_eq_true rfl⟩) (by decide)).mono ?_); rintro e UE2 ⟨q2, k2, L2, rfl, fs, hl, bl⟩; have CE2 := Lib.hid (thn13 CA.out bl); have FSE2 := Lib.hid fs; have HLE2 := Lib.hid hl; clear fs hl bl))
  go_wp2_with fail
  clear BV C1 C2 C3 C4 FL1 FL2 FL3 FL4 FSR CA
  have HCK3 := Lib.hid (fun (W : World) (b : Below UE2.heap.size UE2 W) => HCK2.out W (thn13 CE2.out b))
  have HFM3 := Lib.hid (fun (W : World) (b : Below UE2.heap.size UE2 W) => HFM2.out W (thn13 CE2.out b))
  have HGV3 := Lib.hid (fun (W : World) (b : Below UE2.heap.size UE2 W) => HGV2.out W (thn13 CE2.out b))
  have BV := Lib.hid (Below.refl UE2.heap.size UE2).drew
  have CA := Lib.hid ((Below.refl UE2.heap.size UE2).alloc (Nat.le_refl _) (.cells Z17 24)).drew
  go_region_held3 (fun w' => w'.cell? ⟨bm, 0, none⟩ = some (.string ⟨#[109]⟩) ∧ w'.cell? ⟨bm, 1, none⟩ = some (.int .i64 0) ∧ w'.cell? ⟨bm, 2, none⟩ = some (.slice p0 8 c0))
    (first | (with_reducible exact HCK3.out _ BV.out) | (with_reducible exact HCK3.out _ CA.out) | (with_reducible exact HCK3.out _ CE3.out))
    (first
      | ((go_at_call 10); (with_reducible refine (HO3.out (List.replicate 17 f0) _ _ _ _ rfl (HGV3.out _ CA.out) (HFM3.out _ CA.out) (fs_z17 UE2) (fun f hf => by rw [List.eq_of_mem_replicate hf]; exact ⟨Nat.zero_le _, Nat.zero_le _⟩) (by decide)).mono ?_); rintro e UE3 ⟨q3, k3, L3, rfl, fs, hl, bl⟩; have CE3 := Lib.hid (thn13 CA.out bl); clear fs hl bl))
  go_wp2_with fail
  clear BV CA
  have HCK4 := Lib.hid (fun (W : World) (b : Below UE3.heap.size UE3 W) => HCK3.out W (thn13 CE3.out b))
  have HFM4 := Lib.hid (fun (W : World) (b : Below UE3.heap.size UE3 W) => HFM3.out W (thn13 CE3.out b))
  have HGV4 := Lib.hid (fun (W : World) (b : Below UE3.heap.size UE3 W) => HGV3.out W (thn13 CE3.out b))
  have BV := Lib.hid (Below.refl UE3.heap.size UE3).drew
  go_region_held3 (fun w' => w'.cell? ⟨bm, 0, none⟩ = some (.string ⟨#[109]⟩) ∧ w'.cell? ⟨bm, 1, none⟩ = some (.int .i64 0) ∧ w'.cell? ⟨bm, 2, none⟩ = some (.slice p0 8 c0))
    (first | (with_reducible exact HCK4.out _ BV.out) | (with_reducible exact HCK4.out _ C1.out) | (with_reducible exact HCK4.out _ (C1.out.alloc C1.out.size _)) | (with_reducible exact HCK4.out _ CE4.out))
    (first
      | ((go_at_call 29); (with_reducible refine (H40.out _).mono ?_); rintro e U1 ⟨p1, c1, rfl, fl, bl⟩; have C1 := Lib.hid (thn13 BV.out bl); have FL1 := Lib.hid fl; clear fl bl)
      | ((go_at_call 10); (have FSR := Lib.hid (show FsAt (U1.alloc (.cells #[.string ⟨#[97, 47, 98, 46, 99, 111, 110, 102]⟩, .int .i64 0, .slice p1 8 c1] 24)) (some ⟨U1.heap.size, 0, none⟩) 1 1 [mk14 ⟨#[97, 47, 98, 46, 99, 111, 110, 102]⟩ 0 49 p1 c1] from fs_lit14 U1 [mk14 ⟨#[97, 47, 98, 46, 99, 111, 110, 102]⟩ 0 49 p1 c1] (by (intro f hf; simp only [List.mem_cons, List.mem_nil_iff, or_false] at hf; rcases hf with rfl) <;> first | exact FL1.out) (Nat.le_of_ble_eq_true rfl))); (have CA := Lib.hid (C1.out.alloc C1.out.size (.cells #[.string ⟨#[97, 47, 98, 46, 99, 111, 110, 102]⟩, .int .i64 0, .slice p1 8 c1] 24))); (with_reducible refine (HO4.out [mk14 ⟨#[97, 47, 98, 46, 99, 111, 110, 102]⟩ 0 49 p1 c1] _ _ _ _ rfl (HGV4.out _ CA.out) (HFM4.out _ CA.out) FSR.out (by (intro f hf; simp only [List.mem_cons, List.mem_nil_iff, or_false] at hf; rcases hf with rfl) <;> exact ⟨Nat.le_of_ble_eq_true rfl, Nat.le_of_ble_eq_true rfl⟩) (by decide)).mono ?_); rintro e UE4 ⟨q4, k4, L4, rfl, fs, hl, bl⟩; have CE4 := Lib.hid (thn13 CA.out bl); have FSE4 := Lib.hid fs; have HLE4 := Lib.hid hl; clear fs hl bl))
  go_wp2_with fail
  clear BV C1 FL1 FSR CA
  have HCK5 := Lib.hid (fun (W : World) (b : Below UE4.heap.size UE4 W) => HCK4.out W (thn13 CE4.out b))
  have HFM5 := Lib.hid (fun (W : World) (b : Below UE4.heap.size UE4 W) => HFM4.out W (thn13 CE4.out b))
  have HGV5 := Lib.hid (fun (W : World) (b : Below UE4.heap.size UE4 W) => HGV4.out W (thn13 CE4.out b))
  have BV := Lib.hid (Below.refl UE4.heap.size UE4).drew
  go_region_held3 (fun w' => w'.cell? ⟨bm, 0, none⟩ = some (.string ⟨#[109]⟩) ∧ w'.cell? ⟨bm, 1, none⟩ = some (.int .i64 0) ∧ w'.cell? ⟨bm, 2, none⟩ = some (.slice p0 8 c0))
    (first | (with_reducible exact HCK5.out _ BV.out) | (with_reducible exact HCK5.out _ C1.out) | (with_reducible exact HCK5.out _ C2.out) | (with_reducible exact HCK5.out _ (C2.out.alloc C2.out.size _)) | (with_reducible exact HCK5.out _ CE5.out))
    (first
      | ((go_at_call 29); (with_reducible refine (H50.out _).mono ?_); rintro e U1 ⟨p1, c1, rfl, fl, bl⟩; have C1 := Lib.hid (thn13 BV.out bl); have FL1 := Lib.hid fl; clear fl bl)
      | ((go_at_call 29); (with_reducible refine (H51.out _).mono ?_); rintro e U2 ⟨p2, c2, rfl, fl, bl⟩; have C2 := Lib.hid (thn13 C1.out bl); have FL2 := Lib.hid fl; have FL1 := Lib.hid (FL1.out.on bl); clear fl bl)
      | ((go_at_call 16); (have FSR := Lib.hid (show FsAt (U2.alloc (.cells #[.string ⟨#[98, 46, 99, 111, 110, 102]⟩, .int .i64 0, .slice p1 8 c1, .string ⟨#[97, 46, 99, 111, 110, 102]⟩, .int .i64 0, .slice p2 8 c2] 24)) (some ⟨U2.heap.size, 0, none⟩) 2 2 [mk14 ⟨#[98, 46, 99, 111, 110, 102]⟩ 0 49 p1 c1, mk14 ⟨#[97, 46, 99, 111, 110, 102]⟩ 0 51 p2 c2] from fs_lit14 U2 [mk14 ⟨#[98, 46, 99, 111, 110, 102]⟩ 0 49 p1 c1, mk14 ⟨#[97, 46, 99, 111, 110, 102]⟩ 0 51 p2 c2] (by (intro f hf; simp only [List.mem_cons, List.mem_nil_iff, or_false] at hf; rcases hf with rfl | rfl) <;> first | exact FL1.out | exact FL2.out) (Nat.le_of_ble_eq_true rfl))); (have CA := Lib.hid (C2.out.alloc C2.out.size (.cells #[.string ⟨#[98, 46, 99, 111, 110, 102]⟩, .int .i64 0, .slice p1 8 c1, .string ⟨#[97, 46, 99, 111, 110, 102]⟩, .int .i64 0, .slice p2 8 c2] 24))); (with_reducible refine (HM5.out [mk14 ⟨#[98, 46, 99, 111, 110, 102]⟩ 0 49 p1 c1, mk14 ⟨#[97, 46, 99, 111, 110, 102]⟩ 0 51 p2 c2] _ _ _ _ rfl (HGV5.out _ CA.out) (HFM5.out _ CA.out) FSR.out (by (intro f hf; simp only [List.mem_cons, List.mem_nil_iff, or_false] at hf; rcases hf with rfl | rfl) <;> exact ⟨Nat.le_of_ble_eq_true rfl, Nat.le_of_ble_eq_true rfl⟩) (by decide)).mono ?_); rintro e UE5 ⟨qa, ka, qn, kn, rfl, ra, bl⟩; have CE5 := Lib.hid (thn13 CA.out bl); have HRA := Lib.hid ra; clear ra bl))
  obtain ⟨g, o, p9, n9, k9, rfl, y0, y1, y2, y3, y4⟩ := three_at (FSE2.out.on (thn13 (thn13 CE3.out CE4.out) CE5.out)) HLE2.out
  obtain ⟨ga, oa, rfl, z1, z2⟩ := two_at HRA.out
  obtain ⟨S, hS⟩ : ∃ S, S = bs (fileL 49) := ⟨_, rfl⟩
  rw [← hS] at y4
  have eS : (S.toList == [91, 83, 93, 10, 75, 61, 49, 10]) = true := by rw [hS, ByteArray.toList_eq]; rfl
  have BE := Lib.hid (thn13 (thn13 (thn13 CE2.out CE3.out) CE4.out) CE5.out)
  have GE := Lib.hid (HGV2.out _ BE.out)
  have BF := Lib.hid (thn13 BW1.out BE.out)
  clear hS hmk HCK2 HCK3 HCK4 HCK5 HFM2 HFM3 HFM4 HFM5 HGV2 HGV3 HGV4 HGV5 HO2 HO3 HO4 HM5 CE2 CE3 CE4 CE5 BV C1 C2 FL1 FL2 FSR CA FSE2 HLE2 HRA
  go_wp2_with (first
    | (go_at_call 13; ((with_reducible refine (HMA.out _ GE.out).mono ?_); rintro e V1 ⟨rfl, b1⟩); have D1 := Lib.hid (thn13 BF.out b1); have G1 := Lib.hid (HON.out _ _ GE.out b1); clear b1)
    | (go_at_call 13; ((with_reducible refine (HMB.out _ G1.out).mono ?_); rintro e V2 ⟨rfl, b2⟩); have D2 := Lib.hid (thn13 D1.out b2); have G2 := Lib.hid (HON.out _ _ G1.out b2); clear b2)
    | (go_at_call 13; ((with_reducible refine (HMC.out _ G2.out).mono ?_); rintro e V3 ⟨rfl, b3⟩); have D3 := Lib.hid (thn13 D2.out b3); clear b3))
  go_ret
  exact ⟨rfl, D3.out⟩
end Go.Proofs.YtgigdhincpcdbaaGreatDoor
