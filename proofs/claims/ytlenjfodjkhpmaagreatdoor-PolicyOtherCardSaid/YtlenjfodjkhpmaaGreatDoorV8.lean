/- The landed policy: the lines of a list of calls. Conditions: names of at most 1,000 bytes, lists of at most 400. -/
import Derived.Test.YtlenjfodjkhpmaaGreatDoorV6
import Derived.Test.YtlenjfodjkhpmaaGreatDoorV7
import Derived.Test.YtlenjfodjkhpmaaGreatDoorF5
import Derived.Deep.RegionHeld3
namespace Go.Proofs.YtlenjfodjkhpmaaGreatDoor
set_option maxRecDepth 100000
open Go.Lib (hid)
open Go.RowKit
set_option linter.unusedVariables false
set_option linter.unusedSimpArgs false
attribute [local go_sem ↓] Go.wp_at_zero Go.wp_at_succ

theorem join_size19 (ws : List ByteArray) (h : ∀ x ∈ ws, x.size ≤ 2000) (hn : ws.length ≤ 400) : (joinW ws).size ≤ 1000000 := by
 have hl : ∀ l : List ByteArray, (∀ x ∈ l, x.size ≤ 2000) → Lib.lens (l.map (·.data.toList)) ≤ 2000 * l.length := by
  intro l
  induction l with
  | nil => intro _; simp [Lib.lens]
  | cons a r ih =>
   intro h
   have h1 := h a List.mem_cons_self
   have h2 := ih (fun x hx => h x (List.mem_cons_of_mem _ hx))
   have ha : a.data.toList.length = a.size := by simp
   rw [List.map_cons, show Lib.lens (a.data.toList :: r.map (·.data.toList)) = a.data.toList.length + Lib.lens (r.map (·.data.toList)) by simp [Lib.lens], ha, List.length_cons]
   omega
 rw [size_join19]
 cases ws with
 | nil => simp [Lib.join]
 | cons a r =>
  have := hl _ h
  rw [List.map_cons, Lib.join_length, ← List.map_cons (f := fun x : ByteArray => x.data.toList), List.length_map]
  rw [List.length_cons] at hn this
  show 1 * r.length + _ ≤ _
  omega
theorem ent_size19 {c : Cl} (h : c.1.size ≤ 1000) : (entT c).size ≤ 2000 := by
 have he := errnoName_size (c.2 % 65536)
 have h1 : (⟨#[58, 107, 105, 108, 108]⟩ : ByteArray).size = 5 := rfl
 have h2 : (⟨#[58]⟩ : ByteArray).size = 1 := rfl
 unfold entT textR
 simp only
 repeat' split
 all_goals first
  | omega
  | (rw [ByteArray.size_append, h1]; omega)
  | (rw [ByteArray.size_append, ByteArray.size_append, h2]; omega)
  | (rw [ByteArray.size_append, h2]; omega)
theorem entW_size19 {p : Cl → Bool} {L : List Cl} (h : ∀ e ∈ L, e.1.size ≤ 1000 ∧ e.2 < 4294967296) : ∀ x ∈ entW p L, x.size ≤ 2000 := fun x hx => by
 obtain ⟨c, hc, rfl⟩ := List.mem_map.1 hx
 exact ent_size19 (h c (List.mem_filter.1 hc).1).1
def slV (t : Sl) : Value := .slice t.1 t.2.1 t.2.2
theorem concat_lit19 (T : List Sl) (Ws : List (List ByteArray)) (w : World) (hl : T.length = Ws.length) (h3 : T.length ≤ 100) (hW : ∀ (k : Nat) (t : Sl) (ws : List ByteArray), T[k]? = some t → Ws[k]? = some ws → WrdAt w t.1 t.2.1 t.2.2 ws) (hs : Ws.flatten.length ≤ 100000) : Calls Tryz.prog 35 #[.slice (some ⟨w.heap.size, 0, none⟩) T.length T.length] (w.alloc (.cells (T.map slV).toArray 44)) fun e w' => OutS (w.alloc (.cells (T.map slV).toArray 44)) Ws.flatten e w' :=
 concat_c19 w.heap.size T.length T.length T Ws _ rfl hl h3 (fun k t ht => by
  rw [cell_of_row _ w.heap.size k _ _ (0, 0) (heap_alloc_new w _)]
  simp [ht, slV]) (fun k t ws h1 h2 => (hW k t ws h1 h2).on (below16 w _)) hs
theorem lbox19 {W : World} {g m n c : Nat} {q : Option Addr} (h : W.heap[g]? = some (.cells #[.int .u8 (m : Nat), .slice q n c] 27 (0, 0))) : W.cell? ⟨g, 0, none⟩ = some (.int .u8 (m : Nat)) ∧ W.cell? ⟨g, 1, none⟩ = some (.slice q n c) := ⟨(cell_of_row W g 0 _ _ (0, 0) h).trans rfl, (cell_of_row W g 1 _ _ (0, 0) h).trans rfl⟩
theorem los_len19 (k kd : ByteArray) (ws : List ByteArray) : (losW k kd ws).length ≤ 1 := by
 unfold losW
 split
 ·exact Nat.zero_le _
 ·exact Nat.le_refl _
def baseW (k : ByteArray) (L : List Cl) : List ByteArray := if findC L kRdW = some 0 then [lineW k ⟨#[]⟩ [kRdW]] else [lineW k ⟨#[]⟩ [kRdW], lineW k (⟨#[126]⟩ : ByteArray) [kRdW]]
def allowW (k : ByteArray) (L : List Cl) : List ByteArray := [baseW k L, losW k ⟨#[]⟩ (entW ownB L), losW k (⟨#[126]⟩ : ByteArray) (entW actB L)].flatten
def listW (k : ByteArray) (m : Nat) (L : List Cl) : List ByteArray := if m = 1 then allowW k L else if m = 2 then [lineW k (⟨#[126]⟩ : ByteArray) (entW allB L)] else []
set_option maxHeartbeats 32000000 in
theorem allow_c19 (k : ByteArray) (m : Nat) (q : Option Addr) (n c : Nat) (L : List Cl) (w : World) (hG : GN w) (hk : k.size ≤ 1000) (hl : n = L.length) (hn : n ≤ 400) (h : LsAt w q L) (hs : ∀ e ∈ L, e.1.size ≤ 1000 ∧ e.2 < 4294967296) : Calls Tryz.prog 82 #[.string k, lsV m q n c] w fun e w' => OutS w (allowW k L) e w' := by
 obtain ⟨X1, hX1⟩ : ∃ x, x = lineW k ⟨#[]⟩ [kRdW] := ⟨_, rfl⟩
 have HLR := hid (fun (W : World) (g : Nat) (hg : W.heap.size = g) => line_c19 k ⟨#[]⟩ (some ⟨g, 0, none⟩) 1 1 [kRdW] (W.alloc (.cells #[.string (⟨#[114, 101, 97, 100]⟩ : ByteArray)] 9)) (by rw [← hg]; exact wrd_own (one_row19 W kRdW (Nat.le_refl _))) hk (by decide) (by decide) (by rw [join_one19]; decide))
 have HLT := hid (fun (W : World) => line_c19 k (⟨#[126]⟩ : ByteArray) (some ⟨W.heap.size, 0, none⟩) 1 1 [kRdW] (W.alloc (.cells #[.string (⟨#[114, 101, 97, 100]⟩ : ByteArray)] 9)) (wrd_own (one_row19 W kRdW (Nat.le_refl _))) hk (by decide) (by decide) (by rw [join_one19]; decide))
 rw [← hX1] at HLR
 have HFI := hid (fun (X : World) (b : Below w.heap.size w X) => show Calls Tryz.prog 112 #[.agg #[.int .u8 (m : Nat), .slice q n c], .string (⟨#[114, 101, 97, 100]⟩ : ByteArray)] X (fun e w' => e = .returned (.tuple #[.int .u32 ((findC L kRdW).getD 0 : Nat), .bool (findC L kRdW).isSome]) ∧ Below X.heap.size X w') from find_l m q n c L kRdW X hl (by omega) (h.on b))
 have HEO := hid (fun (X : World) (b : Below w.heap.size w X) => ent_o19 m q n c L X (GN.on hG b) hl (by omega) (h.on b) hs)
 have HEA := hid (fun (X : World) (b : Below w.heap.size w X) => ent_a19 m q n c L X (GN.on hG b) hl (by omega) (h.on b) hs)
 unfold lsV at HEO HEA
 have hlo := entW_len ownB L
 have hla := entW_len actB L
 have HLO := hid (fun (X : World) (q1 : Option Addr) (c1 : Nat) (hw : WrdAt X q1 (entW ownB L).length c1 (entW ownB L)) => los_c19 k ⟨#[]⟩ q1 (entW ownB L).length c1 (entW ownB L) X hw hk (by decide) (by omega) (join_size19 _ (entW_size19 hs) (by omega)))
 have HLA := hid (fun (X : World) (q1 : Option Addr) (c1 : Nat) (hw : WrdAt X q1 (entW actB L).length c1 (entW actB L)) => los_c19 k (⟨#[126]⟩ : ByteArray) q1 (entW actB L).length c1 (entW actB L) X hw hk (by decide) (by omega) (join_size19 _ (entW_size19 hs) (by omega)))
 have BW0 := below16 w (.cells #[.int .u8 (m : Nat), .slice q n c] 27)
 obtain ⟨W, hW⟩ : ∃ W, W = w.alloc (.cells #[.int .u8 (m : Nat), .slice q n c] 27) := ⟨_, rfl⟩
 have SW := hid (show W.heap[w.heap.size]? = some (.cells #[.int .u8 (m : Nat), .slice q n c] 27 (0, 0)) from hW ▸ heap_alloc_new w _)
 rw [← hW] at BW0
 have BW := hid BW0
 have HWW := hid hW
 have HWS := hid (show W.heap.size = w.heap.size + 1 by rw [hW, World.size_alloc])
 obtain ⟨i0, hi0, hz0, hz1, hz2⟩ := info_parts str_info11
 have HI := hid hi0
 have HZ0 := hid hz0
 have HZ1 := hid hz1
 have HZ2 := hid hz2
 unfold allowW lsV
 cases hf : findC L kRdW with
 | none =>
  obtain ⟨X2, hX2⟩ : ∃ x, x = lineW k (⟨#[126]⟩ : ByteArray) [kRdW] := ⟨_, rfl⟩
  rw [← hX2] at HLT
  rw [show baseW k L = [X1, X2] by unfold baseW; rw [hf, if_neg (by intro e; cases e), hX1, hX2]]
  rw [hf] at HFI
  simp only [Option.getD_none, Option.isSome_none] at HFI
  have HCC := hid (fun (x : World) (qa q2 q4 : Option Addr) (na ca c2 c4 : Nat) (h1 : WrdAt x qa na ca [X1, X2]) (h2 : WrdAt x q2 (losW k ⟨#[]⟩ (entW ownB L)).length c2 (losW k ⟨#[]⟩ (entW ownB L))) (h4 : WrdAt x q4 (losW k (⟨#[126]⟩ : ByteArray) (entW actB L)).length c4 (losW k (⟨#[126]⟩ : ByteArray) (entW actB L))) => (concat_lit19 [(qa, na, ca), (q2, (losW k ⟨#[]⟩ (entW ownB L)).length, c2), (q4, (losW k (⟨#[126]⟩ : ByteArray) (entW actB L)).length, c4)] [[X1, X2], losW k ⟨#[]⟩ (entW ownB L), losW k (⟨#[126]⟩ : ByteArray) (entW actB L)] x rfl (show 3 ≤ 100 by decide) (fun k t ws e1 e2 => by
   match k with
   | 0 => injection e1 with e1; injection e2 with e2; subst e1 e2; exact h1
   | 1 => injection e1 with e1; injection e2 with e2; subst e1 e2; exact h2
   | 2 => injection e1 with e1; injection e2 with e2; subst e1 e2; exact h4
   | j + 3 => simp at e1) (by
   have a1 := los_len19 k ⟨#[]⟩ (entW ownB L)
   have a2 := los_len19 k (⟨#[126]⟩ : ByteArray) (entW actB L)
   simp only [List.flatten_cons, List.flatten_nil, List.length_append, List.length_cons, List.length_nil]
   omega) : Calls Tryz.prog 35 #[.slice (some ⟨x.heap.size, 0, none⟩) 3 3] (x.alloc (.cells #[.slice qa na ca, .slice q2 (losW k ⟨#[]⟩ (entW ownB L)).length c2, .slice q4 (losW k (⟨#[126]⟩ : ByteArray) (entW actB L)).length c4] 44)) (fun e w' => OutS (x.alloc (.cells #[.slice qa na ca, .slice q2 (losW k ⟨#[]⟩ (entW ownB L)).length c2, .slice q4 (losW k (⟨#[126]⟩ : ByteArray) (entW actB L)).length c4] 44)) [[X1, X2], losW k ⟨#[]⟩ (entW ownB L), losW k (⟨#[126]⟩ : ByteArray) (entW actB L)].flatten e w')))
  obtain ⟨BB, hBB⟩ : ∃ B, B = [[X1, X2], losW k ⟨#[]⟩ (entW ownB L), losW k (⟨#[126]⟩ : ByteArray) (entW actB L)] := ⟨_, rfl⟩
  rw [← hBB] at HCC ⊢
  clear h hl hs hn hG hlo hla BW0 hW hX1 hX2 hf hBB hi0 hz0 hz1 hz2 hk
  go_enter Tryz.func82, Tryz.ntmps82
  go_wp2_with (first
   | (go_at_call 79; rw [← HWW.out]; go_loud ((with_reducible refine (HLR.out W _ HWS.out).mono ?_); rintro e w1 ⟨rfl, b1⟩)
      have E1 := hid ((BW.out.alloc BW.out.size _).trans (b1.mono (by rw [World.size_alloc]; exact Nat.le_succ_of_le BW.out.size)))
      have T1 := hid ((b1.block _ (by rw [World.size_alloc]; exact Nat.lt_succ_of_lt (blk_lt SW.out))).trans (((below16 W _).block _ (blk_lt SW.out)).trans SW.out))
      have P1x := hid (one_row19 w1 X1 (B := w.heap.size) E1.out.size)
      have R1 := hid (show (w1.alloc (.cells #[.string X1] 9)).heap[w1.heap.size]? = some (.cells #[.string X1] 9 (0, 0)) from heap_alloc_new w1 _)
      have E2 := hid (E1.out.alloc E1.out.size (.cells #[.string X1] 9))
      have T2 := hid (((below16 w1 (.cells #[.string X1] 9)).block _ (blk_lt T1.out)).trans T1.out)
      obtain ⟨e0, e1⟩ := lbox19 T2.out
      clear b1)
   | (go_at_call 112; go_loud ((with_reducible refine (HFI.out _ E2.out).mono ?_); rintro e w2 ⟨rfl, b2⟩)
      have B0a := hid (thn16 E2.out b2)
      have P0a := hid (owns_on16 P1x.out b2)
      have S0a := hid ((b2.block _ (blk_lt T2.out)).trans T2.out)
      have R2 := hid ((b2.block _ (blk_lt R1.out)).trans R1.out)
      clear b2)
   | (go_at_call 79; ((with_reducible refine (HLT.out _).mono ?_); rintro e w3 ⟨rfl, b3⟩)
      have bb := (below16 w2 (.cells #[.string (⟨#[114, 101, 97, 100]⟩ : ByteArray)] 9))
      have E3 := hid (thn16 (thn16 B0a.out bb) b3)
      have P3x := hid (owns_on16 (owns_on16 P0a.out bb) b3)
      have T3 := hid ((b3.block _ (blk_lt ((bb.block _ (blk_lt S0a.out)).trans S0a.out))).trans ((bb.block _ (blk_lt S0a.out)).trans S0a.out))
      have R3 := hid ((b3.block _ (blk_lt ((bb.block _ (blk_lt R2.out)).trans R2.out))).trans ((bb.block _ (blk_lt R2.out)).trans R2.out))
      clear b3 bb)
   | (at_builtin
      refine wpList_append_own _ rfl (.tmp 23) (.tmp 27) 44 rfl w.heap.size 9 i0 _ 1 16 Tryz.underlying44 HI.out HZ0.out HZ1.out HZ2.out rfl (by omega) _ 1 _ rfl (P3x.out.alloc _) ⟨w3.heap.size, 0, none⟩ 1 1 (sG [X2]) rfl rfl (news_g w3 X2 _) (sG_one _) (by decide) (by decide) (by rw [World.size_alloc]; exact Nat.le_succ_of_le E3.out.size) ?_
      intro v5 w5 o5 h5 _
      rw [← sG_app] at o5
      have P0 := hid (show w5.ownsRow w.heap.size 9 1 v5 2 (sG [X1, X2]) from o5)
      have B0 := hid ((E3.out.alloc E3.out.size _).grown h5 (by rw [World.size_alloc]; exact Nat.le_succ_of_le E3.out.size) (fun g hg => (P3x.out.lt g hg).1))
      have S0 := hid ((h5.block _ (by rw [World.size_alloc]; exact Nat.lt_succ_of_lt (blk_lt T3.out)) (fun e => ne_type16 (((below16 w3 (.cells #[.string X2] 9)).block _ (blk_lt T3.out)).trans T3.out) ((below16 w3 _).block w1.heap.size (blk_lt R3.out) |>.trans R3.out) (by decide) (Option.some.inj e))).trans (((below16 w3 (.cells #[.string X2] 9)).block _ (blk_lt T3.out)).trans T3.out))
      clear o5 h5)
   | fail)
  obtain ⟨qa, ca, hqa⟩ := own16 P0.out
  subst hqa
  obtain ⟨d0, d1⟩ := lbox19 S0.out
  go_wp2_with fail
  go_region_held3 (fun w' => w'.cell? ⟨w.heap.size, 0, none⟩ = some (.int .u8 (m : Nat)) ∧ w'.cell? ⟨w.heap.size, 1, none⟩ = some (.slice q n c))
   (first | exact ⟨d0, d1⟩ | (with_reducible exact ⟨D1.out.1, D1.out.2⟩) | (with_reducible exact ⟨D2.out.1, D2.out.2⟩) | (with_reducible exact ⟨D3.out.1, D3.out.2⟩) | (with_reducible exact ⟨D4.out.1, D4.out.2⟩) | (with_reducible exact ⟨D5.out.1, D5.out.2⟩) | (with_reducible exact ⟨D6.out.1, D6.out.2⟩))
   (first
   | (go_at_call 83; ((with_reducible refine (HEO.out _ B0.out.drew).mono ?_); rintro e x1 ⟨q1, c1, rfl, o1, b⟩)
      have bb := (((Below.refl w5.heap.size w5).drew).trans b)
      have B1 := hid (thn16 B0.out bb); have P1 := hid (owns_on16 P0.out bb); have S1 := hid ((bb.block _ (blk_lt S0.out)).trans S0.out); have D1 := hid (lbox19 S1.out)
      have L1 := hid (HLO.out x1 q1 c1 (wrd_own o1)); clear o1 b bb)
   | (go_at_call 36; ((with_reducible refine (L1.out).mono ?_); rintro e x2 ⟨q2, c2, rfl, o2, b⟩)
      have B2 := hid (thn16 B1.out b); have P2 := hid (owns_on16 P1.out b); have S2 := hid ((b.block _ (blk_lt S1.out)).trans S1.out); have D2 := hid (lbox19 S2.out)
      have O2 := hid (owns_low16 o2 B1.out.size); clear o2 b)
   | (go_at_call 83; ((with_reducible refine (HEA.out _ B2.out).mono ?_); rintro e x3 ⟨q3, c3, rfl, o3, b⟩)
      have B3 := hid (thn16 B2.out b); have P3 := hid (owns_on16 P2.out b); have S3 := hid ((b.block _ (blk_lt S2.out)).trans S2.out); have D3 := hid (lbox19 S3.out)
      have O2b := hid (owns_on16 O2.out b)
      have L3 := hid (HLA.out x3 q3 c3 (wrd_own o3)); clear o3 b)
   | (go_at_call 36; ((with_reducible refine (L3.out).mono ?_); rintro e x4 ⟨q4, c4, rfl, o4, b⟩)
      have B4 := hid (thn16 B3.out b); have P4 := hid (owns_on16 P3.out b); have S4 := hid ((b.block _ (blk_lt S3.out)).trans S3.out); have D4 := hid (lbox19 S4.out)
      have O2c := hid (owns_on16 O2b.out b)
      have O4 := hid (owns_low16 o4 B3.out.size)
      have bA := below16 x4 (.cells #[.slice qa 2 ca, .slice q2 (losW k ⟨#[]⟩ (entW ownB L)).length c2, .slice q4 (losW k (⟨#[126]⟩ : ByteArray) (entW actB L)).length c4] 44)
      have S5 := hid ((bA.block _ (blk_lt S4.out)).trans S4.out)
      have D5 := hid (lbox19 S5.out)
      have C5 := hid (show Calls Tryz.prog 35 #[.slice (some ⟨x4.heap.size, 0, none⟩) 3 3] (x4.alloc (.cells #[.slice qa 2 ca, .slice q2 (losW k ⟨#[]⟩ (entW ownB L)).length c2, .slice q4 (losW k (⟨#[126]⟩ : ByteArray) (entW actB L)).length c4] 44)) (fun e w' => OutS (x4.alloc (.cells #[.slice qa 2 ca, .slice q2 (losW k ⟨#[]⟩ (entW ownB L)).length c2, .slice q4 (losW k (⟨#[126]⟩ : ByteArray) (entW actB L)).length c4] 44)) BB.flatten e w') from HCC.out x4 qa q2 q4 2 ca c2 c4 (wrd_own P4.out) (wrd_own O2c.out) (wrd_own O4.out))
      clear o4 b bA)
   | (go_at_call 35; ((with_reducible refine (C5.out).mono ?_); rintro e x6 ⟨q6, c6, rfl, o6, b6⟩)
      have D6 := hid (lbox19 ((b6.block _ (blk_lt S5.out)).trans S5.out))
      skip))
  all_goals
   go_wp2_with fail
   go_ret
   exact ⟨q6, c6, by first | rfl | (rw [List.length_flatten]; rfl), owns_low16 o6 (by rw [World.size_alloc]; exact Nat.le_succ_of_le B4.out.size), thn16 (B4.out.alloc B4.out.size _) b6⟩
 | some a =>
  by_cases ha : a = 0
  ·subst ha
   rw [show baseW k L = [X1] by unfold baseW; rw [hf, if_pos rfl, hX1]]
   rw [hf] at HFI
   simp only [Option.getD_some, Option.isSome_some] at HFI
   have HCC := hid (fun (x : World) (qa q2 q4 : Option Addr) (na ca c2 c4 : Nat) (h1 : WrdAt x qa na ca [X1]) (h2 : WrdAt x q2 (losW k ⟨#[]⟩ (entW ownB L)).length c2 (losW k ⟨#[]⟩ (entW ownB L))) (h4 : WrdAt x q4 (losW k (⟨#[126]⟩ : ByteArray) (entW actB L)).length c4 (losW k (⟨#[126]⟩ : ByteArray) (entW actB L))) => (concat_lit19 [(qa, na, ca), (q2, (losW k ⟨#[]⟩ (entW ownB L)).length, c2), (q4, (losW k (⟨#[126]⟩ : ByteArray) (entW actB L)).length, c4)] [[X1], losW k ⟨#[]⟩ (entW ownB L), losW k (⟨#[126]⟩ : ByteArray) (entW actB L)] x rfl (show 3 ≤ 100 by decide) (fun k t ws e1 e2 => by
    match k with
    | 0 => injection e1 with e1; injection e2 with e2; subst e1 e2; exact h1
    | 1 => injection e1 with e1; injection e2 with e2; subst e1 e2; exact h2
    | 2 => injection e1 with e1; injection e2 with e2; subst e1 e2; exact h4
    | j + 3 => simp at e1) (by
    have a1 := los_len19 k ⟨#[]⟩ (entW ownB L)
    have a2 := los_len19 k (⟨#[126]⟩ : ByteArray) (entW actB L)
    simp only [List.flatten_cons, List.flatten_nil, List.length_append, List.length_cons, List.length_nil]
    omega) : Calls Tryz.prog 35 #[.slice (some ⟨x.heap.size, 0, none⟩) 3 3] (x.alloc (.cells #[.slice qa na ca, .slice q2 (losW k ⟨#[]⟩ (entW ownB L)).length c2, .slice q4 (losW k (⟨#[126]⟩ : ByteArray) (entW actB L)).length c4] 44)) (fun e w' => OutS (x.alloc (.cells #[.slice qa na ca, .slice q2 (losW k ⟨#[]⟩ (entW ownB L)).length c2, .slice q4 (losW k (⟨#[126]⟩ : ByteArray) (entW actB L)).length c4] 44)) [[X1], losW k ⟨#[]⟩ (entW ownB L), losW k (⟨#[126]⟩ : ByteArray) (entW actB L)].flatten e w')))
   obtain ⟨BB, hBB⟩ : ∃ B, B = [[X1], losW k ⟨#[]⟩ (entW ownB L), losW k (⟨#[126]⟩ : ByteArray) (entW actB L)] := ⟨_, rfl⟩
   rw [← hBB] at HCC ⊢
   clear h hl hs hn hG hlo hla BW0 hW hX1 hf hBB hi0 hz0 hz1 hz2 hk HLT
   go_enter Tryz.func82, Tryz.ntmps82
   go_wp2_with (first
    | (go_at_call 79; rw [← HWW.out]; go_loud ((with_reducible refine (HLR.out W _ HWS.out).mono ?_); rintro e w1 ⟨rfl, b1⟩)
       have E1 := hid ((BW.out.alloc BW.out.size _).trans (b1.mono (by rw [World.size_alloc]; exact Nat.le_succ_of_le BW.out.size)))
       have T1 := hid ((b1.block _ (by rw [World.size_alloc]; exact Nat.lt_succ_of_lt (blk_lt SW.out))).trans (((below16 W _).block _ (blk_lt SW.out)).trans SW.out))
       have P1x := hid (one_row19 w1 X1 (B := w.heap.size) E1.out.size)
       have R1 := hid (show (w1.alloc (.cells #[.string X1] 9)).heap[w1.heap.size]? = some (.cells #[.string X1] 9 (0, 0)) from heap_alloc_new w1 _)
       have E2 := hid (E1.out.alloc E1.out.size (.cells #[.string X1] 9))
       have T2 := hid (((below16 w1 (.cells #[.string X1] 9)).block _ (blk_lt T1.out)).trans T1.out)
       obtain ⟨e0, e1⟩ := lbox19 T2.out
       clear b1)
    | (go_at_call 112; go_loud ((with_reducible refine (HFI.out _ E2.out).mono ?_); rintro e w2 ⟨rfl, b2⟩)
       have B0a := hid (thn16 E2.out b2)
       have P0a := hid (owns_on16 P1x.out b2)
       have S0a := hid ((b2.block _ (blk_lt T2.out)).trans T2.out)
       have R2 := hid ((b2.block _ (blk_lt R1.out)).trans R1.out)
       clear b2)
    | fail)
   have B0 := B0a
   have P0 := P0a
   have S0 := S0a
   obtain ⟨d0, d1⟩ := lbox19 S0.out
   go_wp2_with fail
   go_region_held3 (fun w' => w'.cell? ⟨w.heap.size, 0, none⟩ = some (.int .u8 (m : Nat)) ∧ w'.cell? ⟨w.heap.size, 1, none⟩ = some (.slice q n c))
    (first | exact ⟨d0, d1⟩ | (with_reducible exact ⟨D1.out.1, D1.out.2⟩) | (with_reducible exact ⟨D2.out.1, D2.out.2⟩) | (with_reducible exact ⟨D3.out.1, D3.out.2⟩) | (with_reducible exact ⟨D4.out.1, D4.out.2⟩) | (with_reducible exact ⟨D5.out.1, D5.out.2⟩) | (with_reducible exact ⟨D6.out.1, D6.out.2⟩))
    (first
    | (go_at_call 83; ((with_reducible refine (HEO.out _ B0.out.drew).mono ?_); rintro e x1 ⟨q1, c1, rfl, o1, b⟩)
       have bb := (((Below.refl w2.heap.size w2).drew).trans b)
       have B1 := hid (thn16 B0.out bb); have P1 := hid (owns_on16 P0.out bb); have S1 := hid ((bb.block _ (blk_lt S0.out)).trans S0.out); have D1 := hid (lbox19 S1.out)
       have L1 := hid (HLO.out x1 q1 c1 (wrd_own o1)); clear o1 b bb)
    | (go_at_call 36; ((with_reducible refine (L1.out).mono ?_); rintro e x2 ⟨q2, c2, rfl, o2, b⟩)
       have B2 := hid (thn16 B1.out b); have P2 := hid (owns_on16 P1.out b); have S2 := hid ((b.block _ (blk_lt S1.out)).trans S1.out); have D2 := hid (lbox19 S2.out)
       have O2 := hid (owns_low16 o2 B1.out.size); clear o2 b)
    | (go_at_call 83; ((with_reducible refine (HEA.out _ B2.out).mono ?_); rintro e x3 ⟨q3, c3, rfl, o3, b⟩)
       have B3 := hid (thn16 B2.out b); have P3 := hid (owns_on16 P2.out b); have S3 := hid ((b.block _ (blk_lt S2.out)).trans S2.out); have D3 := hid (lbox19 S3.out)
       have O2b := hid (owns_on16 O2.out b)
       have L3 := hid (HLA.out x3 q3 c3 (wrd_own o3)); clear o3 b)
    | (go_at_call 36; ((with_reducible refine (L3.out).mono ?_); rintro e x4 ⟨q4, c4, rfl, o4, b⟩)
       have B4 := hid (thn16 B3.out b); have P4 := hid (owns_on16 P3.out b); have S4 := hid ((b.block _ (blk_lt S3.out)).trans S3.out); have D4 := hid (lbox19 S4.out)
       have O2c := hid (owns_on16 O2b.out b)
       have O4 := hid (owns_low16 o4 B3.out.size)
       have bA := below16 x4 (.cells #[.slice (some ⟨w1.heap.size, 0, none⟩) 1 1, .slice q2 (losW k ⟨#[]⟩ (entW ownB L)).length c2, .slice q4 (losW k (⟨#[126]⟩ : ByteArray) (entW actB L)).length c4] 44)
       have S5 := hid ((bA.block _ (blk_lt S4.out)).trans S4.out)
       have D5 := hid (lbox19 S5.out)
       have C5 := hid (show Calls Tryz.prog 35 #[.slice (some ⟨x4.heap.size, 0, none⟩) 3 3] (x4.alloc (.cells #[.slice (some ⟨w1.heap.size, 0, none⟩) 1 1, .slice q2 (losW k ⟨#[]⟩ (entW ownB L)).length c2, .slice q4 (losW k (⟨#[126]⟩ : ByteArray) (entW actB L)).length c4] 44)) (fun e w' => OutS (x4.alloc (.cells #[.slice (some ⟨w1.heap.size, 0, none⟩) 1 1, .slice q2 (losW k ⟨#[]⟩ (entW ownB L)).length c2, .slice q4 (losW k (⟨#[126]⟩ : ByteArray) (entW actB L)).length c4] 44)) BB.flatten e w') from HCC.out x4 (some ⟨w1.heap.size, 0, none⟩) q2 q4 1 1 c2 c4 (wrd_own P4.out) (wrd_own O2c.out) (wrd_own O4.out))
       clear o4 b bA)
    | (go_at_call 35; ((with_reducible refine (C5.out).mono ?_); rintro e x6 ⟨q6, c6, rfl, o6, b6⟩)
       have D6 := hid (lbox19 ((b6.block _ (blk_lt S5.out)).trans S5.out))
       skip))
   all_goals
    go_wp2_with fail
    go_ret
    exact ⟨q6, c6, by first | rfl | (rw [List.length_flatten]; rfl), owns_low16 o6 (by rw [World.size_alloc]; exact Nat.le_succ_of_le B4.out.size), thn16 (B4.out.alloc B4.out.size _) b6⟩
  ·obtain ⟨X2, hX2⟩ : ∃ x, x = lineW k (⟨#[126]⟩ : ByteArray) [kRdW] := ⟨_, rfl⟩
   rw [← hX2] at HLT
   rw [show baseW k L = [X1, X2] by unfold baseW; rw [hf, if_neg (by intro e; exact ha (Option.some.inj e)), hX1, hX2]]
   rw [hf] at HFI
   simp only [Option.getD_some, Option.isSome_some] at HFI
   have ta : ((a : Int) == 0) = false := beq_eq_false_iff_ne.2 (by omega)
   have tb : ((a : Int) != 0) = true := bne_iff_ne.2 (by omega)
   have HCC := hid (fun (x : World) (qa q2 q4 : Option Addr) (na ca c2 c4 : Nat) (h1 : WrdAt x qa na ca [X1, X2]) (h2 : WrdAt x q2 (losW k ⟨#[]⟩ (entW ownB L)).length c2 (losW k ⟨#[]⟩ (entW ownB L))) (h4 : WrdAt x q4 (losW k (⟨#[126]⟩ : ByteArray) (entW actB L)).length c4 (losW k (⟨#[126]⟩ : ByteArray) (entW actB L))) => (concat_lit19 [(qa, na, ca), (q2, (losW k ⟨#[]⟩ (entW ownB L)).length, c2), (q4, (losW k (⟨#[126]⟩ : ByteArray) (entW actB L)).length, c4)] [[X1, X2], losW k ⟨#[]⟩ (entW ownB L), losW k (⟨#[126]⟩ : ByteArray) (entW actB L)] x rfl (show 3 ≤ 100 by decide) (fun k t ws e1 e2 => by
    match k with
    | 0 => injection e1 with e1; injection e2 with e2; subst e1 e2; exact h1
    | 1 => injection e1 with e1; injection e2 with e2; subst e1 e2; exact h2
    | 2 => injection e1 with e1; injection e2 with e2; subst e1 e2; exact h4
    | j + 3 => simp at e1) (by
    have a1 := los_len19 k ⟨#[]⟩ (entW ownB L)
    have a2 := los_len19 k (⟨#[126]⟩ : ByteArray) (entW actB L)
    simp only [List.flatten_cons, List.flatten_nil, List.length_append, List.length_cons, List.length_nil]
    omega) : Calls Tryz.prog 35 #[.slice (some ⟨x.heap.size, 0, none⟩) 3 3] (x.alloc (.cells #[.slice qa na ca, .slice q2 (losW k ⟨#[]⟩ (entW ownB L)).length c2, .slice q4 (losW k (⟨#[126]⟩ : ByteArray) (entW actB L)).length c4] 44)) (fun e w' => OutS (x.alloc (.cells #[.slice qa na ca, .slice q2 (losW k ⟨#[]⟩ (entW ownB L)).length c2, .slice q4 (losW k (⟨#[126]⟩ : ByteArray) (entW actB L)).length c4] 44)) [[X1, X2], losW k ⟨#[]⟩ (entW ownB L), losW k (⟨#[126]⟩ : ByteArray) (entW actB L)].flatten e w')))
   obtain ⟨BB, hBB⟩ : ∃ B, B = [[X1, X2], losW k ⟨#[]⟩ (entW ownB L), losW k (⟨#[126]⟩ : ByteArray) (entW actB L)] := ⟨_, rfl⟩
   rw [← hBB] at HCC ⊢
   clear h hl hs hn hG hlo hla BW0 hW hX1 hX2 hf hBB hi0 hz0 hz1 hz2 hk ha
   go_enter Tryz.func82, Tryz.ntmps82
   go_wp2_with (first
    | (go_at_call 79; rw [← HWW.out]; go_loud ((with_reducible refine (HLR.out W _ HWS.out).mono ?_); rintro e w1 ⟨rfl, b1⟩)
       have E1 := hid ((BW.out.alloc BW.out.size _).trans (b1.mono (by rw [World.size_alloc]; exact Nat.le_succ_of_le BW.out.size)))
       have T1 := hid ((b1.block _ (by rw [World.size_alloc]; exact Nat.lt_succ_of_lt (blk_lt SW.out))).trans (((below16 W _).block _ (blk_lt SW.out)).trans SW.out))
       have P1x := hid (one_row19 w1 X1 (B := w.heap.size) E1.out.size)
       have R1 := hid (show (w1.alloc (.cells #[.string X1] 9)).heap[w1.heap.size]? = some (.cells #[.string X1] 9 (0, 0)) from heap_alloc_new w1 _)
       have E2 := hid (E1.out.alloc E1.out.size (.cells #[.string X1] 9))
       have T2 := hid (((below16 w1 (.cells #[.string X1] 9)).block _ (blk_lt T1.out)).trans T1.out)
       obtain ⟨e0, e1⟩ := lbox19 T2.out
       clear b1)
    | (go_at_call 112; go_loud ((with_reducible refine (HFI.out _ E2.out).mono ?_); rintro e w2 ⟨rfl, b2⟩)
       have B0a := hid (thn16 E2.out b2)
       have P0a := hid (owns_on16 P1x.out b2)
       have S0a := hid ((b2.block _ (blk_lt T2.out)).trans T2.out)
       have R2 := hid ((b2.block _ (blk_lt R1.out)).trans R1.out)
       clear b2)
    | (go_at_call 79; ((with_reducible refine (HLT.out _).mono ?_); rintro e w3 ⟨rfl, b3⟩)
       have bb := (below16 w2 (.cells #[.string (⟨#[114, 101, 97, 100]⟩ : ByteArray)] 9))
       have E3 := hid (thn16 (thn16 B0a.out bb) b3)
       have P3x := hid (owns_on16 (owns_on16 P0a.out bb) b3)
       have T3 := hid ((b3.block _ (blk_lt ((bb.block _ (blk_lt S0a.out)).trans S0a.out))).trans ((bb.block _ (blk_lt S0a.out)).trans S0a.out))
       have R3 := hid ((b3.block _ (blk_lt ((bb.block _ (blk_lt R2.out)).trans R2.out))).trans ((bb.block _ (blk_lt R2.out)).trans R2.out))
       clear b3 bb)
    | (at_builtin
       refine wpList_append_own _ rfl (.tmp 23) (.tmp 27) 44 rfl w.heap.size 9 i0 _ 1 16 Tryz.underlying44 HI.out HZ0.out HZ1.out HZ2.out rfl (by omega) _ 1 _ rfl (P3x.out.alloc _) ⟨w3.heap.size, 0, none⟩ 1 1 (sG [X2]) rfl rfl (news_g w3 X2 _) (sG_one _) (by decide) (by decide) (by rw [World.size_alloc]; exact Nat.le_succ_of_le E3.out.size) ?_
       intro v5 w5 o5 h5 _
       rw [← sG_app] at o5
       have P0 := hid (show w5.ownsRow w.heap.size 9 1 v5 2 (sG [X1, X2]) from o5)
       have B0 := hid ((E3.out.alloc E3.out.size _).grown h5 (by rw [World.size_alloc]; exact Nat.le_succ_of_le E3.out.size) (fun g hg => (P3x.out.lt g hg).1))
       have S0 := hid ((h5.block _ (by rw [World.size_alloc]; exact Nat.lt_succ_of_lt (blk_lt T3.out)) (fun e => ne_type16 (((below16 w3 (.cells #[.string X2] 9)).block _ (blk_lt T3.out)).trans T3.out) ((below16 w3 _).block w1.heap.size (blk_lt R3.out) |>.trans R3.out) (by decide) (Option.some.inj e))).trans (((below16 w3 (.cells #[.string X2] 9)).block _ (blk_lt T3.out)).trans T3.out))
       clear o5 h5)
    | fail)
   obtain ⟨qa, ca, hqa⟩ := own16 P0.out
   subst hqa
   obtain ⟨d0, d1⟩ := lbox19 S0.out
   go_wp2_with fail
   go_region_held3 (fun w' => w'.cell? ⟨w.heap.size, 0, none⟩ = some (.int .u8 (m : Nat)) ∧ w'.cell? ⟨w.heap.size, 1, none⟩ = some (.slice q n c))
    (first | exact ⟨d0, d1⟩ | (with_reducible exact ⟨D1.out.1, D1.out.2⟩) | (with_reducible exact ⟨D2.out.1, D2.out.2⟩) | (with_reducible exact ⟨D3.out.1, D3.out.2⟩) | (with_reducible exact ⟨D4.out.1, D4.out.2⟩) | (with_reducible exact ⟨D5.out.1, D5.out.2⟩) | (with_reducible exact ⟨D6.out.1, D6.out.2⟩))
    (first
    | (go_at_call 83; ((with_reducible refine (HEO.out _ B0.out.drew).mono ?_); rintro e x1 ⟨q1, c1, rfl, o1, b⟩)
       have bb := (((Below.refl w5.heap.size w5).drew).trans b)
       have B1 := hid (thn16 B0.out bb); have P1 := hid (owns_on16 P0.out bb); have S1 := hid ((bb.block _ (blk_lt S0.out)).trans S0.out); have D1 := hid (lbox19 S1.out)
       have L1 := hid (HLO.out x1 q1 c1 (wrd_own o1)); clear o1 b bb)
    | (go_at_call 36; ((with_reducible refine (L1.out).mono ?_); rintro e x2 ⟨q2, c2, rfl, o2, b⟩)
       have B2 := hid (thn16 B1.out b); have P2 := hid (owns_on16 P1.out b); have S2 := hid ((b.block _ (blk_lt S1.out)).trans S1.out); have D2 := hid (lbox19 S2.out)
       have O2 := hid (owns_low16 o2 B1.out.size); clear o2 b)
    | (go_at_call 83; ((with_reducible refine (HEA.out _ B2.out).mono ?_); rintro e x3 ⟨q3, c3, rfl, o3, b⟩)
       have B3 := hid (thn16 B2.out b); have P3 := hid (owns_on16 P2.out b); have S3 := hid ((b.block _ (blk_lt S2.out)).trans S2.out); have D3 := hid (lbox19 S3.out)
       have O2b := hid (owns_on16 O2.out b)
       have L3 := hid (HLA.out x3 q3 c3 (wrd_own o3)); clear o3 b)
    | (go_at_call 36; ((with_reducible refine (L3.out).mono ?_); rintro e x4 ⟨q4, c4, rfl, o4, b⟩)
       have B4 := hid (thn16 B3.out b); have P4 := hid (owns_on16 P3.out b); have S4 := hid ((b.block _ (blk_lt S3.out)).trans S3.out); have D4 := hid (lbox19 S4.out)
       have O2c := hid (owns_on16 O2b.out b)
       have O4 := hid (owns_low16 o4 B3.out.size)
       have bA := below16 x4 (.cells #[.slice qa 2 ca, .slice q2 (losW k ⟨#[]⟩ (entW ownB L)).length c2, .slice q4 (losW k (⟨#[126]⟩ : ByteArray) (entW actB L)).length c4] 44)
       have S5 := hid ((bA.block _ (blk_lt S4.out)).trans S4.out)
       have D5 := hid (lbox19 S5.out)
       have C5 := hid (show Calls Tryz.prog 35 #[.slice (some ⟨x4.heap.size, 0, none⟩) 3 3] (x4.alloc (.cells #[.slice qa 2 ca, .slice q2 (losW k ⟨#[]⟩ (entW ownB L)).length c2, .slice q4 (losW k (⟨#[126]⟩ : ByteArray) (entW actB L)).length c4] 44)) (fun e w' => OutS (x4.alloc (.cells #[.slice qa 2 ca, .slice q2 (losW k ⟨#[]⟩ (entW ownB L)).length c2, .slice q4 (losW k (⟨#[126]⟩ : ByteArray) (entW actB L)).length c4] 44)) BB.flatten e w') from HCC.out x4 qa q2 q4 2 ca c2 c4 (wrd_own P4.out) (wrd_own O2c.out) (wrd_own O4.out))
       clear o4 b bA)
    | (go_at_call 35; ((with_reducible refine (C5.out).mono ?_); rintro e x6 ⟨q6, c6, rfl, o6, b6⟩)
       have D6 := hid (lbox19 ((b6.block _ (blk_lt S5.out)).trans S5.out))
       skip))
   all_goals
    go_wp2_with fail
    go_ret
    exact ⟨q6, c6, by first | rfl | (rw [List.length_flatten]; rfl), owns_low16 o6 (by rw [World.size_alloc]; exact Nat.le_succ_of_le B4.out.size), thn16 (B4.out.alloc B4.out.size _) b6⟩
end Go.Proofs.YtlenjfodjkhpmaaGreatDoor
