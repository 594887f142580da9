/- The codes that are known, their names and classes, as the document's own table has them: what its All returns. No condition. What the document's own Of, Known, WithX and Code of a code and of a name return. No condition. What the document's own Known, WithX and Code return. No condition but that a name is at most 2 to the 40th bytes long. -/
import Derived.Test.YtlneiiljdghmjaaDoorIb
import Derived.WalkLawsBesides
namespace Go.Proofs.YtlneiiljdghmjaaDoor
open Go.RowKit
set_option linter.unusedVariables false

/-- A code, its name, its class. -/
structure One where
  code : Int
  name : ByteArray
  cls : Int
def oneC (o : One) : List Value := [.int .u16 o.code, .string o.name, .int .u8 o.cls]
def onesC (l : List One) : List Value := l.flatMap oneC
def baseL : List One := [⟨32, ⟨#[108, 100, 97, 98, 115]⟩, 1⟩, ⟨128, ⟨#[108, 100, 108, 101, 110]⟩, 1⟩, ⟨0, ⟨#[108, 100, 105]⟩, 1⟩, ⟨96, ⟨#[108, 100, 109]⟩, 1⟩, ⟨129, ⟨#[108, 100, 120, 108, 101, 110]⟩, 1⟩, ⟨1, ⟨#[108, 100, 120, 105]⟩, 1⟩, ⟨97, ⟨#[108, 100, 120, 109]⟩, 1⟩, ⟨2, ⟨#[115, 116]⟩, 2⟩, ⟨3, ⟨#[115, 116, 120]⟩, 2⟩, ⟨132, ⟨#[110, 101, 103]⟩, 3⟩, ⟨5, ⟨#[106, 97]⟩, 4⟩, ⟨6, ⟨#[114, 101, 116]⟩, 5⟩, ⟨22, ⟨#[114, 101, 116, 97]⟩, 5⟩, ⟨7, ⟨#[116, 97, 120]⟩, 6⟩, ⟨135, ⟨#[116, 120, 97]⟩, 6⟩]
def numS : List ByteArray := [⟨#[97, 100, 100]⟩, ⟨#[115, 117, 98]⟩, ⟨#[109, 117, 108]⟩, ⟨#[100, 105, 118]⟩, ⟨#[111, 114]⟩, ⟨#[97, 110, 100]⟩, ⟨#[108, 115, 104]⟩, ⟨#[114, 115, 104]⟩]
def jmpS : List ByteArray := [⟨#[106, 101, 113]⟩, ⟨#[106, 103, 116]⟩, ⟨#[106, 103, 101]⟩, ⟨#[106, 115, 101, 116]⟩]
def xS : ByteArray := ⟨#[120]⟩
def numP (k : Nat) : List One := (List.range k).flatMap fun (j : Nat) => [⟨16 * (j : Int) + 4, numS.getD j ByteArray.empty, 3⟩, ⟨16 * (j : Int) + 12, numS.getD j ByteArray.empty ++ xS, 3⟩]
def jmpP (k : Nat) : List One := (List.range k).flatMap fun (j : Nat) => [⟨16 * (j : Int) + 21, jmpS.getD j ByteArray.empty, 4⟩, ⟨16 * (j : Int) + 29, jmpS.getD j ByteArray.empty ++ xS, 4⟩]
def xorL : List One := [⟨164, ⟨#[120, 111, 114]⟩, 3⟩, ⟨172, ⟨#[120, 111, 114, 120]⟩, 3⟩]
def allL : List One := baseL ++ numP 8 ++ xorL ++ jmpP 4
theorem numP_succ (k : Nat) : numP (k + 1) = numP k ++ [⟨16 * (k : Int) + 4, numS.getD k ByteArray.empty, 3⟩, ⟨16 * (k : Int) + 12, numS.getD k ByteArray.empty ++ xS, 3⟩] := by
  unfold numP; rw [List.range_succ, List.flatMap_append]; simp
theorem jmpP_succ (k : Nat) : jmpP (k + 1) = jmpP k ++ [⟨16 * (k : Int) + 21, jmpS.getD k ByteArray.empty, 4⟩, ⟨16 * (k : Int) + 29, jmpS.getD k ByteArray.empty ++ xS, 4⟩] := by
  unfold jmpP; rw [List.range_succ, List.flatMap_append]; simp
theorem onesC_app (l m : List One) : onesC (l ++ m) = onesC l ++ onesC m := List.flatMap_append
theorem onesC_two (l m : List One) (a b : One) : onesC (l ++ (m ++ [a, b])) = onesC (l ++ m) ++ oneC a ++ oneC b := by
  rw [← List.append_assoc, onesC_app, List.append_assoc (onesC (l ++ m))]
  congr 1
theorem oneC_one (o : One) : ∀ v ∈ oneC o, v.oneCell' = true := by
  intro v hi
  simp only [oneC, List.mem_cons, List.not_mem_nil, or_false] at hi
  rcases hi with rfl | rfl | rfl <;> rfl
theorem onesC_length : ∀ (l : List One), (onesC l).length = l.length * 3
  | [] => rfl
  | i :: r => by
    have := onesC_length r
    show (oneC i ++ onesC r).length = _
    rw [List.length_append, this, List.length_cons]
    show 3 + r.length * 3 = _
    omega
theorem numP_length : ∀ (k : Nat), (numP k).length = 2 * k
  | 0 => rfl
  | k + 1 => by rw [numP_succ, List.length_append, numP_length k]; simp; omega
theorem jmpP_length : ∀ (k : Nat), (jmpP k).length = 2 * k
  | 0 => rfl
  | k + 1 => by rw [jmpP_succ, List.length_append, jmpP_length k]; simp; omega
theorem one_info : (Tryd.prog.info? 68).map (fun i => (i.zero, i.size, i.bytes)) = some (some (.agg #[.int .u16 0, .string ⟨#[]⟩, .int .u8 0]), 3, 32) := by kernel_rfl
/-- An owned row and a block of another element type are two blocks. -/
theorem own_ne {w : World} {B n size g : Nat} {e t : TypeId} {v : Value} {xs : List Value} {cs : Array Value} (h : w.ownsRow B e size v n xs) (hb : w.heap[g]? = some (.cells cs t (0, 0))) (hne : e ≠ t) : v.ownBlock ≠ some g := by
  rcases h.2 with ⟨rfl, _⟩ | ⟨g', cap, cur, rfl, _, hh, _⟩
  · intro he; cases he
  · intro he
    injection he with he
    have he : g' = g := he
    subst he
    rw [hh] at hb
    injection hb with hb
    injection hb with _ hb
    exact hne hb
theorem own_some {w : World} {B n size : Nat} {e : TypeId} {v : Value} {xs : List Value} (h : w.ownsRow B e size v n xs) (hn : 0 < n) : ∃ g c, v = .slice (some ⟨g, 0, none⟩) n c := by
  rcases h.2 with ⟨_, h0⟩ | ⟨g, cap, cur, rfl, _⟩
  · omega
  · exact ⟨g, cap, rfl⟩
theorem blk_alloc {w : World} {g : Nat} {o o' : Obj} (h : w.heap[g]? = some o) : (w.alloc o').heap[g]? = some o := by
  have hl : g < w.heap.size := by
    rcases Nat.lt_or_ge g w.heap.size with hlt | hge
    · exact hlt
    · rw [Array.getElem?_eq_none hge] at h; cases h
  rw [Below.heap_alloc w o' g hl]; exact h
theorem blk_grown {w w' : World} {g : Nat} {o : Obj} {row : Option Nat} (h : w.heap[g]? = some o) (hg : w.grownBy w' row) (hne : row ≠ some g) : w'.heap[g]? = some o := by
  have hl : g < w.heap.size := by
    rcases Nat.lt_or_ge g w.heap.size with hlt | hge
    · exact hlt
    · rw [Array.getElem?_eq_none hge] at h; cases h
  rw [hg.block g hl (fun e => hne e.symm)]; exact h
theorem numS_cell {w : World} {g k : Nat} (h : w.heap[g]? = some (.cells (numS.map Value.string).toArray 9 (0, 0))) (hk : k < 8) : w.cell? ⟨g, k, none⟩ = some (.string (numS.getD k ByteArray.empty)) := by
  rw [cell_of_row w g k _ _ (0, 0) h, List.getElem?_toArray, List.getElem?_map, List.getD_eq_getElem?_getD, List.getElem?_eq_getElem (show k < numS.length from hk)]; rfl
theorem jmpS_cell {w : World} {g k : Nat} (h : w.heap[g]? = some (.cells (jmpS.map Value.string).toArray 9 (0, 0))) (hk : k < 4) : w.cell? ⟨g, k, none⟩ = some (.string (jmpS.getD k ByteArray.empty)) := by
  rw [cell_of_row w g k _ _ (0, 0) h, List.getElem?_toArray, List.getElem?_map, List.getD_eq_getElem?_getD, List.getElem?_eq_getElem (show k < jmpS.length from hk)]; rfl
theorem numS_size (k : Nat) : (numS.getD k ByteArray.empty).size ≤ 5 := by
  match k with
  | 0 | 1 | 2 | 3 | 4 | 5 | 6 | 7 => decide
  | k + 8 => rw [List.getD_eq_getElem?_getD, List.getElem?_eq_none (by show 8 ≤ k + 8; omega)]; decide
theorem jmpS_size (k : Nat) : (jmpS.getD k ByteArray.empty).size ≤ 5 := by
  match k with
  | 0 | 1 | 2 | 3 => decide
  | k + 4 => rw [List.getD_eq_getElem?_getD, List.getElem?_eq_none (by show 4 ≤ k + 4; omega)]; decide
set_option maxRecDepth 100000 in
set_option maxHeartbeats 4000000 in
theorem refAll_any (w : World) : Calls Tryd.prog 47 #[] w fun e w' => ∃ g c, e = .returned (.slice (some ⟨g, 0, none⟩) 41 c) ∧
    w'.ownsRow w.heap.size 68 3 (.slice (some ⟨g, 0, none⟩) 41 c) 41 (onesC allL) ∧ Below w.heap.size w w' := by
  obtain ⟨i0, hi, hz0, hz1, hz2⟩ := info_parts one_info
  have HI := Lib.hid hi
  have H0 := Lib.hid hz0
  have H1 := Lib.hid hz1
  have H2 := Lib.hid hz2
  clear hi hz0 hz1 hz2
  go_enter Tryd.func47, Tryd.ntmps47
  go_wp2_with fail
  have hown0 : ((w.alloc (.cells (onesC baseL).toArray 68)).alloc (.cells (numS.map Value.string).toArray 9)).ownsRow w.heap.size 68 3 (.slice (some ⟨w.heap.size, 0, none⟩) 15 15) 15 (onesC (baseL ++ numP 0)) :=
    (World.ownsRow_lit (size := 3) w (onesC baseL).toArray 15 (Nat.le_refl _) (by unfold maxLen; omega) rfl).alloc _
  have hblk0 : ((w.alloc (.cells (onesC baseL).toArray 68)).alloc (.cells (numS.map Value.string).toArray 9)).heap[w.heap.size + 1]? = some (.cells (numS.map Value.string).toArray 9 (0, 0)) := by
    have := heap_alloc_new (w.alloc (.cells (onesC baseL).toArray 68)) (.cells (numS.map Value.string).toArray 9)
    rwa [World.size_alloc] at this
  go_loopw [1, 3] (fun v i wr => ∃ k : Nat, k ≤ 8 ∧ i = .int .i64 k ∧ (∃ s : Nat, Hid (s = 15 + 2 * k) ∧ wr.ownsRow w.heap.size 68 3 v s (onesC (baseL ++ numP k))) ∧
      wr.heap[w.heap.size + 1]? = some (.cells (numS.map Value.string).toArray 9 (0, 0)) ∧ Below w.heap.size w wr) (fun _ i _ => 8 - (intOf i).toNat)
  case atStart => exact ⟨0, by omega, rfl, ⟨15, rfl, hown0⟩, hblk0, ((Below.refl _ _).alloc (Nat.le_refl _) _).alloc (by simp) _⟩
  case round =>
    clear hown0 hblk0
    obtain ⟨k, hk, rfl, ⟨s, hs, hown⟩, hblk, hb⟩ := hrel
    have HB := Lib.hid hblk
    clear hblk
    by_cases hlt : k < 8
    · have cell0 := numS_cell HB.out hlt
      have hsz := numS_size k
      have hst := Lib.hid (numP_succ k)
      have HC := Lib.hid (fun (W : World) (h : W.heap[w.heap.size + 1]? = some (.cells (numS.map Value.string).toArray 9 (0, 0))) => numS_cell h hlt)
      obtain ⟨S, hS⟩ : ∃ S, S = numS.getD k ByteArray.empty := ⟨_, rfl⟩
      rw [← hS] at cell0 hsz hst HC
      have hs40 : s ≤ 31 := by have := hs.out; omega
      clear hS
      go_wp2_with (first
        | (at_builtin
           refine wpList_append_own _ rfl (.tmp 29) (.tmp 39) 81 rfl w.heap.size 68 i0 _ 3 32 Tryd.underlying81 HI.out H0.out H1.out H2.out rfl (by omega) _ s (onesC (baseL ++ numP k)) rfl (hown.alloc _) ⟨wr.heap.size, 0, none⟩ 1 1 (oneC ⟨16 * (k : Int) + 4, S, 3⟩) rfl rfl (news_lit wr _ _ _ rfl) (oneC_one _) (by unfold maxLen; omega) (by omega) (by have := hb.size; simp; omega) ?_
           intro v1 w1 o1 hg1 _
           have hB1 := Lib.hid (blk_grown (blk_alloc HB.out) hg1 (own_ne hown HB.out (by decide)))
           have c1 := HC.out w1 hB1.out
           have hb1 := (hb.alloc hb.size _).grown hg1 (by have := hb.size; simp; omega) (fun g hg => (hown.lt g hg).1))
        | (at_builtin
           refine wpList_append_own _ rfl (.tmp 41) (.tmp 52) 81 rfl w.heap.size 68 i0 _ 3 32 Tryd.underlying81 HI.out H0.out H1.out H2.out rfl (by omega) _ (s + 1) _ rfl (o1.alloc _) ⟨w1.heap.size, 0, none⟩ 1 1 (oneC ⟨16 * (k : Int) + 12, S ++ xS, 3⟩) rfl rfl (news_lit w1 _ _ _ rfl) (oneC_one _) (by unfold maxLen; omega) (by omega) (by have := hb1.size; simp; omega) ?_
           intro v2 w2 o2 hg2 _))
      go_roundw
      case rel =>
        refine ⟨k + 1, by omega, by go_num, ⟨s + 2, by have := hs.out; show s + 2 = 15 + 2 * (k + 1); omega, ?_⟩, blk_grown (blk_alloc hB1.out) hg2 (own_ne o1 hB1.out (by decide)), (hb1.alloc hb1.size _).grown hg2 (by have := hb1.size; simp; omega) (fun g hg => (o1.lt g hg).1)⟩
        rw [hst.out]
        have e : onesC (baseL ++ (numP k ++ [⟨16 * (k : Int) + 4, S, 3⟩, ⟨16 * (k : Int) + 12, S ++ xS, 3⟩])) = onesC (baseL ++ numP k) ++ oneC ⟨16 * (k : Int) + 4, S, 3⟩ ++ oneC ⟨16 * (k : Int) + 12, S ++ xS, 3⟩ := by
          rw [← List.append_assoc, onesC_app, List.append_assoc]; rfl
        rw [e]; exact o2
      case measure => simp [intOf]; omega
    · obtain rfl : k = 8 := by omega
      obtain rfl : s = 31 := hs.out
      go_wp2_with (first
        | (at_builtin
           refine wpList_append_own _ rfl (.tmp 54) (.tmp 56) 81 rfl w.heap.size 68 i0 _ 3 32 Tryd.underlying81 HI.out H0.out H1.out H2.out rfl (by omega) _ 31 (onesC (baseL ++ numP 8)) rfl (hown.alloc _) ⟨wr.heap.size, 0, none⟩ 1 1 (oneC ⟨164, ⟨#[120, 111, 114]⟩, 3⟩) rfl rfl (news_lit wr _ _ _ rfl) (oneC_one _) (by unfold maxLen; omega) (by omega) (by have := hb.size; simp; omega) ?_
           intro v1 w1 o1 hg1 _
           have hb1 := (hb.alloc hb.size _).grown hg1 (by have := hb.size; simp; omega) (fun g hg => (hown.lt g hg).1))
        | (at_builtin
           refine wpList_append_own _ rfl (.tmp 58) (.tmp 60) 81 rfl w.heap.size 68 i0 _ 3 32 Tryd.underlying81 HI.out H0.out H1.out H2.out rfl (by omega) _ 32 _ rfl (o1.alloc _) ⟨w1.heap.size, 0, none⟩ 1 1 (oneC ⟨172, ⟨#[120, 111, 114, 120]⟩, 3⟩) rfl rfl (news_lit w1 _ _ _ rfl) (oneC_one _) (by unfold maxLen; omega) (by omega) (by have := hb1.size; simp; omega) ?_
           intro v2 w2 o2 hg2 _
           have hb2 := (hb1.alloc hb1.size _).grown hg2 (by have := hb1.size; simp; omega) (fun g hg => (o1.lt g hg).1)))
      have o3 : (w2.alloc (.cells (jmpS.map Value.string).toArray 9)).ownsRow w.heap.size 68 3 v2 33 (onesC (baseL ++ numP 8 ++ xorL ++ jmpP 0)) := by
        have e : onesC (baseL ++ numP 8 ++ xorL ++ jmpP 0) = onesC (baseL ++ numP 8) ++ oneC ⟨164, ⟨#[120, 111, 114]⟩, 3⟩ ++ oneC ⟨172, ⟨#[120, 111, 114, 120]⟩, 3⟩ := by
          rw [onesC_app, onesC_app, List.append_assoc, List.append_assoc]; rfl
        rw [e]; exact o2.alloc _
      have hblk2 := heap_alloc_new w2 (.cells (jmpS.map Value.string).toArray 9)
      have hb3 := hb2.alloc hb2.size (.cells (jmpS.map Value.string).toArray 9)
      obtain ⟨J, hJ⟩ : ∃ J, J = w2.heap.size := ⟨_, rfl⟩
      rw [← hJ] at hblk2
      have HJ := Lib.hid hJ
      clear hown HB hs hb o1 hg1 hb1 o2 hg2 hb2 hJ
      go_loopw [1, 5] (fun v i wr => ∃ k : Nat, k ≤ 4 ∧ i = .int .i64 k ∧ (∃ s : Nat, Hid (s = 33 + 2 * k) ∧ wr.ownsRow w.heap.size 68 3 v s (onesC (baseL ++ numP 8 ++ xorL ++ jmpP k))) ∧
          wr.heap[w2.heap.size]? = some (.cells (jmpS.map Value.string).toArray 9 (0, 0)) ∧ Below w.heap.size w wr) (fun _ i _ => 4 - (intOf i).toNat)
      case atStart => exact ⟨0, by omega, rfl, ⟨33, rfl, o3⟩, HJ.out ▸ hblk2, hb3⟩
      case round =>
        clear o3 hblk2 hb3
        obtain ⟨k, hk, rfl, ⟨s, hs, hown⟩, hblk, hb⟩ := hrel
        have HB := Lib.hid hblk
        clear hblk
        by_cases hlt : k < 4
        · have cell0 := jmpS_cell HB.out hlt
          have hsz := jmpS_size k
          have hst := Lib.hid (jmpP_succ k)
          have HC := Lib.hid (fun (W : World) (h : W.heap[w2.heap.size]? = some (.cells (jmpS.map Value.string).toArray 9 (0, 0))) => jmpS_cell h hlt)
          obtain ⟨S, hS⟩ : ∃ S, S = jmpS.getD k ByteArray.empty := ⟨_, rfl⟩
          rw [← hS] at cell0 hsz hst HC
          have hs40 : s ≤ 41 := by have := hs.out; omega
          clear hS
          go_wp2_with (first
            | (at_builtin
               refine wpList_append_own _ rfl (.tmp 69) (.tmp 79) 81 rfl w.heap.size 68 i0 _ 3 32 Tryd.underlying81 HI.out H0.out H1.out H2.out rfl (by omega) _ s (onesC (baseL ++ numP 8 ++ xorL ++ jmpP k)) rfl (hown.alloc _) ⟨wr.heap.size, 0, none⟩ 1 1 (oneC ⟨16 * (k : Int) + 21, S, 4⟩) rfl rfl (news_lit wr _ _ _ rfl) (oneC_one _) (by unfold maxLen; omega) (by omega) (by have := hb.size; simp; omega) ?_
               intro v1 w1 o1 hg1 _
               have hB1 := Lib.hid (blk_grown (blk_alloc HB.out) hg1 (own_ne hown HB.out (by decide)))
               have c1 := HC.out w1 hB1.out
               have hb1 := (hb.alloc hb.size _).grown hg1 (by have := hb.size; simp; omega) (fun g hg => (hown.lt g hg).1))
            | (at_builtin
               refine wpList_append_own _ rfl (.tmp 81) (.tmp 92) 81 rfl w.heap.size 68 i0 _ 3 32 Tryd.underlying81 HI.out H0.out H1.out H2.out rfl (by omega) _ (s + 1) _ rfl (o1.alloc _) ⟨w1.heap.size, 0, none⟩ 1 1 (oneC ⟨16 * (k : Int) + 29, S ++ xS, 4⟩) rfl rfl (news_lit w1 _ _ _ rfl) (oneC_one _) (by unfold maxLen; omega) (by omega) (by have := hb1.size; simp; omega) ?_
               intro v2 w2' o2 hg2 _))
          go_roundw
          case rel =>
            refine ⟨k + 1, by omega, by go_num, ⟨s + 2, by have := hs.out; show s + 2 = 33 + 2 * (k + 1); omega, ?_⟩, blk_grown (blk_alloc hB1.out) hg2 (own_ne o1 hB1.out (by decide)), (hb1.alloc hb1.size _).grown hg2 (by have := hb1.size; simp; omega) (fun g hg => (o1.lt g hg).1)⟩
            rw [hst.out]
            rw [onesC_two]; exact o2
          case measure => simp [intOf]; omega
        · obtain rfl : k = 4 := by omega
          obtain rfl : s = 41 := hs.out
          go_wp2_with fail
          obtain ⟨g, cap, hv⟩ := own_some hown (by omega)
          subst hv
          go_ret
          exact ⟨g, cap, rfl, hown, hb⟩
end Go.Proofs.YtlneiiljdghmjaaDoor
namespace Go.Proofs.YtlneiiljdghmjaaDoor
open Go.RowKit
set_option linter.unusedVariables false

theorem onesC_get : ∀ {l : List One} {i : Nat} (h : i < l.length) (j : Nat) (hj : j < 3), (onesC l)[i * 3 + j]? = (oneC l[i])[j]?
  | a :: r, 0, _, j, hj => by
    show (oneC a ++ onesC r)[0 * 3 + j]? = _
    rw [Nat.zero_mul, Nat.zero_add, List.getElem?_append_left (by show j < 3; exact hj)]; rfl
  | a :: r, i + 1, h, j, hj => by
    show (oneC a ++ onesC r)[(i + 1) * 3 + j]? = _
    have e : (i + 1) * 3 + j = (oneC a).length + (i * 3 + j) := by show _ = 3 + _; omega
    rw [e, List.getElem?_append_right (by omega), Nat.add_sub_cancel_left]
    exact onesC_get (l := r) (i := i) (by simpa using h) j hj
/-- The three cells of an entry. -/
structure OneAt (w : World) (b o : Nat) (x : One) : Prop where
  a0 : w.cell? ⟨b, o, none⟩ = some (.int .u16 x.code)
  a1 : w.cell? ⟨b, o + 1, none⟩ = some (.string x.name)
  a2 : w.cell? ⟨b, o + 2, none⟩ = some (.int .u8 x.cls)
theorem one_at {w : World} {B g n c : Nat} {e : TypeId} {l : List One} (h : w.ownsRow B e 3 (.slice (some ⟨g, 0, none⟩) n c) n (onesC l)) {i : Nat} (hi : i < l.length) : OneAt w g (i * 3) l[i] := by
  have hl : l.length = n := by have := h.1; rw [onesC_length] at this; omega
  exact ⟨by rw [h.cellAt (i * 3) (by omega)]; exact onesC_get hi 0 (by omega), by rw [h.cellAt (i * 3 + 1) (by omega)]; exact onesC_get hi 1 (by omega), by rw [h.cellAt (i * 3 + 2) (by omega)]; exact onesC_get hi 2 (by omega)⟩
def noOne : One := ⟨0, ⟨#[]⟩, 0⟩
/-- The entry of a code; one without a name, if there is none. -/
def ofL : List One → Int → One
  | [], _ => noOne
  | o :: r, c => if o.code = c then o else ofL r c
theorem ofL_skip : ∀ {l : List One} {k : Nat} {c : Int}, (∀ o ∈ l.take k, o.code ≠ c) → ofL l c = ofL (l.drop k) c
  | l, 0, c, _ => by simp
  | [], k + 1, c, _ => by simp
  | o :: r, k + 1, c, h => by
    have h1 : o.code ≠ c := h o (by simp)
    show (if o.code = c then o else ofL r c) = _
    rw [if_neg h1]
    exact ofL_skip (l := r) (k := k) (fun x hx => h x (by simp [hx]))
theorem ofL_hit {l : List One} {k : Nat} {c : Int} (h : ∀ o ∈ l.take k, o.code ≠ c) (hk : k < l.length) (e : l[k].code = c) : ofL l c = l[k] := by
  rw [ofL_skip h, List.drop_eq_getElem_cons hk]
  show (if l[k].code = c then _ else _) = _
  rw [if_pos e]
theorem ofL_miss {l : List One} {c : Int} (h : ∀ o ∈ l, o.code ≠ c) : ofL l c = noOne := by
  rw [ofL_skip (k := l.length) (by simpa using h)]; simp [ofL]
theorem miss_step {l : List One} {k : Nat} {c : Int} (h : ∀ o ∈ l.take k, o.code ≠ c) (hk : k < l.length) (e : l[k].code ≠ c) : ∀ o ∈ l.take (k + 1), o.code ≠ c := by
  intro o ho
  rw [List.take_add_one, List.getElem?_eq_getElem hk] at ho
  rcases List.mem_append.1 ho with ho | ho
  · exact h o ho
  · simp at ho; subst ho; exact e
theorem allL_length : allL.length = 41 := by
  unfold allL
  rw [List.length_append, List.length_append, List.length_append, numP_length, jmpP_length]; rfl
theorem set3 {w : World} {b : Nat} {u0 u1 u2 v0 v1 v2 : Value} (q0 : w.cell? ⟨b, 0, none⟩ = some u0) (q1 : w.cell? ⟨b, 1, none⟩ = some u1) (q2 : w.cell? ⟨b, 2, none⟩ = some u2) :
    (((w.setCell ⟨b, 0, none⟩ v0).setCell ⟨b, 1, none⟩ v1).setCell ⟨b, 2, none⟩ v2).cell? ⟨b, 0, none⟩ = some v0 ∧
    (((w.setCell ⟨b, 0, none⟩ v0).setCell ⟨b, 1, none⟩ v1).setCell ⟨b, 2, none⟩ v2).cell? ⟨b, 1, none⟩ = some v1 ∧
    (((w.setCell ⟨b, 0, none⟩ v0).setCell ⟨b, 1, none⟩ v1).setCell ⟨b, 2, none⟩ v2).cell? ⟨b, 2, none⟩ = some v2 := by
  have n01 : (⟨b, 0, none⟩ : Addr) ≠ ⟨b, 1, none⟩ := by simp
  have n02 : (⟨b, 0, none⟩ : Addr) ≠ ⟨b, 2, none⟩ := by simp
  have n12 : (⟨b, 1, none⟩ : Addr) ≠ ⟨b, 2, none⟩ := by simp
  have s1 : (w.setCell ⟨b, 0, none⟩ v0).cell? ⟨b, 1, none⟩ = some u1 := (World.cell?_setCell_other w _ _ v0 n01).trans q1
  have s2 : ((w.setCell ⟨b, 0, none⟩ v0).setCell ⟨b, 1, none⟩ v1).cell? ⟨b, 2, none⟩ = some u2 := (World.cell?_setCell_other _ _ _ v1 n12).trans ((World.cell?_setCell_other w _ _ v0 n02).trans q2)
  refine ⟨?_, ?_, ?_⟩
  · rw [World.cell?_setCell_other _ _ _ v2 n02.symm, World.cell?_setCell_other _ _ _ v1 n01.symm]
    exact World.cell?_setCell_same w _ v0 q0
  · rw [World.cell?_setCell_other _ _ _ v2 n12.symm]
    exact World.cell?_setCell_same _ _ v1 s1
  · exact World.cell?_setCell_same _ _ v2 s2
set_option maxHeartbeats 1600000 in
theorem refOf_any (c : Int) (w : World) : Calls Tryd.prog 33 #[.int .u16 c] w fun e w' =>
    e = .returned (.agg #[.int .u16 (ofL allL c).code, .string (ofL allL c).name, .int .u8 (ofL allL c).cls]) ∧ Below w.heap.size w w' := by
  go_enter Tryd.func33, Tryd.ntmps33
  go_wp2_with (go_at_call 47
               ((with_reducible refine (refAll_any _).mono ?_); rintro e w1 ⟨g, cap, rfl, o1, b1⟩)
               have q0 := box_cells b1 0 (.int .u16 0) rfl
               have q1 := box_cells b1 1 (.string ⟨#[]⟩) rfl
               have q2 := box_cells b1 2 (.int .u8 0) rfl
               have f0 : w1.frozen? ⟨w.heap.size, 0, none⟩ = false := (b1.frozen (p := ⟨w.heap.size, 0, none⟩) (by simp)).trans (frozen_of_row _ w.heap.size 0 _ _ (heap_alloc_new w _))
               have f1 : w1.frozen? ⟨w.heap.size, 1, none⟩ = false := (b1.frozen (p := ⟨w.heap.size, 1, none⟩) (by simp)).trans (frozen_of_row _ w.heap.size 1 _ _ (heap_alloc_new w _))
               have f2 : w1.frozen? ⟨w.heap.size, 2, none⟩ = false := (b1.frozen (p := ⟨w.heap.size, 2, none⟩) (by simp)).trans (frozen_of_row _ w.heap.size 2 _ _ (heap_alloc_new w _)))
  have hb := (((Below.refl w.heap.size w).alloc (Nat.le_refl _) _).trans (b1.mono (by simp)))
  have HO := Lib.hid o1
  clear o1 b1
  go_loop [4] (fun i => ∃ k : Nat, k ≤ 41 ∧ i = .int .i64 k ∧ Hid (∀ o ∈ allL.take k, o.code ≠ c)) (fun i => 41 - (intOf i).toNat)
  case atStart => exact ⟨0, by omega, rfl, fun o ho => by simp at ho⟩
  case round =>
    obtain ⟨k, hk, rfl, hm⟩ := hrel
    by_cases hlt : k < 41
    · have hkl : k < allL.length := by rw [allL_length]; exact hlt
      have hat := one_at HO.out hkl
      obtain ⟨x, hx⟩ : ∃ x, x = allL[k] := ⟨_, rfl⟩
      have hhit := Lib.hid (show x.code = c → ofL allL c = x from fun e => by rw [hx]; exact ofL_hit hm.out hkl (by rw [← hx]; exact e))
      have hmiss := Lib.hid (show x.code ≠ c → ∀ o ∈ allL.take (k + 1), o.code ≠ c from fun e => miss_step hm.out hkl (by rw [← hx]; exact e))
      rw [← hx] at hat
      obtain ⟨a0, a1, a2⟩ := hat
      clear hx hkl
      obtain ⟨xc, xn, xk⟩ := x
      by_cases hc : xc = c
      · subst hc
        have hh := Lib.hid (hhit.out rfl)
        clear hhit hmiss hm
        go_wp2
        rw [hh.out]
        obtain ⟨r0, r1, r2⟩ := set3 (v0 := .int .u16 xc) (v1 := .string xn) (v2 := .int .u8 xk) q0 q1 q2
        refine bodyPost_ret (v := .agg #[.int .u16 xc, .string xn, .int .u8 xk]) (by simp [results, Tryd.results33, go_sem, r0, r1, r2]) rfl ⟨rfl, ?_⟩
        exact ((hb.setCell (Nat.le_refl _) _).setCell (Nat.le_refl _) _).setCell (Nat.le_refl _) _
      · have hh := Lib.hid (hmiss.out hc)
        have hcb := beq_eq_false_iff_ne.2 hc
        clear hhit hmiss hc
        go_wp2
        go_round
        case rel => exact ⟨k + 1, by omega, by go_num, hh.out⟩
        case measure => simp [intOf]; omega
    · obtain rfl : k = 41 := by omega
      have hh := Lib.hid (ofL_miss (l := allL) (c := c) (by have := hm.out; rwa [List.take_of_length_le (by rw [allL_length]; exact Nat.le_refl _)] at this))
      go_wp2
      rw [hh.out]
      obtain ⟨r0, r1, r2⟩ := set3 (v0 := .int .u16 0) (v1 := .string ⟨#[]⟩) (v2 := .int .u8 0) q0 q1 q2
      refine bodyPost_ret (v := .agg #[.int .u16 0, .string ⟨#[]⟩, .int .u8 0]) (by simp [results, Tryd.results33, go_sem, r0, r1, r2]) rfl ⟨rfl, ?_⟩
      exact ((hb.setCell (Nat.le_refl _) _).setCell (Nat.le_refl _) _).setCell (Nat.le_refl _) _
end Go.Proofs.YtlneiiljdghmjaaDoor
namespace Go.Proofs.YtlneiiljdghmjaaDoor
open Go.RowKit
set_option linter.unusedVariables false

theorem ofL_cases : ∀ (l : List One) (c : Int), ofL l c = noOne ∨ ofL l c ∈ l
  | [], _ => Or.inl rfl
  | o :: r, c => by
    show (if o.code = c then o else ofL r c) = noOne ∨ _
    split
    · rename_i h
      right
      show (if o.code = c then o else ofL r c) ∈ _
      rw [if_pos h]; exact List.mem_cons_self ..
    · rename_i h
      rcases ofL_cases r c with h1 | h1
      · exact Or.inl h1
      · right
        show (if o.code = c then o else ofL r c) ∈ _
        rw [if_neg h]; exact List.mem_cons_of_mem _ h1
/-- Each entry has a name and a class. -/
theorem allL_good : ∀ o ∈ allL, 2 ≤ o.name.size ∧ o.name.size ≤ 6 ∧ 1 ≤ o.cls ∧ o.cls ≤ 6 ∧ 0 ≤ o.code ∧ o.code < 256 := by
  have h : allL.all (fun o => decide (2 ≤ o.name.size ∧ o.name.size ≤ 6 ∧ 1 ≤ o.cls ∧ o.cls ≤ 6 ∧ 0 ≤ o.code ∧ o.code < 256)) = true := by decide +kernel
  intro o ho
  exact of_decide_eq_true (List.all_eq_true.1 h o ho)
/-- Is the code known? -/
def knownB (c : Int) : Bool := decide ((ofL allL c).cls ≠ 0)
theorem known_name (c : Int) : (knownB c = true ∧ 2 ≤ (ofL allL c).name.size ∧ (ofL allL c).name.size ≤ 6) ∨ (knownB c = false ∧ ofL allL c = noOne) := by
  rcases ofL_cases allL c with h | h
  · right
    exact ⟨by unfold knownB; rw [h]; decide, h⟩
  · left
    have := allL_good _ h
    exact ⟨decide_eq_true (by omega), this.1, this.2.1⟩
theorem isEmpty_of_size {s : ByteArray} (h : 0 < s.size) : s.toList.isEmpty = false := by
  rw [ByteArray.toList_eq]
  obtain ⟨⟨l⟩⟩ := s
  match l, h with
  | [], h => exact absurd h (by show ¬ 0 < 0; omega)
  | a :: r, _ => rfl
theorem one_field1 (x : Int) (n : ByteArray) (k : Int) (w : World) : (Instr.field 68 (.agg #[.int .u16 x, .string n, .int .u8 k]) 1).run Tryd.prog w = .ok (.string n) w := by kernel_rfl
theorem refKnown_any (c : Int) (w : World) : Calls Tryd.prog 45 #[.int .u16 c] w fun e w' => e = .returned (.bool (knownB c)) ∧ Below w.heap.size w w' := by
  have H := refOf_any c w
  rcases known_name c with ⟨h1, h2, h3⟩ | ⟨h1, h2⟩
  · rw [h1]
    have he := isEmpty_of_size (s := (ofL allL c).name) (by omega)
    obtain ⟨x, hx⟩ : ∃ x, x = ofL allL c := ⟨_, rfl⟩
    rw [← hx] at H he
    have HH := Lib.hid H
    clear H h1 h2 h3 hx
    obtain ⟨xc, xn, xk⟩ := x
    simp only at he
    have hf := one_field1
    go_enter Tryd.func45, Tryd.ntmps45
    go_wp2_with (go_at_call 33; ((with_reducible refine HH.out.mono ?_); rintro e w1 ⟨rfl, b1⟩))
    go_ret
    exact ⟨rfl, b1⟩
  · rw [h1]
    rw [h2] at H
    have HH := Lib.hid H
    have he : noOne.name.toList.isEmpty = true := by rw [ByteArray.toList_eq]; rfl
    clear H h1 h2
    have hf := one_field1
    go_enter Tryd.func45, Tryd.ntmps45
    go_wp2_with (go_at_call 33; ((with_reducible refine HH.out.mono ?_); rintro e w1 ⟨rfl, b1⟩))
    go_ret
    exact ⟨rfl, b1⟩

theorem last_eq (s : ByteArray) (h : s.size - 1 < s.size) : (((s[s.size - 1]'h).toNat : Int) == 120) = decide (s.toList.getLast? = some 120) := by
  rw [ByteArray.toList_eq]
  obtain ⟨⟨l⟩⟩ := s
  have hl : l.length - 1 < l.length := h
  have e : (⟨⟨l⟩⟩ : ByteArray)[(⟨⟨l⟩⟩ : ByteArray).size - 1]'h = l[l.length - 1] := rfl
  rw [e]
  show _ = decide (l.getLast? = some 120)
  rw [List.getLast?_eq_getElem?, List.getElem?_eq_getElem hl]
  by_cases h1 : l[l.length - 1] = 120
  · rw [h1]; rfl
  · rw [decide_eq_false (by simpa using h1)]
    refine beq_eq_false_iff_ne.2 fun h2 => h1 ?_
    have : (l[l.length - 1]).toNat = 120 := by omega
    exact UInt8.toNat.inj this
/-- Does the code take X? -/
def withXB (c : Int) : Bool := decide (((ofL allL c).cls = 3 ∨ (ofL allL c).cls = 4) ∧ (ofL allL c).name.toList.getLast? = some 120)
theorem withX_no (c xc xk : Int) (xn : ByteArray) (w : World) (h3 : xk ≠ 3) (h4 : xk ≠ 4)
    (H : Calls Tryd.prog 33 #[.int .u16 c] w fun e w' => e = .returned (.agg #[.int .u16 xc, .string xn, .int .u8 xk]) ∧ Below w.heap.size w w') :
    Calls Tryd.prog 44 #[.int .u16 c] w fun e w' => e = .returned (.bool false) ∧ Below w.heap.size w w' := by
  have HH := Lib.hid H
  have e3 := beq_eq_false_iff_ne.2 h3
  have e4 := beq_eq_false_iff_ne.2 h4
  clear H h3 h4
  go_enter Tryd.func44, Tryd.ntmps44
  go_wp2_with (go_at_call 33; ((with_reducible refine HH.out.mono ?_); rintro e w1 ⟨rfl, b1⟩))
  go_ret
  exact ⟨rfl, b1.alloc b1.size _⟩
theorem withX_yes (c xc xk : Int) (xn : ByteArray) (w : World) (h : xk = 3 ∨ xk = 4) (hs : 1 ≤ xn.size) (hs2 : xn.size ≤ 6)
    (H : Calls Tryd.prog 33 #[.int .u16 c] w fun e w' => e = .returned (.agg #[.int .u16 xc, .string xn, .int .u8 xk]) ∧ Below w.heap.size w w') :
    Calls Tryd.prog 44 #[.int .u16 c] w fun e w' => e = .returned (.bool (decide (xn.toList.getLast? = some 120))) ∧ Below w.heap.size w w' := by
  have HH := Lib.hid H
  clear H
  have h0 : (0 : Int) ≤ (xn.size : Int) - 1 := by omega
  have h1 : (xn.size : Int) - 1 < xn.size := by omega
  rcases h with rfl | rfl
  · go_enter Tryd.func44, Tryd.ntmps44
    go_wp2_with (go_at_call 33; ((with_reducible refine HH.out.mono ?_); rintro e w1 ⟨rfl, b1⟩))
    go_ret
    exact ⟨congrArg (fun b => Ending.returned (.bool b)) (last_eq xn _), b1.alloc b1.size _⟩
  · go_enter Tryd.func44, Tryd.ntmps44
    go_wp2_with (go_at_call 33; ((with_reducible refine HH.out.mono ?_); rintro e w1 ⟨rfl, b1⟩))
    go_ret
    exact ⟨congrArg (fun b => Ending.returned (.bool b)) (last_eq xn _), b1.alloc b1.size _⟩
theorem refWithX_any (c : Int) (w : World) : Calls Tryd.prog 44 #[.int .u16 c] w fun e w' => e = .returned (.bool (withXB c)) ∧ Below w.heap.size w w' := by
  have H := refOf_any c w
  rcases known_name c with ⟨_, h2, h3⟩ | ⟨_, h2⟩
  · by_cases hk : (ofL allL c).cls = 3 ∨ (ofL allL c).cls = 4
    · have e : withXB c = decide ((ofL allL c).name.toList.getLast? = some 120) := by unfold withXB; simp [hk]
      rw [e]
      exact withX_yes c _ _ _ w hk (by omega) h3 H
    · have e : withXB c = false := by unfold withXB; simp [hk]
      rw [e]
      exact withX_no c _ _ _ w (fun h => hk (Or.inl h)) (fun h => hk (Or.inr h)) H
  · have e : withXB c = false := by unfold withXB; rw [h2]; decide
    rw [e]
    refine withX_no c _ _ _ w ?_ ?_ H
    · rw [h2]; decide
    · rw [h2]; decide

/-- The entry of a name. -/
def codeL : List One → ByteArray → Option One
  | [], _ => none
  | o :: r, s => if o.name = s then some o else codeL r s
def codeV (s : ByteArray) : Int := ((codeL allL s).map (·.code)).getD 0
def codeB (s : ByteArray) : Bool := (codeL allL s).isSome
theorem codeL_skip : ∀ {l : List One} {k : Nat} {s : ByteArray}, (∀ o ∈ l.take k, o.name ≠ s) → codeL l s = codeL (l.drop k) s
  | l, 0, s, _ => by simp
  | [], k + 1, s, _ => by simp
  | o :: r, k + 1, s, h => by
    have h1 : o.name ≠ s := h o (by simp)
    show (if o.name = s then some o else codeL r s) = _
    rw [if_neg h1]
    exact codeL_skip (l := r) (k := k) (fun x hx => h x (by simp [hx]))
theorem codeL_hit {l : List One} {k : Nat} {s : ByteArray} (h : ∀ o ∈ l.take k, o.name ≠ s) (hk : k < l.length) (e : l[k].name = s) : codeL l s = some l[k] := by
  rw [codeL_skip h, List.drop_eq_getElem_cons hk]
  show (if l[k].name = s then _ else _) = _
  rw [if_pos e]
theorem codeL_miss {l : List One} {s : ByteArray} (h : ∀ o ∈ l, o.name ≠ s) : codeL l s = none := by
  rw [codeL_skip (k := l.length) (by simpa using h)]; simp [codeL]
theorem name_step {l : List One} {k : Nat} {s : ByteArray} (h : ∀ o ∈ l.take k, o.name ≠ s) (hk : k < l.length) (e : l[k].name ≠ s) : ∀ o ∈ l.take (k + 1), o.name ≠ s := by
  intro o ho
  rw [List.take_add_one, List.getElem?_eq_getElem hk] at ho
  rcases List.mem_append.1 ho with ho | ho
  · exact h o ho
  · simp at ho; subst ho; exact e
theorem list_of_bytes {a b : ByteArray} (h : a.toList = b.toList) : a = b := by
  apply ByteArray.ext
  have h2 := congrArg List.toArray h
  simpa [ByteArray.toList_eq] using h2
end Go.Proofs.YtlneiiljdghmjaaDoor
