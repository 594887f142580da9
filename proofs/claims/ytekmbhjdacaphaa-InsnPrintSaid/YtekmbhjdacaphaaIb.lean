/- An instruction as a value and as cells in memory; what the document's own Encode and Decode return. Condition: each number fits its kind. -/
import Derived.Test.YtekmbhjdacaphaaIa
import Derived.Test.YtekmbhjdacaphaaWh
import Derived.Deep.AppendLies
import Derived.Deep.DrawnRows
import Derived.RegionTactic
import Derived.BigRegion
namespace Go.Proofs.Ytekmbhjdacaphaa
open Go.RowKit
set_option linter.unusedVariables false

/-- The instruction as a value. -/
def insV (i : Ins) : Value := .agg #[.int .u16 i.c, .int .u8 i.jt, .int .u8 i.jf, .int .u32 i.k]
/-- A new block's cells behind a call that makes new memory alone. -/
theorem box_cells {w w1 : World} {cs : Array Value} {t : TypeId} (b : Below (w.alloc (.cells cs t)).heap.size (w.alloc (.cells cs t)) w1) (j : Nat) (v : Value) (h : cs[j]? = some v) : w1.cell? ⟨w.heap.size, j, none⟩ = some v := by
  rw [b.cell (p := ⟨w.heap.size, j, none⟩) (by simp), cell_of_row (w.alloc (.cells cs t)) w.heap.size j cs t (0, 0) (heap_alloc_new w _)]
  exact h
/-- A cell of a block that was there is there behind a growth of another row. -/
theorem cell_grown {w w1 : World} {o : Obj} {p : Addr} {v : Value} {g : Nat} (h : w.cell? p = some v) (hg : (w.alloc o).grownBy w1 (some g)) (hne : p.block ≠ g) : w1.cell? p = some v := by
  have hb := World.block_lt_of_cell? w p h
  rw [World.cell?_of_block (hg.block p.block (by simp; omega) (fun e => hne (by injection e))), World.cell?_alloc_lt w o p hb]
  exact h
theorem Below.grown_lit {w0 w w1 : World} {o : Obj} {g : Nat} (hb : Below w0.heap.size w0 w) (hg : (w.alloc o).grownBy w1 (some g)) (h : w0.heap.size ≤ g) : Below w0.heap.size w0 w1 :=
  (hb.alloc hb.size o).grown hg (by have := hb.size; simp; omega) (by intro k hk; cases hk; exact h)
theorem own_mono {w : World} {B B' n size : Nat} {e : TypeId} {v : Value} {xs : List Value} (h : w.ownsRow B e size v n xs) (hB : B' ≤ B) : w.ownsRow B' e size v n xs := by
  obtain ⟨h1, h2⟩ := h
  refine ⟨h1, ?_⟩
  rcases h2 with h2 | ⟨g, cap, cur, hv, hg, r⟩
  · exact Or.inl h2
  · exact Or.inr ⟨g, cap, cur, hv, Nat.le_trans hB hg, r⟩
theorem news_lit (w : World) (cs : Array Value) (e : TypeId) (l : List Value) (h : cs.toList = l) : ∀ j u, l[j]? = some u → (w.alloc (.cells cs e)).cell? ((⟨w.heap.size, 0, none⟩ : Addr).add j) = some u := by
  intro j u hu
  subst h
  rw [Addr.add_lit, Nat.zero_add, cell_of_row (w.alloc (.cells cs e)) w.heap.size j cs e (0, 0) (heap_alloc_new w _)]
  simpa using hu
set_option maxHeartbeats 800000 in
theorem refEncode_any (c jt jf k : Int) (w : World) (h : (Ins.mk c jt jf k).Ok) :
    Calls Try.prog 12 #[.agg #[.int .u16 c, .int .u8 jt, .int .u8 jf, .int .u32 k]] w fun e w' => ∃ g, e = .returned (.slice (some ⟨g, 0, none⟩) 8 8) ∧
      w'.ownsRow w.heap.size 5 1 (.slice (some ⟨g, 0, none⟩) 8 8) 8 (bv (encL ⟨c, jt, jf, k⟩)) ∧ Below w.heap.size w w' := by
  obtain ⟨c0, c1, t0, t1, f0, f1, k0, k1⟩ := h
  simp only at c0 c1 t0 t1 f0 f1 k0 k1
  obtain ⟨i0, hi, hz0, hz1, hz2⟩ := info_parts u8_zero
  have HI := Lib.hid hi
  have H0 := Lib.hid hz0
  have H1 := Lib.hid hz1
  have H2 := Lib.hid hz2
  clear hi hz0 hz1 hz2
  go_enter Try.func12, Try.ntmps12
  go_wp2_with (first
    | (go_at_call 22
       ((with_reducible refine (refPut16_any c _ c0 (by omega)).mono ?_); rintro e w1 ⟨g1, rfl, o1, b1⟩)
       have q1 := box_cells b1 1 (.int .u8 jt) rfl
       have q2 := box_cells b1 2 (.int .u8 jf) rfl
       have q3 := box_cells b1 3 (.int .u32 k) rfl
       have hg1 := (o1.lt g1 rfl).1
       have hs1 := b1.size
       simp only [World.size_alloc] at hg1 hs1)
    | (at_builtin
       refine wpList_append_lies _ rfl (.tmp 8) (.tmp 13) 24 rfl w.heap.size 5 i0 _ 1 1 Try.underlying24 HI.out H0.out H1.out H2.out rfl (by omega) _ 2 (bv (putL 2 c)) rfl ((own_mono o1 (by simp)).alloc _) ⟨w1.heap.size, 0, none⟩ 2 2 (bv [jt, jf]) rfl rfl (news_lit w1 _ _ _ rfl) (bv_one _) (by omega) (by unfold maxLen; omega) (by omega) (by simp; omega) (w1.heap.size + 1) (by simp) ?_
       intro g2 cap2 w2 o2 hg2' hat2 hlt2
       have hg2 : (w1.alloc (.cells #[.int .u8 jt, .int .u8 jf] 5)).grownBy w2 (some g1) := hg2'
       have q3' := cell_grown q3 hg2 (by show w.heap.size ≠ g1; omega)
       have hb2 := Below.grown_lit ((((Below.refl w.heap.size w).alloc (Nat.le_refl _) _).trans (b1.mono (by simp)))) hg2 (by omega))
    | (go_at_call 22
       ((with_reducible refine (refPut32_any k w2 k0 (by omega)).mono ?_); rintro e w3 ⟨g3, rfl, o3, b3⟩)
       have r2 := (Rd.of_own (xs := putL 2 c ++ [jt, jf]) (by simpa [bv] using o2)).on b3
       have r3 := Rd.of_own o3)
    | (go_at_call 23
       ((with_reducible refine (refCat_any _ _ 4 _ 4 _ (putL 2 c ++ [jt, jf]) (putL 4 k) w3 rfl rfl (by omega) r2 r3).mono ?_); rintro e w4 ⟨g4, rfl, o4, b4⟩)))
  go_ret
  have hh : w.heap.size ≤ w3.heap.size := by have := b3.size; have := hb2.size; omega
  exact ⟨g4, rfl, own_mono o4 hh, (hb2.trans (b3.mono hb2.size)).trans (b4.mono hh)⟩
end Go.Proofs.Ytekmbhjdacaphaa
