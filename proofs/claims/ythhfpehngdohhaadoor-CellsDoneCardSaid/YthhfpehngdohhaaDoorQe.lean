/- What the landed call Next returns: to where an instruction leads. Condition: a slice is as long as its capacity allows. -/
import Derived.Test.YthhfpehngdohhaaDoorQd
namespace Go.Proofs.YthhfpehngdohhaaDoor
open Go.RowKit Go.Shelf
set_option linter.unusedVariables false
attribute [local go_sem] Oper.semAt_some

theorem plV_get0 {l : List Nat} {j : Nat} {v : Value} (h : (plV l)[j]? = some v) : ∃ x, l[j]? = some x ∧ v = .int .i64 ((x : Nat) : Int) := by
  unfold plV at h
  rw [List.getElem?_map] at h
  cases hx : l[j]? with
  | none => rw [hx] at h; cases h
  | some x => rw [hx] at h; injection h with h; exact ⟨x, rfl, h.symm⟩
theorem plV_len (l : List Nat) : (plV l).length = l.length := by simp [plV]
theorem plV_take {l : List Nat} {j x : Nat} (h : l[j]? = some x) : plV (l.take (j + 1)) = plV (l.take j) ++ [.int .i64 ((x : Nat) : Int)] := by
  unfold plV
  rw [List.take_add_one, h, List.map_append]; rfl
theorem own_base {w : World} {B B' n size : Nat} {e : TypeId} {v : Value} {xs : List Value} (h : w.ownsRow B e size v n xs) (hB : B' ≤ B) : w.ownsRow B' e size v n xs := by
  obtain ⟨h1, h2⟩ := h
  refine ⟨h1, ?_⟩
  rcases h2 with h2 | ⟨g, cap, cur, hv, hgB, r⟩
  · exact Or.inl h2
  · exact Or.inr ⟨g, cap, cur, hv, by omega, r⟩
/-- Between two rounds: the variable's box, and the row of what has come. -/
def SeqI (l : List Nat) (R B j : Nat) (V : World) : Prop := ∃ v, Boxed V B 27 v ∧ V.ownsRow R 3 1 v j (plV (l.take j))
theorem seqI_own (l : List Nat) (R B B' : Nat) : OwnFrom B' (SeqI l R B) := by
  rintro j V V' row ⟨v, hb, ho⟩ hg hr
  refine ⟨v, hb.kept hg fun e => ?_, ho.kept hg ?_⟩
  · obtain ⟨_, o, ho2, hc⟩ := hr _ e.symm
    rw [show V.heap[B]? = _ from hb] at ho2; cases ho2; cases hc
  · rcases ho.2 with ⟨rfl, _⟩ | ⟨g, cap, cur, rfl, _, hgb, _⟩
    · exact .inl rfl
    · refine .inr fun e => ?_
      obtain ⟨_, o, ho2, hc⟩ := hr g e.symm
      rw [hgb] at ho2; cases ho2; cases hc
set_option maxRecDepth 100000 in
set_option maxHeartbeats 4000000 in
theorem appendSeq_call {gf : Nat} {S : Nat → Prop} {lb : Array Value} {l : List Nat} {w w0 : World} (eg : ∀ args W, (callFunc gf args).run Tryd.prog W = .ok (.enter gf args) W) (hseq : Gives Tryd.prog gf lb 2 S (plV l) w0) (hb0 : Below w0.heap.size w0 w) (hS : ∀ b, S b → b < w.heap.size) (hl : l.length ≤ 4096) :
    Calls Tryd.prog 35 #[.slice none 0 0, .func (.func gf) #[] lb] w (NextTo l w) := by
  obtain ⟨i0, hi, hz0, hz1, hz2⟩ := info_parts int_info
  have HI := Lib.hid hi
  have H0 := Lib.hid hz0
  have H1 := Lib.hid hz1
  have H2 := Lib.hid hz2
  have HL := Lib.hid hl
  clear hi hz0 hz1 hz2 hl
  obtain ⟨W0, hW0⟩ : ∃ W0, W0 = w.alloc (.cells #[.slice none 0 0] 27) := ⟨_, rfl⟩
  have z0 : W0.heap.size = w.heap.size + 1 := by rw [hW0]; simp
  have BW : Below w.heap.size w W0 := by rw [hW0]; exact (Below.refl _ _).alloc (Nat.le_refl _) _
  have bx : Boxed W0 w.heap.size 27 (.slice none 0 0) := by rw [hW0]; exact Boxed.new w _ _
  refine (callsIn_wide (n := 4)).1 ?_
  refine callsIn_of_wp_marks Tryd.func35 rfl trivial ?_ rfl
  simp only [Tryd.ntmps35, List.size_toArray, List.length_cons, List.length_nil, Nat.reduceAdd, Nat.reduceSub, Array.replicate_succ, Array.replicate_zero, List.push_toArray, List.append_toArray, List.nil_append, List.cons_append]
  gi_wp2
  rw [← hW0]
  refine wp_gives (S := S) (m := 2) (w0 := w0) (xs := plV l) (gf := gf) (lb := lb) rfl eg hseq (hb0.trans (BW.mono hb0.size))
    (fun j V => SeqI l (w.heap.size + 5) w.heap.size j V ∧ Below w.heap.size w V) (fun _ _ => False)
    (OwnFrom.and (seqI_own _ _ _ _) (ownFrom_below (Nat.le_refl _) (by omega))) (fun _ _ _ _ h _ _ => h)
    ⟨⟨_, bx, World.ownsRow_nil _ _ _ _⟩, BW⟩ ?after ?assign ?body ?done ?stop
  case assign =>
    intro lp x V K hK
    gi_wp2
    exact hK
  case body =>
    rintro lp j x V hx ⟨⟨v, hv, hrow⟩, hB⟩ hz
    obtain ⟨m, hm, rfl⟩ := plV_get0 hx
    have hj : j < l.length := (List.getElem?_eq_some_iff.1 hm).1
    have hj4 : j < 4096 := by have := HL.out; omega
    have hc := hv.cell
    have hzz : w.heap.size + 5 ≤ V.heap.size := by omega
    have HT := Lib.hid (plV_take hm)
    clear hx bx BW hW0 hseq hb0
    gi_wp2_with (gi_at_builtin
                 refine wpListIn_append_own _ rfl _ _ 27 rfl (w.heap.size + 5) 3 i0 _ 1 8 Tryd.underlying27 HI.out H0.out H1.out H2.out rfl (by decide) v j _ rfl (hrow.alloc _) ⟨V.heap.size, 0, none⟩ 1 1 [.int .i64 m] rfl rfl (cell_one_new _ _ _) (by simp [Value.oneCell']) (by unfold maxLen; omega) (by omega) (by simp; omega) ?_
                 intro v' v1 hown' hgrow _
                 obtain ⟨g', cap', rfl⟩ := ownsRow_succ hown'
                 obtain ⟨hv1, hv2, hr2, hk2, hb2⟩ := hv.appended (by decide) (own_base hrow (B' := w.heap.size) (by omega)) hB.size (Nat.le_refl _) (own_base hown' (B' := w.heap.size) (by omega)) hgrow
                 have hc1 := hv1.cell
                 have hf1 := hv1.frozen)
    refine ⟨hk2.from _, ⟨hb2.mono (Nat.zero_le _), fun b o h1 h3 h4 => ?_⟩, ⟨_, hv2, ?_⟩, hB.trans hb2⟩
    · have hne : b ≠ w.heap.size ∧ b < w.heap.size + 5 := by
        rcases h1 with h1 | h1
        · have := hS b h1; omega
        · omega
      have hlt : b < V.heap.size := (Array.getElem?_eq_some_iff.1 h3).1
      rw [heap_setCell_other v1 _ b _ (show b ≠ w.heap.size from hne.1), hgrow.block b (by simp; omega) (fun e => by have := (hrow.lt b e.symm).1; omega), Below.heap_alloc V _ b hlt]
      exact h3
    · rw [HT.out]
      exact hown'.kept (grownBy_setCell' v1 w.heap.size _) (.inr (hv1.not_row (by decide) hown').symm)
  case done =>
    rintro V ⟨⟨v, hv, hrow⟩, hB⟩ hK
    have hc := hv.cell
    rw [plV_len, List.take_of_length_le (Nat.le_refl _)] at hrow
    obtain ⟨q, c, rfl⟩ := own_form hrow
    clear bx BW hseq hb0
    gi_wp2
    refine ⟨by simp, .inl ⟨_, _, rfl, run_takeDeferred hK, ?_⟩⟩
    refine ⟨_, results_tmp rfl _ _ _, q, c, rfl, ownsRow_putObj (own_base hrow (by omega)) _ hK rfl, hB.trans (belowK_b (w := w) (Nat.le_refl _) V _ _ _ (by omega) hK rfl rfl)⟩
  case stop =>
    rintro j V h _
    exact h.elim
theorem collect_call {gf : Nat} {S : Nat → Prop} {lb : Array Value} {l : List Nat} {w w0 : World} (eg : ∀ args W, (callFunc gf args).run Tryd.prog W = .ok (.enter gf args) W) (hseq : Gives Tryd.prog gf lb 2 S (plV l) w0) (hb0 : Below w0.heap.size w0 w) (hS : ∀ b, S b → b < w.heap.size) (hl : l.length ≤ 4096) :
    Calls Tryd.prog 25 #[.func (.func gf) #[] lb] w (NextTo l w) := by
  have HC := Lib.hid (appendSeq_call eg hseq hb0 hS hl)
  clear eg hseq hb0 hS hl
  obtain ⟨m, hm⟩ : ∃ m, m = l.length := ⟨_, rfl⟩
  unfold NextTo at HC ⊢
  rw [← hm] at HC ⊢
  clear hm
  go_enter Tryd.func25, Tryd.ntmps25
  go_wp2_with (go_at_call 35; ((with_reducible refine (HC.out).mono ?_); rintro e w1 ⟨q, c, rfl, o1, b1⟩))
  go_ret
  exact ⟨q, c, rfl, o1, b1⟩
theorem next_long (a0 : Option Addr) (n cap : Nat) (at_ : Int) (w : World) (hn : (4096 : Int) < n) : Calls Tryd.prog 13 #[.slice a0 n cap, .int .i64 at_] w (NextTo [] w) := by
  have HT := Lib.hid (fun W => tooLong_call a0 n cap W)
  rw [decide_eq_true hn] at HT
  clear hn
  go_enter Tryd.func13, Tryd.ntmps13
  go_wp2_with (go_at_call 22; ((with_reducible refine (HT.out _).mono ?_); rintro e w1 ⟨rfl, rfl⟩))
  go_ret
  exact next_nil (Below.refl _ _)
/-- A program behind an alloc or two, for the iterator. -/
theorem next_short (a0 : Option Addr) (n cap : Nat) (p : List Ins) (at_ : Int) (w : World) (hl : p.length = n) (hn : n ≤ 4096) (hok : OkL p) (hG : GW w) (hR : RdI w w.heap.size a0 p) : Calls Tryd.prog 13 #[.slice a0 n cap, .int .i64 at_] w (NextTo (nextA p at_) w) := by
  have HT := Lib.hid (fun W => tooLong_call a0 n cap W)
  rw [decide_eq_false (show ¬ (4096 : Int) < n by omega)] at HT
  have HS := Lib.hid (fun W => successors_call a0 n cap at_ W)
  obtain ⟨W0, hW0⟩ : ∃ W0, W0 = (w.alloc (.cells #[.slice a0 n cap] 22)).alloc (.cells #[.int .i64 at_] 3) := ⟨_, rfl⟩
  have z0 : W0.heap.size = w.heap.size + 2 := by rw [hW0]; simp
  have BW : Below w.heap.size w W0 := by rw [hW0]; exact ((Below.refl _ _).alloc (Nat.le_refl _) _).alloc (by simp) _
  have c1 : W0.cell? ⟨w.heap.size, 0, none⟩ = some (.slice a0 n cap) := by rw [hW0]; exact ((Boxed.new w _ _).alloc _).cell
  have c2 : W0.cell? ⟨w.heap.size + 1, 0, none⟩ = some (.int .i64 at_) := by
    have h := (Boxed.new (w.alloc (.cells #[.slice a0 n cap] 22)) 3 (.int .i64 at_)).cell
    rw [World.size_alloc] at h
    rw [hW0]; exact h
  have hlen : (nextA p at_).length ≤ 4096 := by
    unfold nextA
    split
    · have := nextL_length p at_.toNat; omega
    · simp
  have HC := Lib.hid (collect_call (w := W0) (w0 := W0) (enters_of Tryd.func33 (by kernel_rfl) rfl)
    (succ_gives (w.heap.size + 1) w.heap.size n cap a0 p at_ W0 hl hn hok (hG.on BW) (by omega) (by omega) c2 c1 ((hR.below BW (Nat.le_refl _)).more (by omega))) (Below.refl _ _) (fun b e => by omega) hlen)
  clear hG hR hok hl hn c1 c2 hlen
  rw [hW0] at HC
  obtain ⟨l, hll⟩ : ∃ l, l = nextA p at_ := ⟨_, rfl⟩
  rw [← hll] at HC ⊢
  clear hll
  obtain ⟨m, hm⟩ : ∃ m, m = l.length := ⟨_, rfl⟩
  unfold NextTo at HC ⊢
  rw [← hm] at HC ⊢
  clear hm
  go_enter Tryd.func13, Tryd.ntmps13
  go_wp2_with (first
    | (go_at_call 22; ((with_reducible refine (HT.out _).mono ?_); rintro e w1 ⟨rfl, rfl⟩))
    | (go_at_call 24; ((with_reducible refine (HS.out _).mono ?_); rintro e w1 ⟨rfl, rfl⟩))
    | (go_at_call 25; ((with_reducible refine (HC.out).mono ?_); rintro e w1 ⟨q, c, rfl, o1, b1⟩)))
  go_ret
  rw [← hW0] at o1 b1
  exact ⟨q, c, rfl, own_base o1 (by omega), BW.trans (b1.mono (by omega))⟩
/-- What the landed Next returns. -/
theorem next_c (a0 : Option Addr) (n cap : Nat) (p : List Ins) (at_ : Int) (w : World) (hG : GW w) (hl : p.length = n) (hok : OkL p) (hR : RdI w w.heap.size a0 p) : Calls Tryd.prog 13 #[.slice a0 n cap, .int .i64 at_] w (NextTo (nextX p at_) w) := by
  unfold nextX
  by_cases hn : p.length ≤ 4096
  · rw [if_pos hn]; exact next_short a0 n cap p at_ w hl (by omega) hok hG hR
  · rw [if_neg hn]; exact next_long a0 n cap at_ w (by omega)
end Go.Proofs.YthhfpehngdohhaaDoor
