/- To where an instruction leads, a number's digits, a label, an instruction's operands: what the landed calls return. Conditions: the table of codes, the table of powers of ten lie in their variables. -/
import Derived.Test.YtlneiiljdghmjaaDoorHe
namespace Go.Proofs.YtlneiiljdghmjaaDoor
open Go.RowKit Go.Shelf
set_option linter.unusedVariables false
set_option linter.unusedSimpArgs false
attribute [local go_sem ↓] Go.wp_at_zero Go.wp_at_succ

/-- Numbers that lie in memory, in a row of one's own. -/
def U64s (w : World) (B : Nat) (q : Option Addr) (l : List Int) : Prop := 0 < l.length → ∃ (g : Nat) (cs : Array Value) (fz : Nat × Nat), q = some ⟨g, 0, none⟩ ∧ B ≤ g ∧ w.heap[g]? = some (.cells cs 59 fz) ∧ ∀ j (h : j < l.length), cs[j]? = some (.int .u64 l[j])
theorem U64s.on {w w' : World} {B : Nat} {q : Option Addr} {l : List Int} (h : U64s w B q l) (b : Below w.heap.size w w') : U64s w' B q l := fun h0 => by
  obtain ⟨g, cs, fz, e, hB, hg, hc⟩ := h h0
  exact ⟨g, cs, fz, e, hB, (b.block g (Array.getElem?_eq_some_iff.1 hg).1).trans hg, hc⟩
theorem U64s.cell {w : World} {B : Nat} {q : Option Addr} {l : List Int} (h : U64s w B q l) {j : Nat} {x : Int} (hx : l[j]? = some x) : ∃ g, q = some ⟨g, 0, none⟩ ∧ w.cell? ⟨g, j, none⟩ = some (.int .u64 x) := by
  obtain ⟨hj, hx⟩ := List.getElem?_eq_some_iff.1 hx
  obtain ⟨g, cs, fz, e, hB, hg, hc⟩ := h (by omega)
  exact ⟨g, e, by rw [cell_of_row _ _ _ _ _ fz hg, hc j hj, hx]⟩
theorem U64s.grown {w w' : World} {B B' n s : Nat} {q : Option Addr} {l : List Int} {v : Value} {xs : List Value} (h : U64s w B q l) (ho : w.ownsRow B' 9 s v n xs) (hg : w.grownBy w' v.ownBlock) : U64s w' B q l := fun h0 => by
  obtain ⟨g, cs, fz, e, hB, hh, hc⟩ := h h0
  refine ⟨g, cs, fz, e, hB, (hg.block g (Array.getElem?_eq_some_iff.1 hh).1 fun he => ?_).trans hh, hc⟩
  rcases ho.2 with ⟨rfl, _⟩ | ⟨g2, cap, cur, rfl, _, hgb, _⟩
  · cases he
  · injection he with he
    subst he
    rw [hh] at hgb
    injection hgb with hgb
    injection hgb with _ ht _
    exact absurd ht (by decide)
theorem u64s_one (W : World) (n : Nat) (x : Int) (B : Nat) (hB : B ≤ W.heap.size) (hn : n = W.heap.size) : U64s (W.alloc (.cells #[.int .u64 x] 59)) B (some ⟨n, 0, none⟩) [x] := fun _ => by
  subst hn
  exact ⟨_, _, _, rfl, hB, heap_alloc_new W _, fun j hj => by
    match j, hj with
    | 0, _ => rfl⟩
theorem u64s_two (W : World) (n : Nat) (x y : Int) (B : Nat) (hB : B ≤ W.heap.size) (hn : n = W.heap.size) : U64s (W.alloc (.cells #[.int .u64 x, .int .u64 y] 59)) B (some ⟨n, 0, none⟩) [x, y] := fun _ => by
  subst hn
  exact ⟨_, _, _, rfl, hB, heap_alloc_new W _, fun j hj => by
    match j, hj with
    | 0, _ => rfl
    | 1, _ => rfl⟩
/-- What targets has to return. -/
def TargTo (l : List Int) (w : World) (e : Ending) (w' : World) : Prop := ∃ (q : Option Addr) (c : Nat), e = .returned (.slice q l.length c) ∧ U64s w' w.heap.size q l ∧ Below w.heap.size w w'
set_option maxRecDepth 100000 in
set_option maxHeartbeats 4000000 in
theorem targets_call (i : Ins) (hi : i.Ok) (at_ : Nat) (hat : at_ ≤ 1099511627776) (w : World) (hG : GW w) : Calls Tryd.prog 25 #[.agg #[.int .u16 i.c, .int .u8 i.jt, .int .u8 i.jf, .int .u32 i.k], .int .i64 at_] w (TargTo (targL i at_) w) := by
  obtain ⟨c, jt, jf, k⟩ := i
  obtain ⟨c0, c1, t0, t1, f0, f1, k0, k1⟩ := hi
  simp only at c0 c1 t0 t1 f0 f1 k0 k1
  have HF := Lib.hid (fun W (g : GW W) => forks_call c c0 c1 W g)
  have HG := Lib.hid (hG.alloc (.cells #[.int .u16 c, .int .u8 jt, .int .u8 jf, .int .u32 k] 33))
  have HB := Lib.hid (bx4 w (.int .u16 c) (.int .u8 jt) (.int .u8 jf) (.int .u32 k) 33)
  have HA := Lib.hid (ball w (.cells #[.int .u16 c, .int .u8 jt, .int .u8 jf, .int .u32 k] 33))
  unfold targL
  simp only
  have u0 : IntKind.u64.wrap (at_ : Int) = at_ := by rw [IntKind.wrap_u64]; omega
  have u1 : IntKind.u64.wrap ((at_ : Int) + 1) = at_ + 1 := by rw [IntKind.wrap_u64]; omega
  have u2 : IntKind.u64.wrap k = k := by rw [IntKind.wrap_u64]; omega
  have u3 : IntKind.u64.wrap ((at_ : Int) + 1 + k) = at_ + 1 + k := by rw [IntKind.wrap_u64]; omega
  have u4 : IntKind.u64.wrap jt = jt := by rw [IntKind.wrap_u64]; omega
  have u5 : IntKind.u64.wrap ((at_ : Int) + 1 + jt) = at_ + 1 + jt := by rw [IntKind.wrap_u64]; omega
  have u6 : IntKind.u64.wrap jf = jf := by rw [IntKind.wrap_u64]; omega
  have u7 : IntKind.u64.wrap ((at_ : Int) + 1 + jf) = at_ + 1 + jf := by rw [IntKind.wrap_u64]; omega
  clear hat t0 t1 f0 f1 k0 k1
  by_cases h5 : c = 5
  · subst h5
    rw [if_pos rfl]
    clear c0 c1 hG HF
    go_enter Tryd.func25, Tryd.ntmps25
    go_wp2
    go_ret
    exact ⟨_, _, rfl, u64s_one _ _ _ _ HA.out.size (by simp), th2 HA.out (ball _ _)⟩
  · rw [if_neg h5]
    have e5 : (c == 5) = false := beq_eq_false_iff_ne.2 h5
    obtain ⟨d, hd⟩ : ∃ a, a = forksB c := ⟨_, rfl⟩
    rw [← hd] at HF ⊢
    clear hd c0 c1 hG h5
    cases d with
    | true =>
      rw [if_pos rfl]
      go_enter Tryd.func25, Tryd.ntmps25
      go_wp2_with (go_at_call 43; ((with_reducible refine (HF.out _ HG.out).mono ?_); rintro e w1 ⟨rfl, b1⟩); obtain ⟨s0, s1, s2, s3⟩ := kp4 b1 HB.out)
      go_ret
      exact ⟨_, _, rfl, u64s_two _ _ _ _ _ (th2 HA.out b1).size rfl, th2 (th2 HA.out b1) (ball _ _)⟩
    | false =>
      rw [if_neg Bool.false_ne_true]
      go_enter Tryd.func25, Tryd.ntmps25
      go_wp2_with (go_at_call 43; ((with_reducible refine (HF.out _ HG.out).mono ?_); rintro e w1 ⟨rfl, b1⟩); obtain ⟨s0, s1, s2, s3⟩ := kp4 b1 HB.out)
      go_ret
      exact ⟨_, _, rfl, fun h => absurd h (by simp), th2 HA.out b1⟩
theorem decimal_call (n : Nat) (hn : n < 18446744073709551616) (w : World) (hG : GA w) : Calls Tryd.prog 46 #[.int .u64 n] w fun e w' => e = .returned (.string (bs (digL n))) ∧ Below w.heap.size w w' := by
  have HC := Lib.hid (fmt_call n hn w hG)
  clear hn hG
  go_enter Tryd.func46, Tryd.ntmps46
  go_wp2_with (go_at_call 54; ((with_reducible refine (HC.out).mono ?_); rintro e w1 ⟨rfl, b1⟩))
  go_ret
  exact ⟨rfl, b1⟩
theorem digL_short {n : Nat} (h : n < 10000000000000000000) : (digL n).length ≤ 19 := digL_len h
theorem label_call (n : Nat) (hn : n < 10000000000000000000) (w : World) (hG : GA w) : Calls Tryd.prog 39 #[.int .u64 n] w fun e w' => e = .returned (.string (bs (76 :: digL n))) ∧ Below w.heap.size w w' := by
  have HC := Lib.hid (decimal_call n (by omega) w hG)
  have hl := digL_len hn
  obtain ⟨l, hll⟩ : ∃ l, l = digL n := ⟨_, rfl⟩
  rw [← hll] at HC hl ⊢
  clear hn hG hll
  go_enter Tryd.func39, Tryd.ntmps39
  go_wp2_with (first
    | (go_at_call 46; ((with_reducible refine (HC.out).mono ?_); rintro e w1 ⟨rfl, b1⟩))
    | ((with_reducible show wpList _ _ _ (⟨some 5, _, _, _, _, _⟩ :: _) _ _)
       refine wpList_cat (x := [76]) rfl rfl rfl rfl (by simp; omega) ?_))
  go_ret
  exact ⟨rfl, b1⟩
/-- Strings that lie in memory, in a row of one's own. -/
def strV (l : List (List UInt8)) : List Value := l.map (fun t => .string (bs t))
theorem strV_len (l : List (List UInt8)) : (strV l).length = l.length := by simp [strV]
theorem str_info : (Tryd.prog.info? 9).map (fun i => (i.zero, i.size, i.bytes)) = some (some (.string ⟨#[]⟩), 1, 16) := by kernel_rfl
/-- What operands has to return. -/
def WordsTo (l : List (List UInt8)) (w : World) (e : Ending) (w' : World) : Prop := ∃ (q : Option Addr) (c : Nat), e = .returned (.slice q l.length c) ∧ w'.ownsRow w.heap.size 9 1 (.slice q l.length c) l.length (strV l) ∧ Below w.heap.size w w'
theorem own_slice {w : World} {B n s : Nat} {e : TypeId} {v : Value} {xs : List Value} (h : w.ownsRow B e s v n xs) : ∃ q c, v = .slice q n c := by
  rcases h.2 with ⟨rfl, h0⟩ | ⟨g, cap, cur, rfl, _⟩
  · exact ⟨none, 0, by rw [h0]⟩
  · exact ⟨_, _, rfl⟩
theorem own_below {w w' : World} {B n s : Nat} {e : TypeId} {v : Value} {xs : List Value} (h : w.ownsRow B e s v n xs) (b : Below w.heap.size w w') : w'.ownsRow B e s v n xs := by
  refine ⟨h.1, ?_⟩
  rcases h.2 with h2 | ⟨g, cap, cur, hv, hgB, hg, r⟩
  · exact Or.inl h2
  · exact Or.inr ⟨g, cap, cur, hv, hgB, (b.block g (Array.getElem?_eq_some_iff.1 hg).1).trans hg, r⟩
theorem own_lower {w : World} {B B' n size : Nat} {e : TypeId} {v : Value} {xs : List Value} (h : w.ownsRow B e size v n xs) (hB : B' ≤ B) : w.ownsRow B' e size v n xs := by
  obtain ⟨h1, h2⟩ := h
  refine ⟨h1, ?_⟩
  rcases h2 with h2 | ⟨g, cap, cur, hv, hgB, r⟩
  · exact Or.inl h2
  · exact Or.inr ⟨g, cap, cur, hv, by omega, r⟩
end Go.Proofs.YtlneiiljdghmjaaDoor
