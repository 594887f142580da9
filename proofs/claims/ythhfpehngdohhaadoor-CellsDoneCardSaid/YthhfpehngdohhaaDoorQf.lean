/- What the landed call Reached returns: what is reached. Condition: a slice is as long as its capacity allows. -/
import Derived.Test.YthhfpehngdohhaaDoorQe
import Derived.Laws.EntriesVeiled
namespace Go.Proofs.YthhfpehngdohhaaDoor
open Go.RowKit Go.Shelf
set_option linter.unusedVariables false
attribute [local go_sem] Oper.semAt_some

theorem wpListIn_make_full {F : Fence} {n : Nat} {P : Program} (w : World) {ops : Array Oper} {rest : List Oper} {o : Oper} {a : Act} {Q : Exit → Act → World → Prop}
    (hg : o.guard = none) (l c : Operand) (t : TypeId) (hop : o.op = Op.makeSlice t l c)
    (base : Nat) (e : TypeId) (i : TypeInfo) (z : Value) (size : Nat) (h1 : P.underlying t = some (.slice e)) (h2 : P.info? e = some i) (h3 : i.zero = some z) (h4 : i.size = size)
    (kl kc : IntKind) (L C : Int) (m : Nat) (hl : a.eval l = .int kl L) (hc : a.eval c = .int kc C) (hL : L = (m : Int)) (hC : C = (m : Int)) (b2 : i.bytes * m ≤ 281474976710656) (b3 : m ≤ maxLen) (b4 : base ≤ w.heap.size)
    (hK : ∀ w', w'.ownsRow base e size (.slice (some ⟨w.heap.size, 0, none⟩) m m) m (madeCells z.cells (m * size)).toList → w.grownBy w' none → wpListIn F n P ops Q rest (a.put o.dst (.slice (some ⟨w.heap.size, 0, none⟩) m m)) w') :
    wpListIn F n P ops Q (o :: rest) a w := by
  refine wpListIn_plain hg fun K hK' => ?_
  obtain ⟨w', hrun, r1, r2⟩ := run_make_full (P := P) w base t e i z size h1 h2 h3 h4 kl kc m b2 b3 b4
  subst hL
  subst hC
  unfold Oper.wpIn
  refine ⟨?_, ?_⟩
  · simp [Oper.about, hop]
  · rw [Oper.semAt_plain F _ _ (by rw [hop]; intro c hc'; cases hc')]
    simp [execOp, hop, hl, hc, hrun, Result.andThen]
    exact hK' _ _ (hK w' r1 r2)
theorem reach_call (R b x n cap : Nat) (y : Bool) (w : World) (hb : w.cell? ⟨b, 0, none⟩ = some (.slice (some ⟨R, 0, none⟩) n cap)) (hx : x < n) (hc : w.cell? ⟨R, x, none⟩ = some (.bool y)) (hf : w.frozen? ⟨R, x, none⟩ = false) :
    Calls Tryd.prog 23 #[.int .i64 x, .pointer (some ⟨b, 0, none⟩)] w fun e w' => e = .returned (.tuple #[]) ∧ w' = w.setCell ⟨R, x, none⟩ (.bool true) := by
  have x1 : (x : Int) < n := by omega
  have x0 : (0 : Int) ≤ x := by omega
  clear hx
  go_enter Tryd.func23, Tryd.ntmps23
  go_wp2
  go_end0
  exact ⟨rfl, rfl⟩
theorem reached_long (a0 : Option Addr) (n cap : Nat) (w : World) (hn : (4096 : Int) < n) : Calls Tryd.prog 10 #[.slice a0 n cap] w fun e w' => e = .returned (.slice none 0 0) ∧ w = w' := by
  have HT := Lib.hid (fun W => tooLong_call a0 n cap W)
  rw [decide_eq_true hn] at HT
  clear hn
  go_enter Tryd.func10, Tryd.ntmps10
  go_wp2_with (go_at_call 22; ((with_reducible refine (HT.out _).mono ?_); rintro e w1 ⟨rfl, rfl⟩))
  go_ret
  exact ⟨rfl, rfl⟩
/-- Between two rounds: the row, its box, the closure's box. -/
def ReachI (w : World) (B n : Nat) (f : Nat → Bool) (V : World) : Prop :=
  V.ownsRow w.heap.size 4 1 (.slice (some ⟨w.heap.size, 0, none⟩) n n) n (rowB n f) ∧ Boxed V B 24 (.slice (some ⟨w.heap.size, 0, none⟩) n n) ∧
  Boxed V (B + 1) 48 (.func (.func 23) #[] #[.pointer (some ⟨B, 0, none⟩)]) ∧ Below w.heap.size w V
theorem ReachI.on {w V V' : World} {B n : Nat} {f : Nat → Bool} (h : ReachI w B n f V) (b : Below V.heap.size V V') : ReachI w B n f V' :=
  ⟨own_on h.1 b, (b.block _ (Array.getElem?_eq_some_iff.1 h.2.1).1).trans h.2.1, (b.block _ (Array.getElem?_eq_some_iff.1 h.2.2.1).1).trans h.2.2.1, thn h.2.2.2 b⟩
theorem ReachI.set_ {w V : World} {B n x : Nat} {f g : Nat → Bool} (h : ReachI w B n f V) (hB : w.heap.size < B) (hg : ∀ j, g j = (f j || j == x)) : ReachI w B n g (V.setCell ⟨w.heap.size, x, none⟩ (.bool true)) := by
  refine ⟨?_, ?_, ?_, h.2.2.2.setCell (p := ⟨w.heap.size, x, none⟩) (Nat.le_refl _) _⟩
  · have o := (h.1.stored x (.bool true)).1
    rw [rowB_set] at o
    rw [rowB_congr (g := fun j => f j || j == x) (fun j _ => hg j)]
    exact o
  · exact (heap_setCell_other V _ B _ (show B ≠ w.heap.size by omega)).trans h.2.1
  · exact (heap_setCell_other V _ (B + 1) _ (show B + 1 ≠ w.heap.size by omega)).trans h.2.2.1
theorem reachI_own (w : World) (B n B' : Nat) (f : Nat → Bool) (hB : w.heap.size ≤ B') : OwnFrom B' (fun (_ : Unit) V => ReachI w B n f V) := by
  rintro s V V' row ⟨h1, h2, h3, h4⟩ hg hr
  have hb : ∀ {b : Nat} {t : TypeId} {v : Value}, Boxed V b t v → Boxed V' b t v := fun {b t v} hb => hb.kept hg fun e => by
    obtain ⟨_, o, ho2, hc⟩ := hr _ e.symm
    rw [show V.heap[b]? = _ from hb] at ho2; cases ho2; cases hc
  refine ⟨h1.kept hg ?_, hb h2, hb h3, h4.grown hg h4.size fun k e => by have := (hr k e).1; omega⟩
  rcases h1.2 with ⟨h0, _⟩ | ⟨g, cap, cur, hv, _, hgb, _⟩
  · cases h0
  · refine .inr fun e => ?_
    rw [hv] at e
    obtain ⟨_, o, ho2, hc⟩ := hr g e.symm
    rw [hgb] at ho2; cases ho2; cases hc
theorem reachI_call {w V : World} {B n x : Nat} {f g : Nat → Bool} (hlt : w.heap.size < B) (hx : x < n) (h : ReachI w B n f V) (hg : ∀ j, g j = (f j || j == x)) :
    Calls Tryd.prog 23 #[.int .i64 x, .pointer (some ⟨B, 0, none⟩)] V fun e V' => e = .returned (.tuple #[]) ∧ ReachI w B n g V' ∧ V.grownBy V' (some w.heap.size) :=
  (reach_call w.heap.size B x n n (f x) V h.2.1.cell hx ((h.1.cellAt x (by omega)).trans (rowB_get _ hx)) (h.1.frozenAt x)).mono fun e V' ⟨h1, h2⟩ => by
    subst h2
    exact ⟨h1, h.set_ hlt hg, of_set V w.heap.size x _⟩
set_option maxRecDepth 100000 in
set_option maxHeartbeats 8000000 in
theorem reached_short (a0 : Option Addr) (n cap : Nat) (p : List Ins) (w : World) (hl : p.length = n) (hn : n ≤ 4096) (hok : OkL p) (hG : GW w) (hR : RdI w w.heap.size a0 p) :
    Calls Tryd.prog 10 #[.slice a0 n cap] w (BoolsTo n (reachB p) w) := by
  obtain ⟨i0, hi, hz0, hz1, hz2⟩ := info_parts bool_info
  have HI := Lib.hid hi
  have H0 := Lib.hid hz0
  have H1 := Lib.hid hz1
  have hm0 : i0.bytes * n ≤ 281474976710656 := by rw [hz2]; omega
  have hm1 : n ≤ maxLen := by unfold maxLen; omega
  have HL := Lib.hid hl
  have HR := Lib.hid hR
  have HO := Lib.hid hok
  have HG := Lib.hid hG
  have HT := Lib.hid (fun W => tooLong_call a0 n cap W)
  rw [decide_eq_false (show ¬ (4096 : Int) < n by omega)] at HT
  have HS := Lib.hid (fun (at_ : Int) W => successors_call a0 n cap at_ W)
  have n4 : (n : Int) ≤ 4096 := by omega
  have HE := Lib.hid (show reachB p = mark (nextL p) (fun _ => true) n by unfold reachB; rw [hl])
  clear hi hz0 hz1 hz2 hl hok hR hG
  rw [HE.out]
  obtain ⟨M, hM⟩ : ∃ M, M = mark (nextL p) (fun _ => true) := ⟨_, rfl⟩
  have HM := Lib.hid hM
  have hM0 := Lib.hid (show ∀ j, M 0 j = (false || j == 0) from fun j => by rw [hM]; simp [mark])
  rw [← hM]
  clear hM HE
  by_cases hn0 : 0 < n
  · have n1 : (0 : Int) < n := by omega
    refine (callsIn_wide (n := 4)).1 ?_
    refine callsIn_of_wp_marks Tryd.func10 rfl trivial ?_ rfl
    simp only [Tryd.ntmps10, List.size_toArray, List.length_cons, List.length_nil, Nat.reduceAdd, Nat.reduceSub, Array.replicate_succ, Array.replicate_zero, List.push_toArray, List.append_toArray, List.nil_append, List.cons_append]
    gi_wp2_with (first
      | (gi_at_make
         refine wpListIn_make_full _ rfl _ _ 24 rfl w.heap.size 4 i0 _ 1 Tryd.underlying24 HI.out H0.out H1.out .i64 .i64 n n n rfl rfl rfl rfl hm0 hm1 (Nat.le_refl _) ?_
         intro w1 o1 g1
         have b1 : Below w.heap.size w w1 := (Below.refl _ _).grown g1 (Nat.le_refl _) (by intro k hk; cases hk)
         rw [made_bools] at o1
         have hlt : w.heap.size < w1.heap.size := (o1.lt _ rfl).2
         have HA : Hid (ReachI w w1.heap.size n (fun _ => false) ((w1.alloc (.cells #[.slice (some ⟨w.heap.size, 0, none⟩) n n] 24)).alloc (.cells #[.func (.func 23) #[] #[.pointer (some ⟨w1.heap.size, 0, none⟩)]] 48))) :=
           Lib.hid ⟨(o1.alloc _).alloc _, (Boxed.new w1 _ _).alloc _, by have h := Boxed.new (w1.alloc (.cells #[.slice (some ⟨w.heap.size, 0, none⟩) n n] 24)) 48 (.func (.func 23) #[] #[.pointer (some ⟨w1.heap.size, 0, none⟩)]); rw [World.size_alloc] at h; exact h, (b1.alloc b1.size _).alloc (by have := b1.size; simp; omega) _⟩
         have HRC := Lib.hid (reachI_call (g := M 0) hlt hn0 HA.out hM0.out)
         clear o1 g1 b1)
      | (refine ⟨trivial, ?_⟩
         gi_at_call 22
         refine (callsIn_wide.2 (HT.out _)).mono ?_
         rintro e w2 ⟨rfl, rfl⟩)
      | (refine ⟨trivial, ?_⟩
         gi_at_call 23
         refine (callsIn_wide.2 HRC.out).mono ?_
         rintro e V0 ⟨rfl, hA, _⟩
         have HA2 := Lib.hid hA
         have c1 := hA.2.1.cell
         have c2 := hA.2.2.1.cell
         clear hA))
    clear HRC HA HT c1 c2
    obtain ⟨B, hB⟩ : ∃ B, B = w1.heap.size := ⟨_, rfl⟩
    rw [← hB] at HA2 hlt ⊢
    clear hB
    refine wpIn_loop (fun a' V => ∃ (i : Nat) (ds : List Deferred) (u5 u20 u21 u22 u23 u24 u25 u26 u27 u28 u29 u30 u35 : Value), i ≤ n ∧ u20 = .int .i64 (i : Int) ∧ a' = { tmps := #[.slice a0 n cap, undef, .slice none 0 0, .pointer (some ⟨B, 0, none⟩), .pointer (some ⟨B + 1, 0, none⟩), u5, undef, .slice a0 n cap, .bool false, .slice a0 n cap, .int .i64 n, .slice (some ⟨w.heap.size, 0, none⟩) n n, .func (.func 23) #[] #[.pointer (some ⟨B, 0, none⟩)], .slice a0 n cap, .int .i64 n, .bool true, .func (.func 23) #[] #[.pointer (some ⟨B, 0, none⟩)], .tuple #[], .slice a0 n cap, .int .i64 n, u20, u21, u22, u23, u24, u25, u26, u27, u28, u29, u30, undef, undef, undef, undef, u35, undef], defers := ds } ∧ Hid (ReachI w B n (M i) V) ∧ Hid (Marks (w.heap.size + 1) V.heap.size ds V)) (fun a' _ => n - (intOf (a'.tmps.getD 20 undef)).toNat) ?start ?round
    case start => exact ⟨0, [], _, _, _, _, _, _, _, _, _, _, _, _, _, Nat.zero_le _, rfl, rfl, HA2, Lib.hid trivial⟩
    case round =>
      clear HA2
      rintro a' V ⟨i, ds, u5, u20, u21, u22, u23, u24, u25, u26, u27, u28, u29, u30, u35, hi, rfl, rfl, HA, HK⟩
      by_cases hlt2 : i < n
      · have s1 : V.cell? ⟨w.heap.size, i, none⟩ = some (.bool (M i i)) := (HA.out.1.cellAt i (by omega)).trans (rowB_get _ hlt2)
        have c1 := HA.out.2.1.cell
        have i1 : (i : Int) < n := by omega
        have i0 : (0 : Int) ≤ i := by omega
        have hst := Lib.hid (show ∀ j, M (i + 1) j = (M i j || (M i i && (nextL p i).contains j)) from fun j => by rw [HM.out]; show (_ || (_ && true && _)) = _; rw [Bool.and_true])
        cases hmi : M i i with
        | false =>
          rw [hmi] at s1 hst
          clear hmi
          gi_wp2
          refine ⟨⟨i + 1, ds, _, _, _, _, _, _, _, _, _, _, _, _, _, by omega, ?_, rfl, Lib.hid (show ReachI w B n (M (i + 1)) V by rw [show M (i + 1) = M i from funext fun j => by rw [hst.out j]; simp]; exact HA.out), HK⟩, ?_⟩
          · go_num
          · simp [intOf]; omega
        | true =>
          rw [hmi] at s1 hst
          clear hmi
          gi_wp2_with (refine ⟨trivial, ?_⟩
                       gi_at_call 24
                       refine (callsIn_wide.2 (HS.out _ _)).mono ?_
                       rintro e w2 ⟨rfl, rfl⟩)
          obtain ⟨W0, hW0⟩ : ∃ W0, W0 = (V.alloc (.cells #[.slice a0 n cap] 22)).alloc (.cells #[.int .i64 i] 3) := ⟨_, rfl⟩
          have z0 : W0.heap.size = V.heap.size + 2 := by rw [hW0]; simp
          have BW : Below V.heap.size V W0 := by rw [hW0]; exact ((Below.refl _ _).alloc (Nat.le_refl _) _).alloc (by simp) _
          have x1 : W0.cell? ⟨V.heap.size, 0, none⟩ = some (.slice a0 n cap) := by rw [hW0]; exact ((Boxed.new V _ _).alloc _).cell
          have x2 : W0.cell? ⟨V.heap.size + 1, 0, none⟩ = some (.int .i64 i) := by
            have h := (Boxed.new (V.alloc (.cells #[.slice a0 n cap] 22)) 3 (.int .i64 i)).cell
            rw [World.size_alloc] at h
            rw [hW0]; exact h
          have hV := HA.out.2.2.2
          have hBW := thn hV BW
          have hG := succ_gives (V.heap.size + 1) V.heap.size n cap a0 p i W0 HL.out hn HO.out (HG.out.on hBW) (by omega) (by omega) x2 x1 ((HR.out.below hBW (Nat.le_refl _)).more hBW.size)
          rw [nextA_nat] at hG
          have HN := Lib.hid (fun y (hy : y ∈ nextL p i) => (nextL_lt hy).2)
          rw [HL.out] at HN
          obtain ⟨l, hl⟩ : ∃ l, l = nextL p i := ⟨_, rfl⟩
          rw [← hl] at hG HN hst
          have HA0 := Lib.hid (HA.out.on BW)
          have HK0 := Lib.hid (HK.out.keep (W' := W0) fun D _ _ h => (BW.block D (Array.getElem?_eq_some_iff.1 h).1).trans h)
          have hRV := hV.size
          have hBV := World.block_lt_of_cell? V _ c1
          rw [← hW0]
          clear hW0 x1 x2 hl s1 c1 hBW hV BW
          refine wp_gives (S := (· = V.heap.size + 1)) (m := 2) (w0 := W0) (xs := plV l) (gf := 33) (lb := #[.pointer (some ⟨V.heap.size + 1, 0, none⟩), .pointer (some ⟨V.heap.size, 0, none⟩)]) rfl (enters_of Tryd.func33 (by kernel_rfl) rfl) hG (Below.refl _ _)
            (fun j U => ReachI w B n (fun y => M i y || (l.take j).contains y) U ∧ Marks (w.heap.size + 1) V.heap.size ds U) (fun _ _ => False)
            (fun j A C row h hg hr => ⟨reachI_own w B n W0.heap.size _ (by omega) () A C row h.1 hg hr, marks_own _ _ _ ds (by omega) () A C row h.2 hg hr⟩) (fun _ _ _ _ h _ _ => h)
            ⟨by rw [show (fun y => M i y || (l.take 0).contains y) = M i from funext fun y => by simp]; exact HA0.out, HK0.out⟩ ?after ?assign ?body ?done ?stop
          case assign =>
            intro lp x U K hK
            gi_wp2
            exact hK
          case body =>
            rintro lp j x U hx ⟨hr, hmk⟩ hz
            obtain ⟨y, hy, rfl⟩ := plV_get0 hx
            have hj : j < l.length := (List.getElem?_eq_some_iff.1 hy).1
            have hyn := HN.out y (List.mem_of_getElem? hy)
            have hyd : l.getD j 0 = y := by rw [List.getD_eq_getElem?_getD, hy]; rfl
            have HC := Lib.hid (reachI_call (g := fun z => M i z || (l.take (j + 1)).contains z) hlt hyn hr (fun z => by rw [take_contains hj z, hyd, Bool.or_assoc]))
            have c2 := hr.2.2.1.cell
            have HMk := Lib.hid hmk
            clear hG hr hx hy hyd hj hmk
            gi_wp2_with (refine ⟨trivial, ?_⟩
                         gi_at_call 23
                         refine (CallsIn.inRound lp (callsIn_wide.2 HC.out)).mono ?_
                         rintro e U' ⟨rfl, hr', hg'⟩)
            refine ⟨KeepsFrom.of_grownBy hg' (fun k e => by cases e; omega), ⟨(Below.refl 0 U).grown hg' (Nat.zero_le _) (fun k e => Nat.zero_le _), fun b o h1 h3 h4 => (hg'.block b (Array.getElem?_eq_some_iff.1 h3).1 (fun e => by injection e with e; rcases h1 with h1 | h1 <;> omega)).trans h3⟩, hr', ?_⟩
            exact HMk.out.keep fun D h1 h2 h3 => (hg'.block D (Array.getElem?_eq_some_iff.1 h3).1 (fun e => by injection e with e; omega)).trans h3
          case done =>
            rintro U ⟨hr, hmk⟩ hK
            rw [plV_len, List.take_of_length_le (Nat.le_refl _)] at hr
            have hD : W0.heap.size < U.heap.size := (Array.getElem?_eq_some_iff.1 hK).1
            gi_wp2
            refine ⟨⟨i + 1, by omega, { target := .collected W0.heap.size, args := #[] } :: ds, ⟨by omega, by rw [z0]⟩, Lib.hid (show ReachI w B n (M (i + 1)) U by rw [show M (i + 1) = fun y => M i y || l.contains y from funext fun j => by rw [hst.out j, Bool.true_and]]; exact hr), Lib.hid (((hmk.raise (by omega)).push (by omega) hK).raise hD)⟩, ?_⟩
            simp [intOf]; omega
          case stop =>
            rintro j U h _
            exact h.elim
      · obtain rfl : n = i := by omega
        have c1 := HA.out.2.1.cell
        gi_wp2
        refine leaves_marks ds _ V HK.out fun W' hT => ?_
        have h := hT (fun _ U => ReachI w B n (M n) U) (reachI_own w B n _ _ (by omega)) HA.out
        exact ⟨_, results_tmp rfl _ _ _, _, _, rfl, h.1, h.2.2.2⟩
  · obtain rfl : n = 0 := by omega
    refine (callsIn_wide (n := 4)).1 ?_
    refine callsIn_of_wp_marks Tryd.func10 rfl trivial ?_ rfl
    simp only [Tryd.ntmps10, List.size_toArray, List.length_cons, List.length_nil, Nat.reduceAdd, Nat.reduceSub, Array.replicate_succ, Array.replicate_zero, List.push_toArray, List.append_toArray, List.nil_append, List.cons_append]
    gi_wp2_with (first
      | (gi_at_make
         refine wpListIn_make_full _ rfl _ _ 24 rfl w.heap.size 4 i0 _ 1 Tryd.underlying24 HI.out H0.out H1.out .i64 .i64 0 0 0 rfl rfl rfl rfl hm0 hm1 (Nat.le_refl _) ?_
         intro w1 o1 g1
         have b1 : Below w.heap.size w w1 := (Below.refl _ _).grown g1 (Nat.le_refl _) (by intro k hk; cases hk)
         rw [made_bools] at o1)
      | (refine ⟨trivial, ?_⟩
         gi_at_call 22
         refine (callsIn_wide.2 (HT.out _)).mono ?_
         rintro e w2 ⟨rfl, rfl⟩))
    refine wpIn_loop_rounds 1 ?_
    rw [roundsIn_succ]
    gi_wp2
    exact ⟨_, results_tmp rfl _ _ _, _, _, rfl, by rw [rowB_congr (g := fun _ => false) (fun j hj => absurd hj (by omega))]; exact (o1.alloc _).alloc _, (b1.alloc b1.size _).alloc (by have := b1.size; simp; omega) _⟩
theorem reached_c (a0 : Option Addr) (n cap : Nat) (p : List Ins) (w : World) (hG : GW w) (hl : p.length = n) (hok : OkL p) (hR : RdI w w.heap.size a0 p) : Calls Tryd.prog 10 #[.slice a0 n cap] w (BoolsTo (lenX n) (reachB p) w) := by
  unfold lenX
  by_cases hn : n ≤ 4096
  · rw [if_pos hn]; exact reached_short a0 n cap p w hl hn hok hG hR
  · rw [if_neg hn]
    exact (reached_long a0 n cap w (by omega)).mono fun e w' ⟨h1, h2⟩ => ⟨none, 0, h1, h2 ▸ World.ownsRow_nil _ _ _ _, h2 ▸ Below.refl _ _⟩
end Go.Proofs.YthhfpehngdohhaaDoor
