/- What the calls that stage 18's statements ask have to return, as the chapter says it; what an assignment leaves within its bounds. -/
import Derived.Test.YtlenjfodjkhpmaaGreatDoorP4
import Derived.Test.YtlenjfodjkhpmaaGreatDoorF8
import Derived.Test.YtlenjfodjkhpmaaGreatDoorP3
namespace Go.Proofs.YtlenjfodjkhpmaaGreatDoor
set_option maxRecDepth 100000
open Go.RowKit
set_option linter.unusedVariables false
set_option linter.unusedSimpArgs false
attribute [local go_sem ↓] Go.wp_at_zero Go.wp_at_succ

section
variable {P : Program}
theorem run_storeVar_cell17 (w : World) (b o : Nat) (ty : TypeId) (v : Value) (h1 : v.oneCell' = true) (ht : w.there b o 1) (hi : (P.info? ty).map (·.size) = some 1) :
 (storeVar ty ⟨b, o, none⟩ v).run P w = .ok () (w.setCells b o [v]) := by
 have := run_storeCells_cells (P := P) b o [v] 0 w (fun j hj => by simpa using (ht j (by simpa using hj)).1) (fun j hj => by simpa using (ht j (by simpa using hj)).2) (fun x hx => by simp at hx; subst hx; exact h1)
 have hc : v.cells = #[v] := by cases v <;> first | rfl | cases h1
 cases hq : P.info? ty with
 | none => simp [hq] at hi
 | some i =>
  have hs : i.size = 1 := by simpa [hq] using hi
  simp only [Nat.add_zero] at this
  simp [storeVar, sizeOf, typeInfo, hq, hc, hs, this]
theorem wpList_store_cell17 {ops : Array Oper} {rest : List Oper} {op : Oper} {a : Act} {w : World} {Q : Exit → Act → World → Prop} (hgd : op.guard = none) (ty : TypeId) (x y : Operand) (ho : op.op = .store ty x y)
 (b o : Nat) (v : Value) (hx : a.eval x = .pointer (some ⟨b, o, none⟩)) (hy : a.eval y = v) (h1 : v.oneCell' = true) (ht : w.there b o 1) (hi : (P.info? ty).map (·.size) = some 1)
 (h : wpList P ops Q rest (a.put op.dst undef) (w.setCells b o [v])) : wpList P ops Q (op :: rest) a w :=
 wpList_plain hgd fun _ hK => by
  unfold Oper.wp execOp
  simp only [ho, hx, hy, Instr.storeAt, Instr.sureAddr, Sem.run_bind, Sem.run_pure, Result.andThen_ok, run_storeVar_cell17 w b o ty v h1 ht hi]
  exact hK _ _ h
end
theorem nums_one17 (k : IntKind) (l : List Int) : ∀ u ∈ l.map (Value.int k), u.oneCell' = true := fun u hu => by
 obtain ⟨x, _, rfl⟩ := List.mem_map.1 hu
 rfl
theorem nums_flat17 {k : IntKind} {w : World} {q : Option Addr} {l : List Int} (h : NumsAt k w q l) (h0 : 0 < l.length) : ∃ ad, q = some ad ∧ ∀ j u, (l.map (Value.int k))[j]? = some u → w.cell? (ad.add j) = some u := by
 obtain ⟨g, o, e, _⟩ := h 0 l[0] (List.getElem?_eq_getElem h0)
 refine ⟨_, e, fun j u hu => ?_⟩
 rw [List.getElem?_map] at hu
 obtain ⟨x, hx, rfl⟩ := Option.map_eq_some_iff.1 hu
 obtain ⟨g', o', e', hc⟩ := h j x hx
 rw [e] at e'
 injection e' with e'
 injection e' with e1 e2
 subst e1 e2
 rw [Addr.add_lit]
 exact hc
theorem nums_own17 {k : IntKind} {w : World} {B n c : Nat} {t : TypeId} {q : Option Addr} {l : List Int} (h : w.ownsRow B t 1 (.slice q n c) n (l.map (Value.int k))) (hn : n = l.length) : NumsAt k w q l := fun i x hx => by
 have hi := (List.getElem?_eq_some_iff.1 hx).1
 obtain ⟨g, cap, hv, hB, hl⟩ := h.form (by omega)
 injection hv with h1 h2 h3
 subst h1 h3
 refine ⟨g, 0, rfl, ?_⟩
 rw [Nat.zero_add]
 exact (h.cellAt i (by omega)).trans (by rw [List.getElem?_map, hx]; rfl)
structure C17 (w : World) (p : Pls) (P : Pol) (V : World) : Prop where
 bel : Below w.heap.size w V
 pol : V.heap[w.heap.size]? = some (.cells (plC p P).toArray 32 (0, 0))
 res : V.heap[w.heap.size + 1]? = some (.cells ([.slice none 0 0, .int .u8 0, .slice none 0 0, .int .u32 0, .int .u8 0, .slice none 0 0, .slice none 0 0, .int .u8 0, .int .u64 0, .bool false, .bool false, .bool false, .bool false] : List Value).toArray 32 (0, 0))
theorem C17.on {w : World} {p : Pls} {P : Pol} {V V' : World} (h : C17 w p P V) (b : Below V.heap.size V V') : C17 w p P V' :=
 ⟨thn16 h.bel b, (b.block _ (Array.getElem?_eq_some_iff.1 h.pol).1).trans h.pol, (b.block _ (Array.getElem?_eq_some_iff.1 h.res).1).trans h.res⟩
theorem C17.store {w : World} {p p' : Pls} {P P' : Pol} {V : World} (h : C17 w p P V) (i : Nat) (vs : List Value) (hi : i + vs.length ≤ 13) (he : (plC p P).take i ++ vs ++ (plC p P).drop (i + vs.length) = plC p' P') : C17 w p' P' (V.setCells w.heap.size i vs) :=
 ⟨below_setCells16 (Nat.le_refl _) _ _ _ h.bel, by rw [set_row17 (W := V) vs i _ V h.pol (by rw [plC_len]; exact hi), he], (heap_setCells16 V _ _ (by omega) _ _).trans h.res⟩
set_option maxRecDepth 100000
open Go.RowKit
set_option linter.unusedVariables false
set_option linter.unusedSimpArgs false
attribute [local go_sem ↓] Go.wp_at_zero Go.wp_at_succ

def RowW (B : Nat) (t : TypeId) (s : Nat) (v : Value) (n : Nat) (w : World) : Prop := ∃ xs, w.ownsRow B t s v n xs
theorem RowW.set {B : Nat} {t : TypeId} {s : Nat} {v : Value} {n : Nat} {w : World} (h : RowW B t s v n w) (g i : Nat) (x : Value) : RowW B t s v n (w.setCell ⟨g, i, none⟩ x) := by
 obtain ⟨xs, h0, h⟩ := h
 rcases h with h | ⟨g2, cap, cur, hv, hB, hg, h1, h2, h3, h4⟩
 ·exact ⟨xs, h0, Or.inl h⟩
 ·by_cases e : g2 = g
  ·subst e
   refine ⟨(cur.setIfInBounds i x).toList.take (n * s), ?_, Or.inr ⟨g2, cap, cur.setIfInBounds i x, hv, hB, ?_, h1, h2, ?_, ?_⟩⟩
   ·rw [List.length_take, Array.length_toList, Array.size_setIfInBounds, h3]
    exact Nat.min_eq_left (Nat.mul_le_mul_right _ h1)
   ·simp [World.setCell, Array.getElem?_modify, hg]
   ·rw [Array.size_setIfInBounds]; exact h3
   ·rfl
  ·exact ⟨xs, h0, Or.inr ⟨g2, cap, cur, hv, hB, (heap_setCell_other w ⟨g, i, none⟩ g2 x e).trans hg, h1, h2, h3, h4⟩⟩
set_option maxRecDepth 100000
open Go.RowKit
set_option linter.unusedVariables false
set_option linter.unusedSimpArgs false
attribute [local go_sem ↓] Go.wp_at_zero Go.wp_at_succ

structure OwnP (B : Nat) (w : World) (p : Pls) (P : Pol) : Prop where
 al : p.an = P.ar.length
 fl : p.fn = P.fl.2.length
 ll : p.ln = P.lg.2.length
 ml : p.mn = P.fa.length
 ar : w.ownsRow B 3 1 (.slice p.aq p.an p.ac) p.an (P.ar.map (Value.int .i64))
 fi : w.ownsRow B 67 2 (.slice p.fq p.fn p.fc) p.fn (rowC encC P.fl.2)
 lo : w.ownsRow B 67 2 (.slice p.lq p.ln p.lc) p.ln (rowC encC P.lg.2)
 fa : w.ownsRow B 28 1 (.slice p.mq p.mn p.mc) p.mn ((P.fa.map fun (x : Nat) => (x : Int)).map (Value.int .u32))
theorem OwnP.pol {B : Nat} {w : World} {p : Pls} {P : Pol} (h : OwnP B w p P) : PolAt w p P := ⟨h.al, h.fl, h.ll, h.ml, nums_own17 h.ar h.al, LsAt.of_own h.fi h.fl, LsAt.of_own h.lo h.ll, nums_own17 h.fa (by rw [List.length_map]; exact h.ml)⟩
theorem OwnP.on {B : Nat} {w w' : World} {p : Pls} {P : Pol} (h : OwnP B w p P) (b : Below w.heap.size w w') : OwnP B w' p P := ⟨h.al, h.fl, h.ll, h.ml, owns_on16 h.ar b, owns_on16 h.fi b, owns_on16 h.lo b, owns_on16 h.fa b⟩
theorem errnoF_ok (s : ByteArray) : (errnoF s).1 < 4294967296 := by
 unfold errnoF
 split
 ·show 2147483648 < _; decide
 ·split
  ·rename_i n h
   have := errnoR_lt h
   show 327680 + n < 4294967296
   omega
  ·show 0 < _; decide
theorem setF_len (P : Pol) (k v : ByteArray) (hv : v.size ≤ 1000) (hf : P.fl.2.length ≤ 100) (hl : P.lg.2.length ≤ 100) : (setF P k v).1.ar = P.ar ∧ (setF P k v).1.fa = P.fa ∧ (setF P k v).1.fl.2.length ≤ 100 ∧ (setF P k v).1.lg.2.length ≤ 100 ∧ (setF P k v).2.length ≤ 1000 := by
 unfold setF
 split
 ·exact ⟨rfl, rfl, (step_bound true v P.fl.1 P.fl.2 hv hf).1, hl, (step_bound true v P.fl.1 P.fl.2 hv hf).2⟩
 ·split
  ·exact ⟨rfl, rfl, hf, (step_bound false v P.lg.1 P.lg.2 hv hl).1, (step_bound false v P.lg.1 P.lg.2 hv hl).2⟩
  ·split
   ·split
    ·exact ⟨rfl, rfl, hf, hl, Nat.zero_le _⟩
    ·exact ⟨rfl, rfl, hf, hl, by show 1 ≤ 1000; decide⟩
   ·exact ⟨rfl, rfl, hf, hl, Nat.zero_le _⟩
set_option maxRecDepth 100000
open Go.RowKit
set_option linter.unusedVariables false
set_option linter.unusedSimpArgs false

structure RestrictC (G : World → Prop) : Prop where
 on : ∀ {w w' : World}, G w → Below w.heap.size w w' → G w'
 key : ∀ (s : ByteArray) (w : World), G w → s.size ≤ 200 → Calls Tryz.prog 70 #[.string s] w fun e w' => e = .returned (.bool (keyR18 s)) ∧ Below w.heap.size w w'
 set : ∀ (p : Pls) (P : Pol) (a : As) (w : World), G w → P.Ok → PolAt w p P → Rises18 P → p.an ≤ 10000 → p.mn ≤ 10000 → p.fn ≤ 100 → p.ln ≤ 100 → a.val.size ≤ 1000 → a.key.size ≤ 200 → Calls Tryz.prog 71 #[plV p P, asV a] w fun e w' => ∃ pb p' v, (P.fm ≤ 2 → pb = putB18 P.fm a.val) ∧ e = .returned (.tuple #[plV p' (setR pb P a.key a.val).1, v]) ∧ OwnP w.heap.size w' p' (setR pb P a.key a.val).1 ∧ w'.ownsRow w.heap.size 57 4 v ((setR pb P a.key a.val).2.map (nteP a)).length (rowC encN ((setR pb P a.key a.val).2.map (nteP a))) ∧ Below w.heap.size w w'
 words : ∀ (s : ByteArray) (w : World), G w → s.size ≤ 1000 → Calls Tryz.prog 154 #[.string s] w fun e w' => ∃ q c, e = .returned (.slice q (wdL s.data.toList).length c) ∧ Below w.heap.size w w'
 bool : ∀ (s : ByteArray) (w : World), G w → s.size ≤ 1000 → Calls Tryz.prog 159 #[.string s] w fun e w' => e = .returned (.tuple #[.bool ((boolR s).getD false), .int .i64 (boolE s)]) ∧ Below w.heap.size w w'
 turned : ∀ (s : ByteArray) (w : World), G w → s.size ≤ 1000 → Calls Tryz.prog 188 #[.string s] w fun e w' => e = .returned (.tuple #[.string (turnR s).1, .bool (turnR s).2]) ∧ Below w.heap.size w w'
 fname : ∀ (n : Nat) (w : World), G w → n < 4294967296 → Calls Tryz.prog 87 #[.int .u32 n] w fun e w' => e = .returned (.string ((nameR famT n).getD ⟨#[]⟩)) ∧ Below w.heap.size w w'
 spaces : ∀ (w : World), G w → Calls Tryz.prog 61 #[] w fun e w' => e = .returned (.int .u64 allN) ∧ Below w.heap.size w w'
/-! ### bounds -/
theorem findR_mem {l : List En10} {s : ByteArray} {n : Nat} : findR l s = some n → ∃ e ∈ l, e.2 = n := by
 induction l with
 | nil => intro h; cases h
 | cons a r ih =>
  intro h
  unfold findR at h
  split at h
  ·injection h with h
   exact ⟨a, List.mem_cons_self, h⟩
  ·obtain ⟨e, he, h2⟩ := ih h
   exact ⟨e, List.mem_cons_of_mem _ he, h2⟩
theorem famT_lt : ∀ e ∈ famT, e.2 < 4294967296 := fun e he => of_decide_eq_true (List.all_eq_true.1 (show (famT.all fun e => decide (e.2 < 4294967296)) = true by decide +kernel) e he)
theorem spcT_lt : ∀ e ∈ spcT, e.2 < 2 ^ 64 := fun e he => of_decide_eq_true (List.all_eq_true.1 (show (spcT.all fun e => decide (e.2 < 2 ^ 64)) = true by decide +kernel) e he)
theorem spcN_lt (w : List UInt8) : spcN w < 2 ^ 64 := by
 unfold spcN
 cases h : findR spcT (bs w) with
 | none => show 0 < 2 ^ 64; decide
 | some n =>
  obtain ⟨e, he, h2⟩ := findR_mem h
  have := spcT_lt e he
  show n < 2 ^ 64
  omega
theorem orL_lt : ∀ l, orL l < 2 ^ 64
 | [] => by show 0 < 2 ^ 64; decide
 | w :: r => Nat.or_lt_two_pow (spcN_lt w) (orL_lt r)
theorem arcS_ok : ∀ (ws : List (List UInt8)) (r : List Int × List (Int × ByteArray)), (∀ x ∈ r.1, (Lit.int .i64 x).wf = true) → ∀ x ∈ (ws.foldl arcS r).1, (Lit.int .i64 x).wf = true
 | [], r, h => h
 | w :: ws, r, h => arcS_ok ws _ (by
   unfold arcS
   split
   ·rename_i he
    intro x hx
    rcases mem_insU.1 hx with rfl | hx
    ·obtain ⟨h1, h2⟩ := parR_lt _ he
     generalize (parR (bs w)).1 = z at h1 h2
     obtain rfl | rfl | rfl | rfl | rfl | rfl : z = 0 ∨ z = 1 ∨ z = 2 ∨ z = 3 ∨ z = 4 ∨ z = 5 := by omega
     all_goals decide
    ·exact h x hx
   ·exact h)
theorem arcS_len : ∀ (ws : List (List UInt8)) (r : List Int × List (Int × ByteArray)), (ws.foldl arcS r).1.length ≤ r.1.length + ws.length ∧ (ws.foldl arcS r).2.length ≤ r.2.length + ws.length
 | [], r => ⟨Nat.le_refl _, Nat.le_refl _⟩
 | w :: ws, r => by
   have ih := arcS_len ws (arcS r w)
   have h1 : (arcS r w).1.length ≤ r.1.length + 1 ∧ (arcS r w).2.length ≤ r.2.length + 1 := by
    unfold arcS
    split
    ·exact ⟨len_insU, Nat.le_succ _⟩
    ·exact ⟨Nat.le_succ _, by simp⟩
   simp only [List.foldl_cons, List.length_cons]
   omega
theorem famS_ok (b : Bool) : ∀ (ws : List (List UInt8)) (r : List Nat × List (Int × ByteArray)), (∀ x ∈ r.1, x < 4294967296) → ∀ x ∈ (ws.foldl (famS b) r).1, x < 4294967296
 | [], r, h => h
 | w :: ws, r, h => famS_ok b ws _ (by
   unfold famS
   split
   ·rename_i n he
    obtain ⟨e, hm, h2⟩ := findR_mem he
    have h3 := famT_lt e hm
    intro x hx
    simp only at hx
    split at hx
    ·rcases mem_insU.1 hx with rfl | hx
     ·omega
     ·exact h x hx
    ·exact h x (List.mem_filter.1 hx).1
   ·exact h)
theorem famS_len (b : Bool) : ∀ (ws : List (List UInt8)) (r : List Nat × List (Int × ByteArray)), (ws.foldl (famS b) r).1.length ≤ r.1.length + ws.length ∧ (ws.foldl (famS b) r).2.length ≤ r.2.length + ws.length
 | [], r => ⟨Nat.le_refl _, Nat.le_refl _⟩
 | w :: ws, r => by
   have ih := famS_len b ws (famS b r w)
   have h1 : (famS b r w).1.length ≤ r.1.length + 1 ∧ (famS b r w).2.length ≤ r.2.length + 1 := by
    unfold famS
    split
    ·refine ⟨?_, Nat.le_succ _⟩
     show (if _ then _ else _ : List Nat).length ≤ _
     split
     ·exact len_insU
     ·exact Nat.le_trans (List.length_filter_le _ _) (Nat.le_succ _)
    ·exact ⟨Nat.le_succ _, by simp⟩
   simp only [List.foldl_cons, List.length_cons]
   omega
theorem turn_size (v : ByteArray) : (turnR v).1.size ≤ v.size := by
 unfold turnR
 split
 ·show (bs (v.data.toList.drop 1)).size ≤ v.size
  rw [bs_size, List.length_drop]
  have : v.data.toList.length = v.size := by simp
  omega
 ·exact Nat.le_refl _
theorem wd_size (v : ByteArray) : (wdL v.data.toList).length ≤ v.size := by
 have h1 := wdL_len v.data.toList
 have h2 : v.data.toList.length = v.size := by simp
 omega
theorem setR_ok {pb : Bool} {P : Pol} {k v : ByteArray} (h : P.Ok) : (setR pb P k v).1.Ok := by
 have ha : ∀ x ∈ (arcF P.ar v).1, (Lit.int .i64 x).wf = true := by
  unfold arcF
  split
  ·intro x hx; cases hx
  ·exact arcS_ok _ _ h.a64
 have hf : ∀ x ∈ (famF pb P.fm P.fa v).1.2, x < 4294967296 := by
  unfold famF
  split
  ·intro x hx; cases hx
  ·split
   ·intro x hx; cases hx
   ·exact famS_ok _ _ _ h.m32
 have hm : (famF pb P.fm P.fa v).1.1 < 256 := by
  have := h.m8
  unfold famF
  split
  ·show 0 < 256; decide
  ·split
   ·show 1 < 256; decide
   ·show mdF P.fm (turnR v).2 < 256
    unfold mdF
    split
    ·split <;> decide
    ·exact this
 have hs : (spaF P.sp v).1 < 18446744073709551616 := by
  have h1 := orL_lt (wdL (turnR v).1.data.toList)
  have h2 := h.s64
  have h3 : allN < 18446744073709551616 := by decide
  unfold spaF
  repeat' split
  all_goals simp only
  all_goals first
   | decide
   | exact h2
   | (split <;> omega)
   | omega
 unfold setR
 repeat' split
 ·exact ⟨h.f8, h.l8, h.m8, h.d32, h.s64, h.f32, h.l32, ha, h.m32⟩
 ·exact ⟨h.f8, h.l8, hm, h.d32, h.s64, h.f32, h.l32, h.a64, hf⟩
 ·exact ⟨h.f8, h.l8, h.m8, h.d32, hs, h.f32, h.l32, h.a64, h.m32⟩
 all_goals exact ⟨h.f8, h.l8, h.m8, h.d32, h.s64, h.f32, h.l32, h.a64, h.m32⟩
theorem setR_len {pb : Bool} {P : Pol} {k v : ByteArray} : (setR pb P k v).1.ar.length ≤ P.ar.length + v.size ∧ (setR pb P k v).1.fa.length ≤ P.fa.length + v.size ∧ (setR pb P k v).2.length ≤ v.size + 1 := by
 have w1 := wd_size v
 have w2 := wd_size (turnR v).1
 have w3 := turn_size v
 have ha : (arcF P.ar v).1.length ≤ P.ar.length + v.size ∧ (arcF P.ar v).2.length ≤ v.size + 1 := by
  unfold arcF
  split
  ·exact ⟨Nat.zero_le _, Nat.zero_le _⟩
  ·have := arcS_len (wdL v.data.toList) (P.ar, [])
   simp only [List.length_nil] at this
   omega
 have hf : (famF pb P.fm P.fa v).1.2.length ≤ P.fa.length + v.size ∧ (famF pb P.fm P.fa v).2.length ≤ v.size + 1 := by
  unfold famF
  split
  ·exact ⟨Nat.zero_le _, Nat.zero_le _⟩
  ·split
   ·exact ⟨Nat.zero_le _, Nat.zero_le _⟩
   ·have := famS_len pb (wdL (turnR v).1.data.toList) (P.fa, [])
    simp only [List.length_nil] at this
    simp only
    omega
 have hs : (spaF P.sp v).2.length ≤ v.size + 1 := by
  unfold spaF
  repeat' split
  all_goals simp only [List.length_nil, List.length_map]
  all_goals first
   | omega
   | (have := List.length_filter_le spcB (wdL (turnR v).1.data.toList); omega)
 have hb : ∀ b, (flgF b v).2.length ≤ v.size + 1 := fun b => by
  unfold flgF
  split
  ·exact Nat.zero_le _
  ·split
   ·exact Nat.zero_le _
   ·show 1 ≤ v.size + 1; omega
 unfold setR
 repeat' split
 ·exact ⟨ha.1, Nat.le_add_right _ _, ha.2⟩
 ·exact ⟨Nat.le_add_right _ _, hf.1, hf.2⟩
 ·exact ⟨Nat.le_add_right _ _, Nat.le_add_right _ _, hs⟩
 all_goals first
  | exact ⟨Nat.le_add_right _ _, Nat.le_add_right _ _, hb _⟩
  | exact ⟨Nat.le_add_right _ _, Nat.le_add_right _ _, Nat.zero_le _⟩
theorem setR_keeps {pb : Bool} {P : Pol} {k v : ByteArray} : (setR pb P k v).1.fl = P.fl ∧ (setR pb P k v).1.lg = P.lg ∧ (setR pb P k v).1.dn = P.dn ∧ (k ≠ kArc → (setR pb P k v).1.ar = P.ar) ∧ (k ≠ kFam → (setR pb P k v).1.fa = P.fa ∧ (setR pb P k v).1.fm = P.fm) ∧ (k ≠ kSpa → (setR pb P k v).1.sp = P.sp) ∧ (k ≠ kWri → (setR pb P k v).1.b1 = P.b1) ∧ (k ≠ kPer → (setR pb P k v).1.b2 = P.b2) ∧ (k ≠ kRea → (setR pb P k v).1.b3 = P.b3) ∧ (k ≠ kNop → (setR pb P k v).1.b4 = P.b4) := by
 unfold setR
 repeat' split
 all_goals refine ⟨rfl, rfl, rfl, fun h => ?_, fun h => ?_, fun h => ?_, fun h => ?_, fun h => ?_, fun h => ?_, fun h => ?_⟩
 all_goals first
  | rfl
  | exact ⟨rfl, rfl⟩
  | contradiction
theorem setR_fm {pb : Bool} {P : Pol} {k v : ByteArray} (h : P.fm ≤ 2) : (setR pb P k v).1.fm ≤ 2 := by
 unfold setR
 repeat' split
 all_goals first
  | exact h
  | (show (famF pb P.fm P.fa v).1.1 ≤ 2
     unfold famF
     split
     ·show 0 ≤ 2; decide
     ·split
      ·show 1 ≤ 2; decide
      ·show mdF P.fm (turnR v).2 ≤ 2
       unfold mdF
       split
       ·split <;> decide
       ·exact h)
end Go.Proofs.YtlenjfodjkhpmaaGreatDoor
