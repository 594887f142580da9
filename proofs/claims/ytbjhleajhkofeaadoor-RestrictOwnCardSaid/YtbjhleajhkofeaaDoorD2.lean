/- What the calls that stage 18's statements ask have to return, as the chapter says it; what an assignment leaves within its bounds. -/
import Derived.Test.YtbjhleajhkofeaaDoorD1
import Derived.Test.YtbjhleajhkofeaaDoorP8
namespace Go.Proofs.YtbjhleajhkofeaaDoor
open Go.RowKit
set_option linter.unusedVariables false
set_option linter.unusedSimpArgs false

/-- What restrict.Set and so on have to return, over what must lie in memory. -/
structure RestrictC (G : World → Prop) : Prop where
  on : ∀ {w w' : World}, G w → Below w.heap.size w w' → G w'
  key : ∀ (s : ByteArray) (w : World), G w → s.size ≤ 200 → Calls Tryd.prog 7 #[.string s] w fun e w' => e = .returned (.bool (keyR18 s)) ∧ Below w.heap.size w w'
  set : ∀ (p : Pls) (P : Pol) (a : As) (w : World), G w → P.Ok → PolAt w p P → Rises18 P → p.an ≤ 10000 → p.mn ≤ 10000 → p.fn ≤ 100 → p.ln ≤ 100 → a.val.size ≤ 1000 → a.key.size ≤ 200 → Calls Tryd.prog 12 #[plV p P, asV a] w fun e w' => ∃ pb p' v, (P.fm ≤ 2 → pb = putB18 P.fm a.val) ∧ e = .returned (.tuple #[plV p' (setR pb P a.key a.val).1, v]) ∧ OwnP w.heap.size w' p' (setR pb P a.key a.val).1 ∧ w'.ownsRow w.heap.size 43 4 v ((setR pb P a.key a.val).2.map (nteP a)).length (rowC encN ((setR pb P a.key a.val).2.map (nteP a))) ∧ Below w.heap.size w w'
  words : ∀ (s : ByteArray) (w : World), G w → s.size ≤ 1000 → Calls Tryd.prog 14 #[.string s] w fun e w' => ∃ q c, e = .returned (.slice q (wdL s.data.toList).length c) ∧ Below w.heap.size w w'
  bool : ∀ (s : ByteArray) (w : World), G w → s.size ≤ 1000 → Calls Tryd.prog 15 #[.string s] w fun e w' => e = .returned (.tuple #[.bool ((boolR s).getD false), .int .i64 (boolE s)]) ∧ Below w.heap.size w w'
  turned : ∀ (s : ByteArray) (w : World), G w → s.size ≤ 1000 → Calls Tryd.prog 16 #[.string s] w fun e w' => e = .returned (.tuple #[.string (turnR s).1, .bool (turnR s).2]) ∧ Below w.heap.size w w'
  fname : ∀ (n : Nat) (w : World), G w → n < 4294967296 → Calls Tryd.prog 20 #[.int .u32 n] w fun e w' => e = .returned (.string ((nameR famT n).getD ⟨#[]⟩)) ∧ Below w.heap.size w w'
  spaces : ∀ (w : World), G w → Calls Tryd.prog 18 #[] w fun e w' => e = .returned (.int .u64 allN) ∧ Below w.heap.size w w'
/-! ### bounds -/
theorem findR_mem {l : List En10} {s : ByteArray} {n : Nat} : findR l s = some n → ∃ e ∈ l, e.2 = n := by
  induction l with
  | nil => intro h; cases h
  | cons a r ih =>
    intro h
    unfold findR at h
    split at h
    · injection h with h
      exact ⟨a, List.mem_cons_self, h⟩
    · obtain ⟨e, he, h2⟩ := ih h
      exact ⟨e, List.mem_cons_of_mem _ he, h2⟩
theorem famT_lt : ∀ e ∈ famT, e.2 < 4294967296 := fun e he => of_decide_eq_true (List.all_eq_true.1 (show (famT.all fun e => decide (e.2 < 4294967296)) = true by decide +kernel) e he)
theorem spcT_lt : ∀ e ∈ spcT, e.2 < 2 ^ 64 := fun e he => of_decide_eq_true (List.all_eq_true.1 (show (spcT.all fun e => decide (e.2 < 2 ^ 64)) = true by decide +kernel) e he)
theorem spcN_lt (w : List UInt8) : spcN w < 2 ^ 64 := by
  unfold spcN
  cases h : findR spcT (bs w) with
  | none => show 0 < 2 ^ 64; decide
  | some n =>
    obtain ⟨e, he, h2⟩ := findR_mem h
    have := spcT_lt e he
    show n < 2 ^ 64
    omega
theorem orL_lt : ∀ l, orL l < 2 ^ 64
  | [] => by show 0 < 2 ^ 64; decide
  | w :: r => Nat.or_lt_two_pow (spcN_lt w) (orL_lt r)
theorem arcS_ok : ∀ (ws : List (List UInt8)) (r : List Int × List (Int × ByteArray)), (∀ x ∈ r.1, (Lit.int .i64 x).wf = true) → ∀ x ∈ (ws.foldl arcS r).1, (Lit.int .i64 x).wf = true
  | [], r, h => h
  | w :: ws, r, h => arcS_ok ws _ (by
    unfold arcS
    split
    · rename_i he
      intro x hx
      rcases mem_insU.1 hx with rfl | hx
      · obtain ⟨h1, h2⟩ := parR_lt _ he
        generalize (parR (bs w)).1 = z at h1 h2
        obtain rfl | rfl | rfl | rfl | rfl | rfl : z = 0 ∨ z = 1 ∨ z = 2 ∨ z = 3 ∨ z = 4 ∨ z = 5 := by omega
        all_goals decide
      · exact h x hx
    · exact h)
theorem arcS_len : ∀ (ws : List (List UInt8)) (r : List Int × List (Int × ByteArray)), (ws.foldl arcS r).1.length ≤ r.1.length + ws.length ∧ (ws.foldl arcS r).2.length ≤ r.2.length + ws.length
  | [], r => ⟨Nat.le_refl _, Nat.le_refl _⟩
  | w :: ws, r => by
    have ih := arcS_len ws (arcS r w)
    have h1 : (arcS r w).1.length ≤ r.1.length + 1 ∧ (arcS r w).2.length ≤ r.2.length + 1 := by
      unfold arcS
      split
      · exact ⟨len_insU, Nat.le_succ _⟩
      · exact ⟨Nat.le_succ _, by simp⟩
    simp only [List.foldl_cons, List.length_cons]
    omega
theorem famS_ok (b : Bool) : ∀ (ws : List (List UInt8)) (r : List Nat × List (Int × ByteArray)), (∀ x ∈ r.1, x < 4294967296) → ∀ x ∈ (ws.foldl (famS b) r).1, x < 4294967296
  | [], r, h => h
  | w :: ws, r, h => famS_ok b ws _ (by
    unfold famS
    split
    · rename_i n he
      obtain ⟨e, hm, h2⟩ := findR_mem he
      have h3 := famT_lt e hm
      intro x hx
      simp only at hx
      split at hx
      · rcases mem_insU.1 hx with rfl | hx
        · omega
        · exact h x hx
      · exact h x (List.mem_filter.1 hx).1
    · exact h)
theorem famS_len (b : Bool) : ∀ (ws : List (List UInt8)) (r : List Nat × List (Int × ByteArray)), (ws.foldl (famS b) r).1.length ≤ r.1.length + ws.length ∧ (ws.foldl (famS b) r).2.length ≤ r.2.length + ws.length
  | [], r => ⟨Nat.le_refl _, Nat.le_refl _⟩
  | w :: ws, r => by
    have ih := famS_len b ws (famS b r w)
    have h1 : (famS b r w).1.length ≤ r.1.length + 1 ∧ (famS b r w).2.length ≤ r.2.length + 1 := by
      unfold famS
      split
      · refine ⟨?_, Nat.le_succ _⟩
        show (if _ then _ else _ : List Nat).length ≤ _
        split
        · exact len_insU
        · exact Nat.le_trans (List.length_filter_le _ _) (Nat.le_succ _)
      · exact ⟨Nat.le_succ _, by simp⟩
    simp only [List.foldl_cons, List.length_cons]
    omega
theorem turn_size (v : ByteArray) : (turnR v).1.size ≤ v.size := by
  unfold turnR
  split
  · show (bs (v.data.toList.drop 1)).size ≤ v.size
    rw [bs_size, List.length_drop]
    have : v.data.toList.length = v.size := by simp
    omega
  · exact Nat.le_refl _
theorem wd_size (v : ByteArray) : (wdL v.data.toList).length ≤ v.size := by
  have h1 := wdL_len v.data.toList
  have h2 : v.data.toList.length = v.size := by simp
  omega
/-- What an assignment leaves within its bounds, and what it leaves. -/
theorem setR_ok {pb : Bool} {P : Pol} {k v : ByteArray} (h : P.Ok) : (setR pb P k v).1.Ok := by
  have ha : ∀ x ∈ (arcF P.ar v).1, (Lit.int .i64 x).wf = true := by
    unfold arcF
    split
    · intro x hx; cases hx
    · exact arcS_ok _ _ h.a64
  have hf : ∀ x ∈ (famF pb P.fm P.fa v).1.2, x < 4294967296 := by
    unfold famF
    split
    · intro x hx; cases hx
    · split
      · intro x hx; cases hx
      · exact famS_ok _ _ _ h.m32
  have hm : (famF pb P.fm P.fa v).1.1 < 256 := by
    have := h.m8
    unfold famF
    split
    · show 0 < 256; decide
    · split
      · show 1 < 256; decide
      · show mdF P.fm (turnR v).2 < 256
        unfold mdF
        split
        · split <;> decide
        · exact this
  have hs : (spaF P.sp v).1 < 18446744073709551616 := by
    have h1 := orL_lt (wdL (turnR v).1.data.toList)
    have h2 := h.s64
    have h3 : allN < 18446744073709551616 := by decide
    unfold spaF
    repeat' split
    all_goals simp only
    all_goals first
      | decide
      | exact h2
      | (split <;> omega)
      | omega
  unfold setR
  repeat' split
  · exact ⟨h.f8, h.l8, h.m8, h.d32, h.s64, h.f32, h.l32, ha, h.m32⟩
  · exact ⟨h.f8, h.l8, hm, h.d32, h.s64, h.f32, h.l32, h.a64, hf⟩
  · exact ⟨h.f8, h.l8, h.m8, h.d32, hs, h.f32, h.l32, h.a64, h.m32⟩
  all_goals exact ⟨h.f8, h.l8, h.m8, h.d32, h.s64, h.f32, h.l32, h.a64, h.m32⟩
theorem setR_len {pb : Bool} {P : Pol} {k v : ByteArray} : (setR pb P k v).1.ar.length ≤ P.ar.length + v.size ∧ (setR pb P k v).1.fa.length ≤ P.fa.length + v.size ∧ (setR pb P k v).2.length ≤ v.size + 1 := by
  have w1 := wd_size v
  have w2 := wd_size (turnR v).1
  have w3 := turn_size v
  have ha : (arcF P.ar v).1.length ≤ P.ar.length + v.size ∧ (arcF P.ar v).2.length ≤ v.size + 1 := by
    unfold arcF
    split
    · exact ⟨Nat.zero_le _, Nat.zero_le _⟩
    · have := arcS_len (wdL v.data.toList) (P.ar, [])
      simp only [List.length_nil] at this
      omega
  have hf : (famF pb P.fm P.fa v).1.2.length ≤ P.fa.length + v.size ∧ (famF pb P.fm P.fa v).2.length ≤ v.size + 1 := by
    unfold famF
    split
    · exact ⟨Nat.zero_le _, Nat.zero_le _⟩
    · split
      · exact ⟨Nat.zero_le _, Nat.zero_le _⟩
      · have := famS_len pb (wdL (turnR v).1.data.toList) (P.fa, [])
        simp only [List.length_nil] at this
        simp only
        omega
  have hs : (spaF P.sp v).2.length ≤ v.size + 1 := by
    unfold spaF
    repeat' split
    all_goals simp only [List.length_nil, List.length_map]
    all_goals first
      | omega
      | (have := List.length_filter_le spcB (wdL (turnR v).1.data.toList); omega)
  have hb : ∀ b, (flgF b v).2.length ≤ v.size + 1 := fun b => by
    unfold flgF
    split
    · exact Nat.zero_le _
    · split
      · exact Nat.zero_le _
      · show 1 ≤ v.size + 1; omega
  unfold setR
  repeat' split
  · exact ⟨ha.1, Nat.le_add_right _ _, ha.2⟩
  · exact ⟨Nat.le_add_right _ _, hf.1, hf.2⟩
  · exact ⟨Nat.le_add_right _ _, Nat.le_add_right _ _, hs⟩
  all_goals first
    | exact ⟨Nat.le_add_right _ _, Nat.le_add_right _ _, hb _⟩
    | exact ⟨Nat.le_add_right _ _, Nat.le_add_right _ _, Nat.zero_le _⟩
/-- What no key names stays. -/
theorem setR_keeps {pb : Bool} {P : Pol} {k v : ByteArray} : (setR pb P k v).1.fl = P.fl ∧ (setR pb P k v).1.lg = P.lg ∧ (setR pb P k v).1.dn = P.dn ∧ (k ≠ kArc → (setR pb P k v).1.ar = P.ar) ∧ (k ≠ kFam → (setR pb P k v).1.fa = P.fa ∧ (setR pb P k v).1.fm = P.fm) ∧ (k ≠ kSpa → (setR pb P k v).1.sp = P.sp) ∧ (k ≠ kWri → (setR pb P k v).1.b1 = P.b1) ∧ (k ≠ kPer → (setR pb P k v).1.b2 = P.b2) ∧ (k ≠ kRea → (setR pb P k v).1.b3 = P.b3) ∧ (k ≠ kNop → (setR pb P k v).1.b4 = P.b4) := by
  unfold setR
  repeat' split
  all_goals refine ⟨rfl, rfl, rfl, fun h => ?_, fun h => ?_, fun h => ?_, fun h => ?_, fun h => ?_, fun h => ?_, fun h => ?_⟩
  all_goals first
    | rfl
    | exact ⟨rfl, rfl⟩
    | contradiction
theorem setR_fm {pb : Bool} {P : Pol} {k v : ByteArray} (h : P.fm ≤ 2) : (setR pb P k v).1.fm ≤ 2 := by
  unfold setR
  repeat' split
  all_goals first
    | exact h
    | (show (famF pb P.fm P.fa v).1.1 ≤ 2
       unfold famF
       split
       · show 0 ≤ 2; decide
       · split
         · show 1 ≤ 2; decide
         · show mdF P.fm (turnR v).2 ≤ 2
           unfold mdF
           split
           · split <;> decide
           · exact h)
end Go.Proofs.YtbjhleajhkofeaaDoor
