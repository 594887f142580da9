/- Assignments that are written down, one a line behind its section's header: what is read of them is what was written. Plain lists, no program. -/
import Derived.Test.YtifjnioichfodaaDoorYg
import Derived.Test.YtifjnioichfodaaDoorLq
namespace Go.Proofs.YtifjnioichfodaaDoor
set_option linter.unusedVariables false
set_option linter.unusedSimpArgs false

/-- A byte that may not stand in a section's name, or a key (z: at its beginning). -/
def badB (sec z : Bool) (c : UInt8) : Bool := c == 10 || c == 32 || c == 9 || c == 13 || c == 91 || c == 93 || (c == 61 && !sec) || ((c == 35 || c == 59) && z && !sec) || c == 92
def wordL (sec : Bool) (l : List UInt8) : Bool := decide (l ≠ [] ∧ l.length ≤ 60 ∧ ∀ i : Fin l.length, badB sec (i.1 == 0) l[i.1] = false)
def valL (l : List UInt8) : Bool := decide (l.length ≤ 60 ∧ trimL l = l ∧ l.getLast? ≠ some 92 ∧ ∀ c ∈ l, c ≠ 10)
theorem bad_no {sec z : Bool} {c : UInt8} (h : badB sec z c = false) : c ≠ 10 ∧ blkB c = false ∧ c ≠ 91 ∧ c ≠ 93 ∧ (sec = false → c ≠ 61) ∧ (sec = false → z = true → c ≠ 35 ∧ c ≠ 59) ∧ c ≠ 92 := by
  unfold badB at h
  simp only [Bool.or_eq_false_iff, beq_eq_false_iff_ne, ne_eq] at h
  obtain ⟨⟨⟨⟨⟨⟨⟨⟨h10, h32⟩, h9⟩, h13⟩, h91⟩, h93⟩, h61⟩, h35⟩, h92⟩ := h
  refine ⟨h10, ?_, h91, h93, fun hs h => ?_, fun hs hz => ?_, h92⟩
  · unfold blkB
    rw [beq_eq_false_iff_ne.2 h32, beq_eq_false_iff_ne.2 h9, beq_eq_false_iff_ne.2 h13]; rfl
  · subst hs h; exact absurd h61 (by decide)
  · subst hs hz
    exact ⟨fun h => by subst h; exact absurd h35 (by decide), fun h => by subst h; exact absurd h35 (by decide)⟩
theorem word_of {sec : Bool} {l : List UInt8} (h : wordL sec l = true) : l ≠ [] ∧ l.length ≤ 60 ∧ ∀ c ∈ l, c ≠ 10 ∧ blkB c = false ∧ c ≠ 91 ∧ c ≠ 93 ∧ (sec = false → c ≠ 61) ∧ c ≠ 92 := by
  obtain ⟨h1, h2, h3⟩ := of_decide_eq_true h
  refine ⟨h1, h2, fun c hc => ?_⟩
  obtain ⟨i, hi, rfl⟩ := List.mem_iff_getElem.1 hc
  obtain ⟨a, b, c, d, e, _, g⟩ := bad_no (h3 ⟨i, hi⟩)
  exact ⟨a, b, c, d, e, g⟩
theorem word_head {l : List UInt8} {a : UInt8} {r : List UInt8} (h : wordL false l = true) (e : l = a :: r) : a ≠ 35 ∧ a ≠ 59 := by
  subst e
  obtain ⟨_, _, h3⟩ := of_decide_eq_true h
  exact (bad_no (h3 ⟨0, by simp⟩)).2.2.2.2.2.1 rfl rfl
theorem val_of {l : List UInt8} (h : valL l = true) : l.length ≤ 60 ∧ trimL l = l ∧ l.getLast? ≠ some 92 ∧ ∀ c ∈ l, c ≠ 10 := of_decide_eq_true h
/-- A trimmed list that begins and ends so is trimmed. -/
theorem trim_keep {a : UInt8} {X : List UInt8} (h0 : blkB a = false) (h1 : ∀ b Y, a :: X = Y ++ [b] → blkB b = false) : trimL (a :: X) = a :: X := by
  have := trim_mid (A := []) (M := a :: X) (B := []) (fun c hc => by cases hc) (fun c hc => by cases hc) (fun c Y e => by injection e with e1 _; rw [← e1]; exact h0) h1
  simpa using this
theorem trim_tail {a b : UInt8} {X : List UInt8} (h0 : blkB a = false) (h1 : ∀ b Y, a :: X = Y ++ [b] → blkB b = false) (hb : blkB b = true) : trimL (a :: X ++ [b]) = a :: X := by
  have := trim_mid (A := []) (M := a :: X) (B := [b]) (fun c hc => by cases hc) (fun c hc => by rw [List.mem_singleton.1 hc]; exact hb) (fun c Y e => by injection e with e1 _; rw [← e1]; exact h0) h1
  simpa using this
theorem trim_lead {a : UInt8} {X : List UInt8} (ha : blkB a = true) (h : trimL X = X) : trimL (a :: X) = X := by
  unfold trimL at h ⊢
  rw [List.dropWhile_cons_of_pos ha]; exact h
theorem trim_ends {l : List UInt8} (h : trimL l = l) : ∀ b Y, l = Y ++ [b] → blkB b = false := fun b Y e => by
  obtain ⟨A, B, _, _, _, _, h1⟩ := trim_parts l
  rw [h] at h1
  exact h1 b Y e
theorem com_first {a : UInt8} {X : List UInt8} (h0 : blkB a = false) (h1 : a ≠ 35) (h2 : a ≠ 59) : comL (a :: X) = false := by
  unfold comL
  rw [drop_head h0]
  show (a == 35 || a == 59) = false
  rw [beq_eq_false_iff_ne.2 h1, beq_eq_false_iff_ne.2 h2]; rfl
/-- A section's header. -/
def hdrL (s : List UInt8) : List UInt8 := 91 :: (s ++ [93])
theorem hdr_last {s : List UInt8} {b : UInt8} {Y : List UInt8} (h : hdrL s = Y ++ [b]) : b = 93 := by
  have h2 : hdrL s = (91 :: s) ++ [93] := rfl
  rw [h2] at h
  have := congrArg List.getLast? h
  rw [List.getLast?_concat, List.getLast?_concat] at this
  injection this with this
  exact this.symm
theorem hdr_ok {s : List UInt8} (h : wordL true s = true) : (∀ c ∈ hdrL s, c ≠ 10) ∧ comL (hdrL s) = false ∧ conL (hdrL s) = false ∧ trimL (hdrL s) = hdrL s ∧ secL (hdrL s) = some s ∧ (hdrL s).length ≤ 62 := by
  obtain ⟨h1, h2, h3⟩ := word_of h
  refine ⟨fun c hc => ?_, com_first (by decide) (by decide) (by decide), ?_, trim_keep (by decide) (fun b Y e => by rw [hdr_last e]; decide), ?_, ?_⟩
  · unfold hdrL at hc
    rcases List.mem_cons.1 hc with rfl | hc
    · decide
    · rcases List.mem_append.1 hc with hc | hc
      · exact (h3 c hc).1
      · rw [List.mem_singleton.1 hc]; decide
  · unfold conL
    rw [show hdrL s = (91 :: s) ++ [93] from rfl, List.getLast?_concat]; decide
  · have hl : (hdrL s).length = s.length + 2 := by unfold hdrL; simp
    have hp : 0 < s.length := List.length_pos_iff.2 h1
    have e : ((hdrL s).take ((hdrL s).length - 1)).drop 1 = s := by
      rw [hl]
      show ((91 :: (s ++ [93])).take (s.length + 1)).drop 1 = s
      simp
    have h93 : (hdrL s)[(hdrL s).length - 1]? = some 93 := by
      rw [hl]
      show (91 :: (s ++ [93]))[s.length + 1]? = _
      simp
    unfold secL
    rw [e, if_pos ⟨by omega, rfl, h93, fun c hc => ⟨(h3 c hc).2.2.1, (h3 c hc).2.2.2.1⟩⟩]
  · unfold hdrL; simp; omega
/-- Of a key, white space, a sign, anything behind it. -/
theorem take_key {k ws : List UInt8} {r : List UInt8} (hk : ∀ c ∈ k, c ≠ 61) (hw : ∀ c ∈ ws, blkB c = true) : ((k ++ (ws ++ 61 :: r)).takeWhile fun c => c != 61) = k ++ ws := by
  have : ∀ (p q : List UInt8), (∀ c ∈ p, c ≠ 61) → (p ++ 61 :: q).takeWhile (fun c => c != 61) = p := by
    intro p q hp
    induction p with
    | nil => simp
    | cons a p ih =>
      rw [List.cons_append, List.takeWhile_cons_of_pos (by rw [bne_iff_ne]; exact hp a (List.mem_cons_self ..)), ih (fun c hc => hp c (List.mem_cons_of_mem _ hc))]
  rw [← List.append_assoc]
  refine this _ _ fun c hc => ?_
  rcases List.mem_append.1 hc with hc | hc
  · exact hk c hc
  · intro e; subst e; exact absurd (hw _ hc) (by decide)
theorem rtrim_key {k ws : List UInt8} (h0 : k ≠ []) (hk : ∀ c ∈ k, blkB c = false) (hw : ∀ c ∈ ws, blkB c = true) : rtrimL (k ++ ws) = k := by
  unfold rtrimL
  rw [List.reverse_append, drop_blank (fun c hc => hw c (List.mem_reverse.1 hc))]
  cases hr : k.reverse with
  | nil => exact absurd (List.reverse_eq_nil_iff.1 hr) h0
  | cons a X =>
    rw [drop_head (hk a (List.mem_reverse.1 (by rw [hr]; exact List.mem_cons_self ..))), ← hr, List.reverse_reverse]
theorem asg_line {k ws r : List UInt8} (h : wordL false k = true) (hw : ∀ c ∈ ws, blkB c = true) : asgL (k ++ (ws ++ 61 :: r)) = some (k, trimL r) := by
  obtain ⟨h1, h2, h3⟩ := word_of h
  have ht := take_key (r := r) (fun c hc => (h3 c hc).2.2.2.2.1 rfl) hw
  have hk : keyL (k ++ (ws ++ 61 :: r)) = k := by
    unfold keyL
    rw [ht]
    exact rtrim_key h1 (fun c hc => (h3 c hc).2.1) hw
  unfold asgL
  rw [hk, ht, if_pos]
  · rw [List.length_append, ← List.append_assoc, List.drop_append]
    have e : (k ++ ws).drop (k.length + ws.length + 1) = [] := List.drop_eq_nil_of_le (by rw [List.length_append]; omega)
    rw [e, List.length_append, show k.length + ws.length + 1 - (k.length + ws.length) = 1 by omega]; rfl
  · refine ⟨by simp, ?_, h1, fun c hc => (h3 c hc).2.1⟩
    cases k with
    | nil => exact absurd rfl h1
    | cons a X =>
      intro e
      have : some a = some 91 := e
      injection this with this
      exact (h3 a (List.mem_cons_self ..)).2.2.1 this
/-- An assignment's line. -/
def sepL (blanks : Bool) : List UInt8 := if blanks then [32, 9, 61, 32] else [61]
def asnL (blanks : Bool) (k v : List UInt8) : List UInt8 := k ++ (sepL blanks ++ v)
theorem key_head {k : List UInt8} (h : wordL false k = true) : ∃ a X, k = a :: X ∧ blkB a = false ∧ a ≠ 35 ∧ a ≠ 59 ∧ a ≠ 91 := by
  obtain ⟨h1, h2, h3⟩ := word_of h
  cases k with
  | nil => exact absurd rfl h1
  | cons a X =>
    have h4 := h3 a (List.mem_cons_self ..)
    exact ⟨a, X, rfl, h4.2.1, (word_head h rfl).1, (word_head h rfl).2, h4.2.2.1⟩
theorem last_app {A B : List UInt8} (h : B ≠ []) : (A ++ B).getLast? = B.getLast? := by
  rcases List.eq_nil_or_concat B with rfl | ⟨Y, c, rfl⟩
  · exact absurd rfl h
  · rw [List.concat_eq_append, ← List.append_assoc, List.getLast?_concat, List.getLast?_concat]
theorem ends_last {l : List UInt8} {b : UInt8} {Y : List UInt8} (h : l = Y ++ [b]) : l.getLast? = some b := by rw [h, List.getLast?_concat]
theorem asn_trim {k v : List UInt8} (blanks : Bool) (hk : wordL false k = true) (hv : valL v = true) : ∃ ws r, trimL (asnL blanks k v) = k ++ (ws ++ 61 :: r) ∧ (∀ c ∈ ws, blkB c = true) ∧ trimL r = v := by
  obtain ⟨a, X, rfl, ha, _, _, _⟩ := key_head hk
  obtain ⟨v1, v2, v3, v4⟩ := val_of hv
  have keep : ∀ (T : List UInt8), T ≠ [] → (∀ b, T.getLast? = some b → blkB b = false) → trimL (a :: X ++ T) = a :: X ++ T := fun T hT hl =>
    trim_keep (a := a) (X := X ++ T) ha (fun b Y e => by
      have e2 : (a :: X) ++ T = Y ++ [b] := e
      have h := ends_last e2
      rw [last_app hT] at h
      exact hl b h)
  cases blanks with
  | false =>
    refine ⟨[], v, ?_, (fun c hc => by cases hc), v2⟩
    show trimL (a :: X ++ (61 :: v)) = _
    refine (keep (61 :: v) (by simp) fun b hb => ?_).trans rfl
    cases v with
    | nil =>
      have : b = 61 := by simpa using hb.symm
      subst this; decide
    | cons c r =>
      rw [show (61 : UInt8) :: c :: r = [61] ++ (c :: r) from rfl, last_app (by simp)] at hb
      rcases List.eq_nil_or_concat (c :: r) with h | ⟨Y, d, h⟩
      · cases h
      · rw [h, List.concat_eq_append, List.getLast?_concat] at hb
        injection hb with hb
        rw [← hb]
        exact trim_ends v2 d Y (by rw [h, List.concat_eq_append])
  | true =>
    cases v with
    | nil =>
      refine ⟨[32, 9], [], ?_, (by decide), rfl⟩
      show trimL (a :: X ++ [32, 9, 61, 32]) = _
      have e := trim_tail (a := a) (b := 32) (X := X ++ [32, 9, 61]) ha (fun b Y e => by
        have e2 : (a :: X) ++ [32, 9, 61] = Y ++ [b] := e
        have h := ends_last e2
        rw [last_app (by simp)] at h
        have : b = 61 := by simpa using h.symm
        subst this; decide) (by decide)
      have e3 : a :: (X ++ [32, 9, 61]) ++ [32] = a :: X ++ [32, 9, 61, 32] := by simp
      rw [e3] at e
      rw [e]; simp
    | cons c r =>
      refine ⟨[32, 9], 32 :: c :: r, ?_, (by decide), trim_lead (by decide) v2⟩
      show trimL (a :: X ++ ([32, 9, 61, 32] ++ (c :: r))) = _
      refine (keep ([32, 9, 61, 32] ++ (c :: r)) (by simp) fun b hb => ?_).trans (by simp)
      rw [last_app (by simp)] at hb
      rcases List.eq_nil_or_concat (c :: r) with h | ⟨Y, d, h⟩
      · cases h
      · rw [h, List.concat_eq_append, List.getLast?_concat] at hb
        injection hb with hb
        rw [← hb]
        exact trim_ends v2 d Y (by rw [h, List.concat_eq_append])
theorem asn_ok {k v : List UInt8} (blanks : Bool) (hk : wordL false k = true) (hv : valL v = true) : (∀ c ∈ asnL blanks k v, c ≠ 10) ∧ comL (asnL blanks k v) = false ∧ conL (asnL blanks k v) = false ∧ secL (trimL (asnL blanks k v)) = none ∧ asgL (trimL (asnL blanks k v)) = some (k, v) ∧ trimL (asnL blanks k v) ≠ [] ∧ (asnL blanks k v).length ≤ 124 := by
  obtain ⟨ws, r, e, hw, hr⟩ := asn_trim blanks hk hv
  obtain ⟨a, X, hkx, ha, h35, h59, h91⟩ := key_head hk
  obtain ⟨k1, k2, k3⟩ := word_of hk
  obtain ⟨v1, v2, v3, v4⟩ := val_of hv
  have hs : (sepL blanks).length ≤ 4 := by unfold sepL; split <;> simp
  refine ⟨fun c hc => ?_, ?_, ?_, ?_, ?_, ?_, ?_⟩
  · unfold asnL at hc
    rcases List.mem_append.1 hc with hc | hc
    · exact (k3 c hc).1
    · rcases List.mem_append.1 hc with hc | hc
      · unfold sepL at hc
        split at hc
        · exact (show ∀ x ∈ ([32, 9, 61, 32] : List UInt8), x ≠ 10 by decide) c hc
        · exact (show ∀ x ∈ ([61] : List UInt8), x ≠ 10 by decide) c hc
      · exact v4 c hc
  · unfold asnL
    rw [hkx]
    exact com_first ha h35 h59
  · unfold conL asnL
    have hsn : sepL blanks ++ v ≠ [] := by unfold sepL; split <;> simp
    rw [last_app hsn]
    cases v with
    | nil => rw [List.append_nil]; unfold sepL; split <;> decide
    | cons c r =>
      rw [last_app (by simp)]
      cases hg : (c :: r).getLast? == some 92 with
      | false => rfl
      | true => exact absurd (beq_iff_eq.1 hg) v3
  · rw [e, hkx]
    exact sec_head (by simp) (by show a ≠ 91; exact h91)
  · rw [e, asg_line hk hw, hr]
  · rw [e, hkx]; simp
  · unfold asnL; rw [List.length_append, List.length_append]; omega
/-- What was written, and what is read of it. -/
structure WrOk (blanks : Bool) (k : Nat) (Ls : List (List UInt8)) (W : List Asn) : Prop where
  len : Ls.length = 2 * k
  wlen : W.length = k
  ten : ∀ s ∈ Ls, ∀ c ∈ s, c ≠ 10
  pln : ∀ s ∈ Ls, comL s = true ∨ conL s = false
  size : ∀ s ∈ Ls, s.length ≤ 124
  read : ∃ sec, (plnW 0 Ls).foldl (stepU fF) ⟨[], [], []⟩ = ⟨sec, W, []⟩
theorem WrOk.zero (blanks : Bool) : WrOk blanks 0 [] [] := ⟨rfl, rfl, (fun s hs => by cases hs), (fun s hs => by cases hs), (fun s hs => by cases hs), [], rfl⟩
theorem WrOk.more {blanks : Bool} {n : Nat} {Ls : List (List UInt8)} {W : List Asn} (h : WrOk blanks n Ls W) {s k v : List UInt8} (hs : wordL true s = true) (hk : wordL false k = true) (hv : valL v = true) :
    WrOk blanks (n + 1) (Ls ++ [hdrL s] ++ [asnL blanks k v]) (W ++ [⟨fF, ((2 * n + 2 : Nat) : Int), bs s, bs k, bs v⟩]) := by
  obtain ⟨a1, a2, a3, a4, a5, a6⟩ := hdr_ok hs
  obtain ⟨b1, b2, b3, b4, b5, b6, b7⟩ := asn_ok blanks hk hv
  have mem : ∀ {p : List UInt8 → Prop}, (∀ x ∈ Ls, p x) → p (hdrL s) → p (asnL blanks k v) → ∀ x ∈ Ls ++ [hdrL s] ++ [asnL blanks k v], p x := fun h1 h2 h3 x hx => by
    rcases List.mem_append.1 hx with hx | hx
    · rcases List.mem_append.1 hx with hx | hx
      · exact h1 x hx
      · rw [List.mem_singleton.1 hx]; exact h2
    · rw [List.mem_singleton.1 hx]; exact h3
  refine ⟨by rw [List.length_append, List.length_append, h.len, List.length_singleton, List.length_singleton]; omega, by rw [List.length_append, h.wlen]; rfl, mem h.ten a1 b1, mem h.pln (.inr a3) (.inr b3), mem h.size (Nat.le_trans a6 (by omega)) b7, s, ?_⟩
  obtain ⟨sec, hr⟩ := h.read
  have ha : trimL (hdrL s) ≠ [] := by rw [a4]; unfold hdrL; simp
  rw [pln_some b2 b6, pln_some a2 ha, List.foldl_append, List.foldl_append, hr, a4]
  show stepU fF (stepU fF ⟨sec, W, []⟩ (Ls.length + 1, hdrL s)) ((Ls ++ [hdrL s]).length + 1, trimL (asnL blanks k v)) = _
  rw [stepU_sec (p := (Ls.length + 1, hdrL s)) a5, stepU_asg (p := ((Ls ++ [hdrL s]).length + 1, trimL (asnL blanks k v))) b4 (by show (asgL (trimL (asnL blanks k v))).isSome = true; rw [b5]; rfl) (word_of hs).1]
  have e1 : asgK (trimL (asnL blanks k v)) = k := by unfold asgK; rw [b5]; rfl
  have e2 : asgW (trimL (asnL blanks k v)) = v := by unfold asgW; rw [b5]; rfl
  show (⟨s, W ++ [⟨fF, (((Ls ++ [hdrL s]).length + 1 : Nat) : Int), bs s, bs (asgK (trimL (asnL blanks k v))), bs (asgW (trimL (asnL blanks k v)))⟩], []⟩ : US) = _
  rw [e1, e2, List.length_append, h.len, List.length_singleton]
theorem WrOk.ends {blanks : Bool} {n : Nat} {Ls : List (List UInt8)} {W : List Asn} (h : WrOk blanks n Ls W) (hn : n ≤ 40) : filA fF (flatL Ls) = W ∧ filN fF (flatL Ls) = [] ∧ (flatL Ls).length ≤ 10000 := by
  have hl := flatL_len 124 h.size
  have hl2 : (124 + 1) * Ls.length ≤ 125 * 80 := Nat.mul_le_mul_left _ (by rw [h.len]; omega)
  obtain ⟨p1, p2, p3⟩ := spl_plain h.ten h.pln (by rw [h.len]; omega) (by omega)
  obtain ⟨sec, hr⟩ := h.read
  have hf : filS fF (flatL Ls) = ⟨sec, W, []⟩ := by
    unfold filS stU
    rw [List.take_length, p3, hr]
  refine ⟨?_, ?_, by omega⟩
  · unfold filA
    rw [p2, if_neg (by decide), hf]
    exact usA_yes rfl
  · unfold filN
    rw [p2, if_neg (by decide), hf]
theorem WrOk.flat {blanks : Bool} {n : Nat} {Ls : List (List UInt8)} {W : List Asn} (h : WrOk blanks n Ls W) (hn : n ≤ 40) : (flatL Ls).length ≤ 10000 := (h.ends hn).2.2
theorem flat_two (Ls : List (List UInt8)) (a b : List UInt8) : flatL (Ls ++ [a] ++ [b]) = flatL Ls ++ (a ++ (10 :: (b ++ [10]))) := by
  rw [flatL_app, flatL_app, flatL_one, flatL_one]; simp
end Go.Proofs.YtifjnioichfodaaDoor
