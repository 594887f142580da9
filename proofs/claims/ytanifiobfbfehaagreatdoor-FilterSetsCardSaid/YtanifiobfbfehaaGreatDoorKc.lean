/- Values as the chapter says them: words, truth values, entries; on lists of bytes. Plain lists and numbers, no program. What the document's own Words returns: a value's words. Condition: a string of at most a million bytes. What the document's own Bool, Turned return, and is. Condition: a string that lies in memory. What the document's own Text and Read return. Conditions: a name, a word of at most a million bytes. What the document's own Read returns. Condition: a word of at most a million bytes. -/
import Derived.Test.YtanifiobfbfehaaGreatDoorLa
import Derived.Test.YtanifiobfbfehaaGreatDoorJa
import Derived.Deep.RegionHeld3
namespace Go.Proofs.YtanifiobfbfehaaGreatDoor
open Go.RowKit
set_option linter.unusedVariables false

/-- The words, with a word begun. -/
def wdA : List UInt8 → List UInt8 → List (List UInt8)
  | a, [] => if a = [] then [] else [a]
  | a, c :: r => if blkB c = true then (if a = [] then wdA [] r else a :: wdA [] r) else wdA (a ++ [c]) r
def wdL (l : List UInt8) : List (List UInt8) := wdA [] l
theorem wdA_nil (a : List UInt8) : wdA a [] = if a = [] then [] else [a] := by unfold wdA; rfl
theorem wdA_blk {a r : List UInt8} {c : UInt8} (h : blkB c = true) : wdA a (c :: r) = if a = [] then wdA [] r else a :: wdA [] r := by conv => lhs; unfold wdA; rw [if_pos h]
theorem wdA_go {a r : List UInt8} {c : UInt8} (h : blkB c = false) : wdA a (c :: r) = wdA (a ++ [c]) r := by conv => lhs; unfold wdA; rw [if_neg (by rw [h]; decide)]
/-- How long all words are. -/
theorem wdA_len : ∀ (r a : List UInt8), ((wdA a r).map List.length).sum ≤ a.length + r.length ∧ (wdA a r).length ≤ a.length + r.length
  | [], a => by
    rw [wdA_nil]
    split
    · simp
    · rename_i h
      have : a.length ≠ 0 := fun e => h (List.length_eq_zero_iff.1 e)
      simp; omega
  | c :: r, a => by
    cases hc : blkB c with
    | true =>
      rw [wdA_blk hc]
      have ih := wdA_len r []
      simp only [List.length_nil, Nat.zero_add] at ih
      split
      · simp only [List.length_cons]; omega
      · rename_i h
        have : a.length ≠ 0 := fun e => h (List.length_eq_zero_iff.1 e)
        simp only [List.map_cons, List.sum_cons, List.length_cons]; omega
    | false =>
      rw [wdA_go hc]
      have ih := wdA_len r (a ++ [c])
      rw [List.length_append] at ih
      simp only [List.length_cons, List.length_nil] at ih ⊢
      omega
theorem wdL_len (l : List UInt8) : (wdL l).length ≤ l.length := by have := (wdA_len l []).2; rw [List.length_nil, Nat.zero_add] at this; exact this
theorem wdL_sum (l : List UInt8) : ((wdL l).map List.length).sum ≤ l.length := by have := (wdA_len l []).1; rw [List.length_nil, Nat.zero_add] at this; exact this
theorem wdA_word : ∀ (x a r : List UInt8), (∀ c ∈ x, blkB c = false) → wdA a (x ++ r) = wdA (a ++ x) r
  | [], a, r, h => by rw [List.nil_append, List.append_nil]
  | c :: x, a, r, h => by
    rw [List.cons_append, wdA_go (h c (List.mem_cons_self ..)), wdA_word x (a ++ [c]) r (fun d hd => h d (List.mem_cons_of_mem _ hd)), List.append_assoc]; rfl
/-- An entry. -/
structure Ent where
  nm : ByteArray
  act : Nat
  has : Bool
def e0 : Ent := ⟨⟨#[]⟩, 0, false⟩
def entV (e : Ent) : Value := .agg #[.string e.nm, .int .u32 (e.act : Nat), .bool e.has]
def killB : ByteArray := ⟨#[107, 105, 108, 108]⟩
/-- Where the first colon stands, or the word's end. -/
def colA (l : List UInt8) : Nat := l.findIdx (· == 58)
def rdL (l : List UInt8) : Ent × Int :=
  if colA l = 0 then (e0, 161)
  else if colA l = l.length then (⟨bs l, 0, false⟩, 0)
  else if bs (l.drop (colA l + 1)) = killB then (⟨bs (l.take (colA l)), 2147483648, true⟩, 0)
  else match errnoR (bs (l.drop (colA l + 1))) with
    | none => (e0, 160)
    | some n => (⟨bs (l.take (colA l)), 327680 + n, true⟩, 0)
def rdE (s : ByteArray) : Ent × Int := rdL s.data.toList
def turnR (s : ByteArray) : ByteArray × Bool := if s.data.toList.head? = some 126 then (bs (s.data.toList.drop 1), true) else (s, false)
theorem col_le (l : List UInt8) : colA l ≤ l.length := List.findIdx_le_length
theorem col_nil {l : List UInt8} (h : l = []) : colA l = 0 := by rw [h]; rfl
theorem errnoR_lt {s : ByteArray} {n : Nat} (h : errnoR s = some n) : n ≤ 4095 := by
  unfold errnoR at h
  split at h
  · rename_i x hx
    injection h with h; subst h
    have : ∀ l : List En10, (l.all fun e => decide (e.2 ≤ 4095)) = true → findR l s = some x → x ≤ 4095 := by
      intro l
      induction l with
      | nil => intro _ h; cases h
      | cons e r ih =>
        intro ha h
        rw [List.all_cons, Bool.and_eq_true] at ha
        unfold findR at h
        split at h
        · injection h with h; rw [← h]; exact of_decide_eq_true ha.1
        · exact ih ha.2 h
    exact this errnoT (by decide) hx
  · unfold parse4 at h
    split at h
    · split at h
      · rename_i hv; injection h with h; omega
      · cases h
    · cases h
end Go.Proofs.YtanifiobfbfehaaGreatDoor
namespace Go.Proofs.YtanifiobfbfehaaGreatDoor
open Go.RowKit
set_option linter.unusedVariables false
set_option linter.unusedSimpArgs false
attribute [local go_sem ↓] Go.wp_at_zero Go.wp_at_succ

/-- Words that can be read. -/
def WdsAt (w : World) (q : Option Addr) (L : List (List UInt8)) : Prop := ∀ k x, L[k]? = some x → ∃ g o, q = some ⟨g, o, none⟩ ∧ w.cell? ⟨g, o + k, none⟩ = some (.string (bs x))
theorem WdsAt.on {w w' : World} {q : Option Addr} {L : List (List UInt8)} (h : WdsAt w q L) (hb : Below w.heap.size w w') : WdsAt w' q L := fun k x hk => by
  obtain ⟨g, o, e, c⟩ := h k x hk
  exact ⟨g, o, e, (hb.cell (World.block_lt_of_cell? w _ c)).trans c⟩
theorem WdsAt.of_own {w : World} {B n c : Nat} {t : TypeId} {q : Option Addr} {L : List (List UInt8)} (h : w.ownsRow B t 1 (.slice q n c) n (sL L)) (hn : n = L.length) : WdsAt w q L := fun k x hk => by
  have hl : k < n := by rw [hn]; exact (List.getElem?_eq_some_iff.1 hk).1
  obtain ⟨g, cap, hv, _⟩ := h.form (by omega)
  injection hv with e1 e2 e3
  subst e1
  subst e3
  exact ⟨g, 0, rfl, by rw [Nat.zero_add]; exact (h.cellAt k (by omega)).trans (sL_get hk)⟩
theorem wd_blk {l : List UInt8} {a : List UInt8} {P R : List (List UInt8)} {i : Nat} {c : UInt8} (hc : l[i]? = some c) (hb : blkB c = true) (h : P ++ wdA a (l.drop i) = R) : (a = [] → P ++ wdA [] (l.drop (i + 1)) = R) ∧ (a ≠ [] → (P ++ [a]) ++ wdA [] (l.drop (i + 1)) = R) := by
  obtain ⟨hi, rfl⟩ := List.getElem?_eq_some_iff.1 hc
  rw [← List.getElem_cons_drop hi, wdA_blk hb] at h
  constructor
  · intro e; rw [if_pos e] at h; exact h
  · intro e; rw [if_neg e] at h; rw [List.append_assoc]; exact h
theorem wd_go {l : List UInt8} {a : List UInt8} {P R : List (List UInt8)} {i : Nat} {c : UInt8} (hc : l[i]? = some c) (hb : blkB c = false) (h : P ++ wdA a (l.drop i) = R) : P ++ wdA (a ++ [c]) (l.drop (i + 1)) = R := by
  obtain ⟨hi, rfl⟩ := List.getElem?_eq_some_iff.1 hc
  rw [← List.getElem_cons_drop hi, wdA_go hb] at h
  exact h
theorem wd_end {l : List UInt8} {a : List UInt8} {P R : List (List UInt8)} {i : Nat} (hi : l.length ≤ i) (h : P ++ wdA a (l.drop i) = R) (m : Nat) (hm : l.length ≤ m) : (a = [] → P ++ wdA [] (l.drop m) = R) ∧ (a ≠ [] → (P ++ [a]) ++ wdA [] (l.drop m) = R) := by
  rw [List.drop_of_length_le hi, wdA_nil] at h
  rw [List.drop_of_length_le hm, wdA_nil, if_pos rfl]
  constructor
  · intro e; rw [if_pos e] at h; exact h
  · intro e; rw [if_neg e] at h; rw [List.append_nil]; exact h
theorem ext_one {s : ByteArray} {i : Nat} {c : UInt8} (hc : s.data.toList[i]? = some c) : s.extract i (i + 1) = bs10 [c] := by
  obtain ⟨hi, rfl⟩ := List.getElem?_eq_some_iff.1 hc
  rw [ext_bs, List.take_succ_eq_append_getElem hi, List.drop_append_of_le_length (by rw [List.length_take]; omega), List.drop_of_length_le (by rw [List.length_take]; omega)]
  rfl
set_option maxRecDepth 100000 in
set_option maxHeartbeats 16000000 in
theorem refWords (s : ByteArray) (hs : s.size ≤ 1000000) (w : World) : Calls Tryz.prog 42 #[.string s] w fun e w' =>
    ∃ q c, e = .returned (.slice q (wdL s.data.toList).length c) ∧ w'.ownsRow w.heap.size 9 1 (.slice q (wdL s.data.toList).length c) (wdL s.data.toList).length (sL (wdL s.data.toList)) ∧ Below w.heap.size w w' := by
  obtain ⟨i0, hi0, hz0, hz1, hz2⟩ := info_parts str_info12
  have HI := Lib.hid hi0
  have HZ0 := Lib.hid hz0
  have HZ1 := Lib.hid hz1
  have HZ2 := Lib.hid hz2
  obtain ⟨l, hl⟩ : ∃ l, l = s.data.toList := ⟨_, rfl⟩
  obtain ⟨n, hn⟩ : ∃ n, n = s.size := ⟨_, rfl⟩
  have hln : l.length = n := by rw [hl, hn]; simp
  have HLN := Lib.hid hln
  have HL := Lib.hid hl
  have HN := Lib.hid hn
  have HSZ : s.size = n := hn.symm
  have HLE := Lib.hid (wdL_len l)
  have HEX := Lib.hid (fun (i : Nat) (c : UInt8) (h : l[i]? = some c) => (ext_one (by rw [← hl]; exact h) : s.extract i (i + 1) = bs10 [c]))
  have HGET := Lib.hid (fun (i : Nat) (h : i < s.size) => (by rw [hl]; rw [List.getElem?_eq_getElem (by simpa using h)]; rfl : l[i]? = some s[i]))
  rw [← hl]
  obtain ⟨R, hR⟩ : ∃ R, R = wdL l := ⟨_, rfl⟩
  rw [← hR] at HLE ⊢
  have H0 : Hid ([] ++ wdA [] (l.drop 0) = R) := Lib.hid (by rw [hR]; rfl)
  rw [hln] at HLE
  have HALL := Lib.hid (fun (P : List (List UInt8)) (a : List UInt8) (i : Nat) (h : P ++ wdA a (l.drop i) = R) => (by have := congrArg List.length h; rw [List.length_append] at this; have := HLE.out; omega : P.length ≤ n))
  have hnm : n ≤ 1000000 := by omega
  clear hi0 hz0 hz1 hz2 hl hR hln hn hs
  go_enter Tryz.func42, Tryz.ntmps42
  go_wp2
  go_loopw [3, 4, 5] (fun v3 v4 v5 wr => ∃ (i : Nat) (a : List UInt8) (P : List (List UInt8)), i ≤ n + 1 ∧ (i = n + 1 → a = []) ∧ a.length ≤ i ∧ v5 = .int .i64 i ∧ v4 = .string (bs10 a) ∧ Hid (P ++ wdA a (l.drop i) = R) ∧ Hid (wr.ownsRow w.heap.size 9 1 v3 P.length (sL P)) ∧ Hid (Below w.heap.size w wr)) (fun _ _ v5 _ => n + 1 - (intOf v5).toNat)
  case atStart => exact ⟨0, [], [], by omega, (fun _ => rfl), by simp, rfl, rfl, H0, Lib.hid (World.ownsRow_nil _ _ _ _), Lib.hid (Below.refl _ _)⟩
  case round =>
    obtain ⟨i, a, P, hi, ha1, hal, rfl, rfl, HS, PO, PB⟩ := hrel
    obtain ⟨V, rfl⟩ : ∃ wo : World, wo = wr := ⟨_, rfl⟩
    obtain ⟨p, hp⟩ : ∃ p, p = P.length := ⟨_, rfl⟩
    have HP := Lib.hid hp
    have hple : p ≤ n := by rw [hp]; exact HALL.out P a i HS.out
    rw [← hp] at PO
    have HA1 := Lib.hid ha1
    clear hp HALL HLE ha1
    by_cases hle : i ≤ n
    · have k3 : (i : Int) ≤ n := by omega
      have k0 : (0 : Int) ≤ i := by omega
      have hw1 : IntKind.i64.wrap ((i : Int) + 1) = i + 1 := by rw [IntKind.wrap_i64]; omega
      by_cases hlt : i < n
      · have k1 : (i : Int) < n := by omega
        have k2 : (i : Int) + 1 ≤ n := by omega
        have k4 : (i : Int) ≤ i + 1 := by omega
        have hib : i < s.size := by omega
        obtain ⟨c, hc⟩ : ∃ c, c = s[i]'hib := ⟨_, rfl⟩
        have hget := HGET.out i hib
        rw [← hc] at hget
        obtain ⟨x, hx⟩ : ∃ x, x = (c.toNat : Int) := ⟨_, rfl⟩
        have hidx : ((s[i]'hib).toNat : Int) = x := by rw [hx, hc]
        have hbl : blkI x = blkB c := by rw [hx]; exact blkI_nat c
        have HX := Lib.hid (HEX.out i c hget)
        have HG := Lib.hid hget
        cases hb : blkB c with
        | true =>
          obtain ⟨f1, f2⟩ := wd_blk hget hb HS.out
          have F1 := Lib.hid f1
          have F2 := Lib.hid f2
          unfold blkI at hbl
          rw [hb] at hbl
          by_cases e1 : x = 32
          · subst e1
            clear hbl hb hx hc f1 f2 hget HEX HGET HG HX
            by_cases hnil : a = []
            · have F := Lib.hid (F1.out hnil)
              have t0 : bs10 a = ⟨#[]⟩ := by rw [hnil]; rfl
              rw [t0]
              clear F1 F2 t0
              go_wp2_with fail
              go_roundw
              case rel => exact ⟨i + 1, [], P, by omega, (fun _ => rfl), by simp, by go_num, rfl, F, Lib.hid (by rw [← HP.out]; exact PO.out), PB⟩
              case measure => first | (simp [intOf]; done) | (simp [intOf]; omega)
            · have F := Lib.hid (F2.out hnil)
              have t0 : (bs10 a).toList = a := bs_toList a
              have t1 : (bs10 a).toList.isEmpty = false := by rw [t0]; cases a with | nil => exact absurd rfl hnil | cons => rfl
              have t2 : ((bs10 a).toList == []) = false := by rw [t0]; cases a with | nil => exact absurd rfl hnil | cons => rfl
              clear F1 F2 hnil t0
              go_wp2_with (first
                | (at_builtin
                   refine wpList_append_own _ rfl (.tmp 43) (.tmp 45) 52 rfl w.heap.size 9 i0 _ 1 16 Tryz.underlying52 HI.out HZ0.out HZ1.out HZ2.out rfl (by omega) _ p _ rfl (PO.out.alloc _) ⟨V.heap.size, 0, none⟩ 1 1 (sL [a]) rfl rfl (news_s V a _) (sL_one _) (by unfold maxLen; omega) (by omega) (by rw [World.size_alloc]; exact Nat.le_succ_of_le PB.out.size) ?_
                   intro vA wA oA hA _
                   rw [← sL_app] at oA
                   have OA := Lib.hid oA
                   have BA := Lib.hid ((PB.out.alloc PB.out.size _).grown hA (by rw [World.size_alloc]; exact Nat.le_succ_of_le PB.out.size) (fun g hg => (PO.out.lt g hg).1))
                   clear oA hA))
              go_roundw
              case rel => exact ⟨i + 1, [], P ++ [a], by omega, (fun _ => rfl), by simp, by go_num, rfl, F, Lib.hid (by rw [List.length_append, ← HP.out]; exact OA.out), BA⟩
              case measure => first | (simp [intOf]; done) | (simp [intOf]; omega)
          · have d1 : (x == 32) = false := beq_eq_false_iff_ne.2 e1
            by_cases e2 : x = 9
            · subst e2
              clear hbl hb hx hc f1 f2 hget HEX HGET HG HX e1
              by_cases hnil : a = []
              · have F := Lib.hid (F1.out hnil)
                have t0 : bs10 a = ⟨#[]⟩ := by rw [hnil]; rfl
                rw [t0]
                clear F1 F2 t0
                go_wp2_with fail
                go_roundw
                case rel => exact ⟨i + 1, [], P, by omega, (fun _ => rfl), by simp, by go_num, rfl, F, Lib.hid (by rw [← HP.out]; exact PO.out), PB⟩
                case measure => first | (simp [intOf]; done) | (simp [intOf]; omega)
              · have F := Lib.hid (F2.out hnil)
                have t0 : (bs10 a).toList = a := bs_toList a
                have t1 : (bs10 a).toList.isEmpty = false := by rw [t0]; cases a with | nil => exact absurd rfl hnil | cons => rfl
                have t2 : ((bs10 a).toList == []) = false := by rw [t0]; cases a with | nil => exact absurd rfl hnil | cons => rfl
                clear F1 F2 hnil t0
                go_wp2_with (first
                  | (at_builtin
                     refine wpList_append_own _ rfl (.tmp 43) (.tmp 45) 52 rfl w.heap.size 9 i0 _ 1 16 Tryz.underlying52 HI.out HZ0.out HZ1.out HZ2.out rfl (by omega) _ p _ rfl (PO.out.alloc _) ⟨V.heap.size, 0, none⟩ 1 1 (sL [a]) rfl rfl (news_s V a _) (sL_one _) (by unfold maxLen; omega) (by omega) (by rw [World.size_alloc]; exact Nat.le_succ_of_le PB.out.size) ?_
                     intro vA wA oA hA _
                     rw [← sL_app] at oA
                     have OA := Lib.hid oA
                     have BA := Lib.hid ((PB.out.alloc PB.out.size _).grown hA (by rw [World.size_alloc]; exact Nat.le_succ_of_le PB.out.size) (fun g hg => (PO.out.lt g hg).1))
                     clear oA hA))
                go_roundw
                case rel => exact ⟨i + 1, [], P ++ [a], by omega, (fun _ => rfl), by simp, by go_num, rfl, F, Lib.hid (by rw [List.length_append, ← HP.out]; exact OA.out), BA⟩
                case measure => first | (simp [intOf]; done) | (simp [intOf]; omega)
            · have d2 : (x == 9) = false := beq_eq_false_iff_ne.2 e2
              rw [d1, d2, Bool.false_or, Bool.false_or] at hbl
              obtain rfl : x = 13 := beq_iff_eq.1 hbl
              clear hbl hb hx hc f1 f2 hget HEX HGET HG HX e1 e2
              by_cases hnil : a = []
              · have F := Lib.hid (F1.out hnil)
                have t0 : bs10 a = ⟨#[]⟩ := by rw [hnil]; rfl
                rw [t0]
                clear F1 F2 t0
                go_wp2_with fail
                go_roundw
                case rel => exact ⟨i + 1, [], P, by omega, (fun _ => rfl), by simp, by go_num, rfl, F, Lib.hid (by rw [← HP.out]; exact PO.out), PB⟩
                case measure => first | (simp [intOf]; done) | (simp [intOf]; omega)
              · have F := Lib.hid (F2.out hnil)
                have t0 : (bs10 a).toList = a := bs_toList a
                have t1 : (bs10 a).toList.isEmpty = false := by rw [t0]; cases a with | nil => exact absurd rfl hnil | cons => rfl
                have t2 : ((bs10 a).toList == []) = false := by rw [t0]; cases a with | nil => exact absurd rfl hnil | cons => rfl
                clear F1 F2 hnil t0
                go_wp2_with (first
                  | (at_builtin
                     refine wpList_append_own _ rfl (.tmp 43) (.tmp 45) 52 rfl w.heap.size 9 i0 _ 1 16 Tryz.underlying52 HI.out HZ0.out HZ1.out HZ2.out rfl (by omega) _ p _ rfl (PO.out.alloc _) ⟨V.heap.size, 0, none⟩ 1 1 (sL [a]) rfl rfl (news_s V a _) (sL_one _) (by unfold maxLen; omega) (by omega) (by rw [World.size_alloc]; exact Nat.le_succ_of_le PB.out.size) ?_
                     intro vA wA oA hA _
                     rw [← sL_app] at oA
                     have OA := Lib.hid oA
                     have BA := Lib.hid ((PB.out.alloc PB.out.size _).grown hA (by rw [World.size_alloc]; exact Nat.le_succ_of_le PB.out.size) (fun g hg => (PO.out.lt g hg).1))
                     clear oA hA))
                go_roundw
                case rel => exact ⟨i + 1, [], P ++ [a], by omega, (fun _ => rfl), by simp, by go_num, rfl, F, Lib.hid (by rw [List.length_append, ← HP.out]; exact OA.out), BA⟩
                case measure => first | (simp [intOf]; done) | (simp [intOf]; omega)
        | false =>
          have hgo := Lib.hid (wd_go hget hb HS.out)
          unfold blkI at hbl
          rw [hb, Bool.or_eq_false_iff, Bool.or_eq_false_iff] at hbl
          obtain ⟨⟨e1, e2⟩, e3⟩ := hbl
          have n1 : ¬ x = 32 := beq_eq_false_iff_ne.1 e1
          have n2 : ¬ x = 9 := beq_eq_false_iff_ne.1 e2
          have n3 : ¬ x = 13 := beq_eq_false_iff_ne.1 e3
          have m1 : (x != 32) = true := bne_iff_ne.2 n1
          have m2 : (x != 9) = true := bne_iff_ne.2 n2
          have m3 : (x != 13) = true := bne_iff_ne.2 n3
          clear hb hx hc hget HEX HGET
          go_wp2_with (first
            | ((with_reducible show wpList _ _ _ (⟨some 40, _, _, _, _, _⟩ :: _) _ _)
               refine wpList_cat10 (x := a) (y := [c]) rfl rfl rfl (by first | exact congrArg Value.string HX.out | (simp; exact HX.out)) (by simp; omega) ?_))
          go_roundw
          case rel => exact ⟨i + 1, a ++ [c], P, by omega, (fun h => absurd h (by omega)), by simp; omega, by go_num, rfl, hgo, Lib.hid (by rw [← HP.out]; exact PO.out), PB⟩
          case measure => first | (simp [intOf]; done) | (simp [intOf]; omega)
      · obtain rfl : i = n := by omega
        have kk : ¬ (i : Int) < i := by omega
        obtain ⟨f1, f2⟩ := wd_end (l := l) (i := i) (by rw [HLN.out]; omega) HS.out (i + 1) (by rw [HLN.out]; omega)
        have F1 := Lib.hid f1
        have F2 := Lib.hid f2
        clear f1 f2 HEX HGET
        by_cases hnil : a = []
        · have F := Lib.hid (F1.out hnil)
          have t0 : bs10 a = ⟨#[]⟩ := by rw [hnil]; rfl
          rw [t0]
          clear F1 F2 t0
          go_wp2_with fail
          go_roundw
          case rel => exact ⟨i + 1, [], P, by omega, (fun _ => rfl), by simp, by go_num, rfl, F, Lib.hid (by rw [← HP.out]; exact PO.out), PB⟩
          case measure => first | (simp [intOf]; done) | (simp [intOf]; omega)
        · have F := Lib.hid (F2.out hnil)
          have t0 : (bs10 a).toList = a := bs_toList a
          have t1 : (bs10 a).toList.isEmpty = false := by rw [t0]; cases a with | nil => exact absurd rfl hnil | cons => rfl
          have t2 : ((bs10 a).toList == []) = false := by rw [t0]; cases a with | nil => exact absurd rfl hnil | cons => rfl
          clear F1 F2 hnil t0
          go_wp2_with (first
            | (at_builtin
               refine wpList_append_own _ rfl (.tmp 43) (.tmp 45) 52 rfl w.heap.size 9 i0 _ 1 16 Tryz.underlying52 HI.out HZ0.out HZ1.out HZ2.out rfl (by omega) _ p _ rfl (PO.out.alloc _) ⟨V.heap.size, 0, none⟩ 1 1 (sL [a]) rfl rfl (news_s V a _) (sL_one _) (by unfold maxLen; omega) (by omega) (by rw [World.size_alloc]; exact Nat.le_succ_of_le PB.out.size) ?_
               intro vA wA oA hA _
               rw [← sL_app] at oA
               have OA := Lib.hid oA
               have BA := Lib.hid ((PB.out.alloc PB.out.size _).grown hA (by rw [World.size_alloc]; exact Nat.le_succ_of_le PB.out.size) (fun g hg => (PO.out.lt g hg).1))
               clear oA hA))
          go_roundw
          case rel => exact ⟨i + 1, [], P ++ [a], by omega, (fun _ => rfl), by simp, by go_num, rfl, F, Lib.hid (by rw [List.length_append, ← HP.out]; exact OA.out), BA⟩
          case measure => first | (simp [intOf]; done) | (simp [intOf]; omega)
    · obtain rfl : i = n + 1 := by omega
      have kk : ¬ ((n : Int) + 1) ≤ n := by omega
      have kk2 : ¬ ((n + 1 : Nat) : Int) ≤ n := by omega
      have ha0 := HA1.out rfl
      have he : R = P := by
        have h := HS.out
        rw [ha0, List.drop_of_length_le (by rw [HLN.out]; omega), wdA_nil, if_pos rfl, List.append_nil] at h
        exact h.symm
      have HE := Lib.hid he
      clear he ha0 HEX HGET
      go_wp2_with fail
      go_ret
      have hrl : R.length = p := by rw [HE.out, HP.out]
      obtain ⟨q, c, hq⟩ := own_form12 PO.out
      refine ⟨q, c, ?_, ?_, PB.out⟩
      · rw [hrl, ← hq]; rfl
      · rw [hrl, ← hq, HE.out]; exact PO.out
end Go.Proofs.YtanifiobfbfehaaGreatDoor
namespace Go.Proofs.YtanifiobfbfehaaGreatDoor
open Go.RowKit
set_option linter.unusedVariables false
set_option linter.unusedSimpArgs false
attribute [local go_sem ↓] Go.wp_at_zero Go.wp_at_succ

theorem refTurned (s : ByteArray) (hs : s.size ≤ maxLen) (w : World) : Calls Tryz.prog 43 #[.string s] w fun e w' => e = .returned (.tuple #[.string (turnR s).1, .bool (turnR s).2]) ∧ w = w' := by
  unfold maxLen at hs
  by_cases h0 : s.size = 0
  · have e : turnR s = (s, false) := by
      unfold turnR
      rw [if_neg]
      have : s.data.toList = [] := List.length_eq_zero_iff.1 (by simpa using h0)
      rw [this]; exact fun h => by cases h
    rw [e]
    have k0 : ¬ (0 : Int) < s.size := by omega
    have kz : (s.size : Int) = 0 := by omega
    go_enter Tryz.func43, Tryz.ntmps43
    go_wp2
    go_ret2
    exact ⟨rfl, rfl⟩
  · have h1 : 0 < s.size := by omega
    obtain ⟨c, hc⟩ : ∃ c, c = s[0]'h1 := ⟨_, rfl⟩
    obtain ⟨x, hx⟩ : ∃ x, x = (c.toNat : Int) := ⟨_, rfl⟩
    have hidx : ((s[0]'h1).toNat : Int) = x := by rw [hx, hc]
    have hh : s.data.toList.head? = some c := by rw [hc, List.head?_eq_getElem?, List.getElem?_eq_getElem (by simpa using h1)]; rfl
    have k0 : (0 : Int) < s.size := by omega
    have k1 : (1 : Int) ≤ s.size := by omega
    by_cases h126 : x = 126
    · have hc' : c = 126 := UInt8.toNat_inj.1 (by have : (c.toNat : Int) = ((126 : UInt8).toNat : Int) := by rw [← hx, h126]; rfl
                                                  omega)
      have e : turnR s = (s.extract 1 s.size, true) := by
        unfold turnR
        rw [hh, hc', if_pos rfl, ext_bs, List.take_of_length_le (by simp)]
      rw [e]
      subst h126
      clear hh hc hx hc' h0
      go_enter Tryz.func43, Tryz.ntmps43
      go_wp2
      go_ret2
      exact ⟨rfl, rfl⟩
    · have e : turnR s = (s, false) := by
        unfold turnR
        rw [hh, if_neg]
        intro h; injection h with h; rw [h] at hx; exact h126 hx
      rw [e]
      have q1 : (x == 126) = false := beq_eq_false_iff_ne.2 h126
      clear hh hc hx h0
      go_enter Tryz.func43, Tryz.ntmps43
      go_wp2
      go_ret2
      exact ⟨rfl, rfl⟩
end Go.Proofs.YtanifiobfbfehaaGreatDoor
namespace Go.Proofs.YtanifiobfbfehaaGreatDoor
open Go.RowKit
set_option linter.unusedVariables false
set_option linter.unusedSimpArgs false
attribute [local go_sem ↓] Go.wp_at_zero Go.wp_at_succ

end Go.Proofs.YtanifiobfbfehaaGreatDoor
namespace Go.Proofs.YtanifiobfbfehaaGreatDoor
open Go.RowKit
set_option linter.unusedVariables false
set_option linter.unusedSimpArgs false
attribute [local go_sem ↓] Go.wp_at_zero Go.wp_at_succ

theorem col_step {l : List UInt8} {k : Nat} {c : UInt8} (h : l[k]? = some c) : k + colA (l.drop k) = if c = 58 then k else k + 1 + colA (l.drop (k + 1)) := by
  obtain ⟨hk, rfl⟩ := List.getElem?_eq_some_iff.1 h
  rw [← List.getElem_cons_drop hk]
  unfold colA
  rw [List.findIdx_cons]
  by_cases e : l[k] = 58
  · rw [if_pos e, e]; rfl
  · have : (l[k] == (58 : UInt8)) = false := beq_eq_false_iff_ne.2 e
    rw [if_neg e, this]
    show k + (List.findIdx _ _ + 1) = _
    omega
theorem rd_0 {l : List UInt8} (h : colA l = 0) : rdL l = (e0, 161) := by unfold rdL; rw [if_pos h]
theorem rd_n {l : List UInt8} (h : ¬ colA l = 0) (h2 : colA l = l.length) : rdL l = (⟨bs l, 0, false⟩, 0) := by unfold rdL; rw [if_neg h, if_pos h2]
theorem rd_k {l : List UInt8} (h : ¬ colA l = 0) (h2 : ¬ colA l = l.length) (h3 : bs (l.drop (colA l + 1)) = killB) : rdL l = (⟨bs (l.take (colA l)), 2147483648, true⟩, 0) := by unfold rdL; rw [if_neg h, if_neg h2, if_pos h3]
theorem rd_x {l : List UInt8} (h : ¬ colA l = 0) (h2 : ¬ colA l = l.length) (h3 : ¬ bs (l.drop (colA l + 1)) = killB) (h4 : errnoR (bs (l.drop (colA l + 1))) = none) : rdL l = (e0, 160) := by unfold rdL; rw [if_neg h, if_neg h2, if_neg h3, h4]
theorem rd_e {l : List UInt8} {x : Nat} (h : ¬ colA l = 0) (h2 : ¬ colA l = l.length) (h3 : ¬ bs (l.drop (colA l + 1)) = killB) (h4 : errnoR (bs (l.drop (colA l + 1))) = some x) : rdL l = (⟨bs (l.take (colA l)), 327680 + x, true⟩, 0) := by unfold rdL; rw [if_neg h, if_neg h2, if_neg h3, h4]
theorem below_setCells15 {w0 : World} {b : Nat} (hb : w0.heap.size ≤ b) : ∀ (vs : List Value) (o : Nat) (w : World), Below w0.heap.size w0 w → Below w0.heap.size w0 (w.setCells b o vs)
  | [], o, w, h => h
  | v :: vs, o, w, h => below_setCells15 hb vs (o + 1) (w.setCell ⟨b, o, none⟩ v) (h.setCell hb v)
theorem results_two15 {fn : Func} {tmps : Array Value} {w : World} {t u : Nat} {ty : TypeId} {p : Addr} {v x : Value} (hr : fn.results = #[.cell t ty, .tmp u]) (ha : tmps.getD t undef = .pointer (some p)) (hu : tmps.getD u undef = x) (hl : (loadVar ty p).run Tryz.prog w = .ok v w) : (results fn tmps).run Tryz.prog w = .ok (.tuple #[v, x]) w := by
  have ha' : tmps[t]?.getD undef = .pointer (some p) := by simpa using ha
  have hu' : tmps[u]?.getD undef = x := by simpa using hu
  simp [results, hr, asAddr, ha', hu', hl]
theorem there15 {V : World} {g : Nat} {u v x : Value} (h : V.heap[g]? = some (.cells #[u, v, x] 83 (0, 0))) : V.there g 0 3 := fun j hj => by
  refine ⟨?_, frozen_of_row _ _ _ _ _ h⟩
  rw [cell_of_row _ _ (0 + j) _ _ (0, 0) h]
  match j, hj with
  | 0, _ => rfl
  | 1, _ => rfl
  | 2, _ => rfl
  | j + 3, hj => omega
theorem one15 (a : ByteArray) (b : Int) (c : Bool) : (#[.string a, .int .u32 b, .bool c] : Array Value).all (·.oneCell') = true := by kernel_rfl
/-- An entry, stored into the result's own cells. -/
theorem ret15 {w V : World} {g : Nat} {u v z : Value} (h : V.heap[g]? = some (.cells #[u, v, z] 83 (0, 0))) (hB : Below w.heap.size w V) (hg : w.heap.size ≤ g) (a : ByteArray) (b : Int) (c : Bool) :
    (loadVar 83 ⟨g, 0, none⟩).run Tryz.prog (V.setCells g 0 [.string a, .int .u32 b, .bool c]) = .ok (.agg #[.string a, .int .u32 b, .bool c]) (V.setCells g 0 [.string a, .int .u32 b, .bool c]) ∧ Below w.heap.size w (V.setCells g 0 [.string a, .int .u32 b, .bool c]) := by
  have hinf : (Tryz.prog.info? 83).map (·.size) = some 3 := by kernel_rfl
  exact ⟨run_loadVar_mid (P := Tryz.prog) _ g 0 83 [.string a, .int .u32 b, .bool c] _ (World.rangeAt_setCells_same V g 0 [.string a, .int .u32 b, .bool c] (there15 h)) Tryz.underlying83 rfl hinf, below_setCells15 hg _ _ _ hB⟩
theorem heap_old15 (w : World) (o p : Obj) : ((w.alloc o).alloc p).heap[w.heap.size]? = some o := by
  rw [Below.heap_alloc _ _ _ (by rw [World.size_alloc]; exact Nat.lt_succ_self _)]; exact heap_alloc_new w _
theorem heap_new15 (w : World) (o p : Obj) : ((w.alloc o).alloc p).heap[w.heap.size + 1]? = some p := by
  rw [← World.size_alloc w o]; exact heap_alloc_new _ _
set_option maxRecDepth 100000 in
set_option maxHeartbeats 16000000 in
theorem refRead (s : ByteArray) (hs : s.size ≤ 1000000) (w : World) : Calls Tryz.prog 44 #[.string s] w fun e w' => e = .returned (.tuple #[entV (rdE s).1, .int .i64 (rdE s).2]) ∧ Below w.heap.size w w' := by
  obtain ⟨l, hl⟩ : ∃ l, l = s.data.toList := ⟨_, rfl⟩
  obtain ⟨n, hn⟩ : ∃ n, n = s.size := ⟨_, rfl⟩
  have hln : l.length = n := by rw [hl, hn]; simp
  have HLN := Lib.hid hln
  have HSZ : s.size = n := hn.symm
  have HGET := Lib.hid (fun (i : Nat) (h : i < s.size) => (by rw [hl]; rw [List.getElem?_eq_getElem (by simpa using h)]; rfl : l[i]? = some s[i]))
  have HSTEP := Lib.hid (fun (k : Nat) (c : UInt8) (h : l[k]? = some c) => col_step h)
  have HA := Lib.hid (fun (m : Nat) => (by rw [ext_bs, ← hl]; rfl : s.extract 0 m = bs (l.take m)))
  have HZ := Lib.hid (fun (m : Nat) => (by rw [ext_bs, ← hl, List.take_of_length_le (by omega)] : s.extract m s.size = bs (l.drop m)))
  have HS := Lib.hid (show bs l = s by rw [hl]; rfl)
  have HC := Lib.hid (col_le l)
  have hE : rdE s = rdL l := by unfold rdE; rw [hl]
  rw [hE]
  obtain ⟨R, hR⟩ : ∃ R, R = rdL l := ⟨_, rfl⟩
  rw [← hR]
  have HR := Lib.hid hR
  have hnm : n ≤ 1000000 := by omega
  clear hl hn hE hR hs
  have hnw : IntKind.i64.wrap ((n : Int) - 1) = n - 1 := by rw [IntKind.wrap_i64]; omega
  go_enter Tryz.func44, Tryz.ntmps44
  go_wp2
  go_loop [4, 5] (fun v4 v5 => ∃ (k m : Nat), k ≤ n ∧ m ≤ n ∧ v5 = .int .i64 ((k : Int) - 1) ∧ v4 = .int .i64 (m : Nat) ∧ Hid (m = k + colA (l.drop k))) (fun _ v5 => (intOf v5 + 1).toNat)
  case atStart => exact ⟨n, n, Nat.le_refl _, Nat.le_refl _, by first | rfl | go_num, rfl, Lib.hid (by rw [List.drop_of_length_le (by omega)]; rfl)⟩
  case round =>
    obtain ⟨k, m, hk, hm, rfl, rfl, HM⟩ := hrel
    by_cases hlt : 0 < k
    · obtain ⟨p, rfl⟩ : ∃ p, k = p + 1 := ⟨k - 1, by omega⟩
      have hps : p < s.size := by omega
      obtain ⟨c, hc⟩ : ∃ c, c = s[p]'hps := ⟨_, rfl⟩
      have hget := HGET.out p hps
      rw [← hc] at hget
      have hst := HSTEP.out p c hget
      obtain ⟨x, hx⟩ : ∃ x, x = (c.toNat : Int) := ⟨_, rfl⟩
      have hpc : ((p + 1 : Nat) : Int) - 1 = p := by omega
      rw [hpc]
      have hidx : ((s[p]'hps).toNat : Int) = x := by rw [hx, hc]
      have p0 : (0 : Int) ≤ p := by omega
      have p1 : (p : Int) < n := by omega
      have hw1 : IntKind.i64.wrap ((p : Int) - 1) = p - 1 := by rw [IntKind.wrap_i64]; omega
      by_cases h58 : x = 58
      · have hc' : c = 58 := UInt8.toNat_inj.1 (by have : (c.toNat : Int) = ((58 : UInt8).toNat : Int) := by rw [← hx, h58]; rfl
                                                   omega)
        rw [if_pos hc'] at hst
        have HST := Lib.hid hst
        subst h58
        clear hst hget hc hx hc' HGET HSTEP
        go_wp2
        go_round
        case rel => exact ⟨p, p, by omega, by omega, by first | rfl | go_num, rfl, Lib.hid HST.out.symm⟩
        case measure => simp [intOf]
      · have hc' : ¬ c = 58 := fun e => h58 (by rw [hx, e]; rfl)
        rw [if_neg hc'] at hst
        have HST := Lib.hid hst
        have e1 : (x == 58) = false := beq_eq_false_iff_ne.2 h58
        clear hst hget hc hx hc' HGET HSTEP
        go_wp2
        go_round
        case rel => exact ⟨p, m, by omega, by omega, by first | rfl | go_num, rfl, Lib.hid (by rw [HM.out, HST.out])⟩
        case measure => simp [intOf]
    · obtain rfl : k = 0 := by omega
      have k0 : ¬ (0 : Int) ≤ ((0 : Nat) : Int) - 1 := by omega
      have hmc : m = colA l := by have := HM.out; rw [Nat.zero_add, List.drop_zero] at this; exact this
      have HMC := Lib.hid hmc
      clear hlt HM HGET HSTEP hmc
      have m0 : (0 : Int) ≤ m := by omega
      have m1 : (m : Int) ≤ n := by omega
      by_cases h0 : m = 0
      · have hv := Lib.hid (show R = (e0, 161) by rw [HR.out]; exact rd_0 (HMC.out ▸ h0))
        subst h0
        clear HA HZ
        go_wp2
        refine bodyPost_ret (v := .tuple #[entV e0, .int .i64 161]) (by simp [results, Tryz.results44, go_sem, entV, e0]) rfl ⟨by rw [hv.out], ((Below.refl _ _).alloc (Nat.le_refl _) _).alloc (by simp) _⟩
      · have m2 : ¬ (m : Int) = 0 := by omega
        have q0 : ((m : Int) == 0) = false := beq_eq_false_iff_ne.2 m2
        have c0 : ¬ colA l = 0 := HMC.out ▸ h0
        by_cases h1 : m = n
        · have hv := Lib.hid (show R = (⟨s, 0, false⟩, 0) by rw [HR.out, rd_n c0 (by rw [← HMC.out, HLN.out]; exact h1), HS.out])
          subst h1
          have E1 := Lib.hid (show s.extract 0 m = s from by rw [← HSZ]; simp)
          clear HA HZ c0 h0
          go_wp2
          refine bodyPost_ret (v := .tuple #[.agg #[.string (s.extract 0 m), .int .u32 0, .bool false], .int .i64 0]) (by simp [results, Tryz.results44, go_sem]) rfl ⟨by rw [hv.out, E1.out]; rfl, ((Below.refl _ _).alloc (Nat.le_refl _) _).alloc (by simp) _⟩
        · have m3 : ¬ (m : Int) = n := by omega
          have q1 : ((m : Int) == (n : Int)) = false := beq_eq_false_iff_ne.2 m3
          have m4 : (m : Int) + 1 ≤ n := by omega
          have m5 : (0 : Int) ≤ (m : Int) + 1 := by omega
          have hw1 : IntKind.i64.wrap ((m : Int) + 1) = m + 1 := by rw [IntKind.wrap_i64]; omega
          have c1 : ¬ colA l = l.length := by rw [← HMC.out, HLN.out]; exact h1
          have HX := Lib.hid (HA.out m)
          have HY := Lib.hid (show s.extract (m + 1) n = bs (l.drop (colA l + 1)) from by rw [← HMC.out, ← HSZ]; exact HZ.out (m + 1))
          have HMX := Lib.hid (show bs (l.take (colA l)) = s.extract 0 m from by rw [← HMC.out, HX.out])
          by_cases hk : bs (l.drop (colA l + 1)) = killB
          · have hv := Lib.hid (show R = (⟨s.extract 0 m, 2147483648, true⟩, 0) by rw [HR.out, rd_k c0 c1 hk, HMX.out])
            have t1 : ((s.extract (m + 1) n).toList == [107, 105, 108, 108]) = true := by rw [HY.out, hk, show killB = bs [107, 105, 108, 108] from rfl, bs_toList]; rfl
            clear HA HZ c0 c1 hk HX HY HMX h0 h1
            go_wp2
            refine bodyPost_ret (v := .tuple #[.agg #[.string (s.extract 0 m), .int .u32 2147483648, .bool true], .int .i64 0]) (by simp [results, Tryz.results44, go_sem]) rfl ⟨by rw [hv.out]; rfl, ((Below.refl _ _).alloc (Nat.le_refl _) _).alloc (by simp) _⟩
          · have t1 : ((s.extract (m + 1) n).toList == [107, 105, 108, 108]) = false := beq_eq_false_iff_ne.2 (fun e => hk (by rw [← HY.out]; exact list_of_bytes10 (e.trans (bs_toList [107, 105, 108, 108]).symm)))
            have hys : (s.extract (m + 1) n).size ≤ maxLen := by rw [HY.out, bs_size, List.length_drop]; unfold maxLen; omega
            have HE := Lib.hid (fun W => refErrno (s.extract (m + 1) n) hys W)
            have HIN := Lib.hid (show (Tryz.prog.info? 83).map (·.size) = some 3 from by kernel_rfl)
            rw [HY.out] at HE
            cases he : errnoR (bs (l.drop (colA l + 1))) with
            | none =>
              have hv := Lib.hid (show R = (e0, 160) by rw [HR.out, rd_x c0 c1 hk he])
              rw [he, ← HY.out] at HE
              clear HA HZ c0 c1 hk HX HY HMX h0 h1 he hys
              go_wp2_with (first
                | (go_at_call 31
                   (with_reducible refine (HE.out _).mono ?_)
                   rintro e w2 ⟨rfl, b2⟩
                   have F0 := Lib.hid ((b2.block w.heap.size (by simp only [World.size_alloc]; omega)).trans (heap_old15 _ _ _))
                   have BW := Lib.hid (thn (((Below.refl _ _).alloc (Nat.le_refl _) _).alloc (by simp) _) b2)
                   have ⟨hl, hb3⟩ := ret15 F0.out BW.out (Nat.le_refl _) ⟨#[]⟩ 0 false
                   clear b2)
                | ((with_reducible show wpList _ _ _ (⟨none, .store 83 (.tmp 2) (.tmp 53), _, _, _, _⟩ :: _) _ _)
                   refine wpList_store_mid rfl 83 (.tmp 2) (.tmp 53) rfl w.heap.size 0 #[.string ⟨#[]⟩, .int .u32 0, .bool false] rfl rfl (there15 F0.out) HIN.out (one15 _ _ _) ?_
                   show wpList _ _ _ _ _ (w2.setCells w.heap.size 0 [.string ⟨#[]⟩, .int .u32 0, .bool false])
                   generalize w2.setCells w.heap.size 0 [.string ⟨#[]⟩, .int .u32 0, .bool false] = w3 at hl hb3 ⊢))
              exact bodyPost_ret (v := .tuple #[.agg #[.string ⟨#[]⟩, .int .u32 0, .bool false], .int .i64 160]) (results_two15 Tryz.results44 rfl rfl hl) rfl ⟨by rw [hv.out]; rfl, hb3⟩
            | some x =>
              have hx4 := errnoR_lt he
              have hv := Lib.hid (show R = (⟨s.extract 0 m, 327680 + x, true⟩, 0) by rw [HR.out, rd_e c0 c1 hk he, HMX.out])
              rw [he, ← HY.out] at HE
              have hxw : IntKind.u32.wrap (327680 + (x : Int)) = 327680 + x := by rw [IntKind.wrap_u32]; omega
              have hxw2 : IntKind.u32.wrap ((327680 : Int) + (x : Int)) = ((327680 + x : Nat) : Int) := by rw [hxw]; rfl
              clear HA HZ c0 c1 hk HX HY HMX h0 h1 he hys
              go_wp2_with (first
                | (go_at_call 31
                   (with_reducible refine (HE.out _).mono ?_)
                   rintro e w2 ⟨rfl, b2⟩
                   have F0 := Lib.hid ((b2.block w.heap.size (by simp only [World.size_alloc]; omega)).trans (heap_old15 _ _ _))
                   have F1 := Lib.hid ((b2.block (w.heap.size + 1) (by simp only [World.size_alloc]; omega)).trans (heap_new15 _ _ _))
                   have BW := Lib.hid (thn (((Below.refl _ _).alloc (Nat.le_refl _) _).alloc (by simp) _) b2)
                   have g1 := (cell_of_row w2 (w.heap.size + 1) 1 _ _ (0, 0) F1.out).trans (show _ = some (Value.int .u32 0) from rfl)
                   have z1 := frozen_of_row w2 (w.heap.size + 1) 1 _ _ F1.out
                   have g0 := (cell_of_row w2 (w.heap.size + 1) 0 _ _ (0, 0) F1.out).trans (show _ = some (Value.string (s.extract 0 m)) from rfl)
                   have g2 := (cell_of_row w2 (w.heap.size + 1) 2 _ _ (0, 0) F1.out).trans (show _ = some (Value.bool true) from rfl)
                   have d0 := (World.cell?_setCell_other w2 (a := ⟨w.heap.size + 1, 1, none⟩) (b := ⟨w.heap.size + 1, 0, none⟩) (v := .int .u32 (327680 + (x : Int))) (h := fun e => by injection e with _ e _; cases e)).trans g0
                   have d2 := (World.cell?_setCell_other w2 (a := ⟨w.heap.size + 1, 1, none⟩) (b := ⟨w.heap.size + 1, 2, none⟩) (v := .int .u32 (327680 + (x : Int))) (h := fun e => by injection e with _ e _; cases e)).trans g2
                   have d1 := World.cell?_setCell_same w2 ⟨w.heap.size + 1, 1, none⟩ (.int .u32 (327680 + (x : Int))) g1
                   have F3 := Lib.hid ((((Below.refl (w.heap.size + 1) w2).setCell (p := ⟨w.heap.size + 1, 1, none⟩) (Nat.le_refl _) (.int .u32 (327680 + (x : Int)))).block w.heap.size (Nat.lt_succ_self _)).trans F0.out)
                   have B3 := Lib.hid (BW.out.setCell (p := ⟨w.heap.size + 1, 1, none⟩) (Nat.le_succ _) (.int .u32 (327680 + (x : Int))))
                   have ⟨hl, hb3⟩ := ret15 F3.out B3.out (Nat.le_refl _) (s.extract 0 m) (327680 + (x : Int)) true
                   clear b2)
                | ((with_reducible show wpList _ _ _ (⟨none, .store 83 (.tmp 2) (.tmp 57), _, _, _, _⟩ :: _) _ _)
                   refine wpList_store_mid rfl 83 (.tmp 2) (.tmp 57) rfl w.heap.size 0 #[.string (s.extract 0 m), .int .u32 (327680 + (x : Int)), .bool true] rfl rfl (there15 F3.out) HIN.out (one15 _ _ _) ?_
                   show wpList _ _ _ _ _ ((w2.setCell ⟨w.heap.size + 1, 1, none⟩ (.int .u32 (327680 + (x : Int)))).setCells w.heap.size 0 [.string (s.extract 0 m), .int .u32 (327680 + (x : Int)), .bool true])
                   generalize (w2.setCell ⟨w.heap.size + 1, 1, none⟩ (.int .u32 (327680 + (x : Int)))).setCells w.heap.size 0 [.string (s.extract 0 m), .int .u32 (327680 + (x : Int)), .bool true] = w3 at hl hb3 ⊢))
              exact bodyPost_ret (v := .tuple #[.agg #[.string (s.extract 0 m), .int .u32 (327680 + (x : Int)), .bool true], .int .i64 0]) (results_two15 Tryz.results44 rfl rfl hl) rfl ⟨by rw [hv.out]; rfl, hb3⟩
end Go.Proofs.YtanifiobfbfehaaGreatDoor
