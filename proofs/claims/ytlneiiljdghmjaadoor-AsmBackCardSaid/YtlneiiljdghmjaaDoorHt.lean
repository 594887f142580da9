/- What the landed Parse returns; all that the landed asm returns. Conditions: the tables and the library's two errors lie in their variables; a text of at most 2^47 bytes. -/
import Derived.Test.YtlneiiljdghmjaaDoorHs
namespace Go.Proofs.YtlneiiljdghmjaaDoor
open Go.RowKit Go.Shelf
set_option linter.unusedVariables false
set_option linter.unusedSimpArgs false
attribute [local go_sem ↓] Go.wp_at_zero Go.wp_at_succ

theorem bs_same (a b : List UInt8) : ((bs a).toList == (bs b).toList) = decide (a = b) := by
  rw [ByteArray.toList_eq, ByteArray.toList_eq, bs_list, bs_list, Bool.eq_iff_iff, beq_iff_eq, decide_eq_true_eq]
theorem none_of {s : List UInt8} (h : readAllL (cutsL s) [] = none) : ∀ q, OkL q → canL q = true → textL q ≠ s := fun q h1 h2 e => by
  have := readAll_text h2 h1
  rw [e, h] at this
  cases this
theorem only_of {s : List UInt8} {q : List Ins} (h : readAllL (cutsL s) [] = some q) (hn : ¬ (canL q = true ∧ textL q = s)) : ∀ q', OkL q' → canL q' = true → textL q' ≠ s := fun q' h1 h2 e => by
  have := readAll_text h2 h1
  rw [e, h] at this
  injection this with this
  subst this
  exact hn ⟨h2, e⟩
theorem parse_bad (s : List UInt8) (w : World) (h : readAllL (cutsL s) [] = none) (HR : Calls Tryd.prog 34 #[.string (bs s)] w (ReadAllTo s w)) : Calls Tryd.prog 17 #[.string (bs s)] w fun e w' => e = .returned (.tuple #[.slice none 0 0, .int .i64 70]) ∧ Below w.heap.size w w' := by
  have HC := Lib.hid (HR.mono fun e w' (g : ReadAllTo s w e w') => show e = .returned (.tuple #[.slice none 0 0, .bool false]) ∧ Below w.heap.size w w' from by
    rcases g with ⟨q, _, _, g, _⟩ | ⟨_, g1, g2⟩
    · rw [h] at g; cases g
    · exact ⟨g1, g2⟩)
  clear h HR
  go_enter Tryd.func17, Tryd.ntmps17
  go_wp2_with (go_at_call 34; ((with_reducible refine (HC.out).mono ?_); rintro e w1 ⟨rfl, b1⟩))
  go_ret2
  exact ⟨rfl, b1⟩
set_option maxRecDepth 100000 in
set_option maxHeartbeats 4000000 in
theorem parse_read (s : List UInt8) (w : World) (hG : GP w) (q : List Ins) (h : readAllL (cutsL s) [] = some q) (HR : Calls Tryd.prog 34 #[.string (bs s)] w (ReadAllTo s w)) : Calls Tryd.prog 17 #[.string (bs s)] w (ParseTo s w) := by
  have hok : OkL q := readAll_ok _ _ _ OkL.nil h
  have HC := Lib.hid (HR.mono fun e w' (g : ReadAllTo s w e w') => show ∃ (a : Option Addr) (c : Nat), e = .returned (.tuple #[.slice a q.length c, .bool true]) ∧ RdI w' w'.heap.size a q ∧ q.length ≤ c ∧ c ≤ maxLen ∧ (a = none → c = 0) ∧ Below w.heap.size w w' from by
    rcases g with ⟨q', a, c, g, g2⟩ | ⟨g, _⟩
    · rw [h] at g
      injection g with g
      subst g
      exact ⟨a, c, g2⟩
    · rw [h] at g; cases g)
  have HT := Lib.hid (fun (a : Option Addr) (c : Nat) W (b : Below w.heap.size w W) (hr : RdI W W.heap.size a q) => text_call a q.length c q W (hG.toGA.on b) rfl hok hr)
  have HQ := Lib.hid (only_of h)
  obtain ⟨n, hn⟩ : ∃ n, n = q.length := ⟨_, rfl⟩
  have HN := Lib.hid hn
  have HOK := Lib.hid hok
  have HS := Lib.hid (bs_same (textL q) s)
  unfold ParseTo
  rw [← hn] at HC HT
  unfold textE textN at HT
  clear h HR hG hn hok
  cases hc : canL q with
  | false =>
    rw [hc, if_neg Bool.false_ne_true, if_neg Bool.false_ne_true] at HT
    have HX := Lib.hid (HQ.out (fun g => by rw [hc] at g; exact Bool.false_ne_true g.1))
    clear hc HQ
    go_enter Tryd.func17, Tryd.ntmps17
    go_wp2_with (first
      | (go_at_call 34; ((with_reducible refine (HC.out).mono ?_); rintro e w1 ⟨a, c, rfl, s1, s2, s3, s4, b1⟩); have S1 := Lib.hid s1; have B1 := Lib.hid b1; clear s1 b1)
      | (go_at_call 10; ((with_reducible refine (HT.out _ _ _ B1.out S1.out).mono ?_); rintro e w2 ⟨rfl, b2⟩)))
    go_ret2
    exact .inr ⟨HX.out, rfl, B1.out.trans (b2.mono B1.out.size)⟩
  | true =>
    rw [hc, if_pos rfl, if_pos rfl] at HT
    have HCN := Lib.hid hc
    by_cases he : textL q = s
    · rw [decide_eq_true he] at HS
      have HE := Lib.hid he
      have e1 := HS.out
      obtain ⟨tx, htx⟩ : ∃ t, t = textL q := ⟨_, rfl⟩
      rw [← htx] at HT e1
      clear hc HQ he htx
      go_enter Tryd.func17, Tryd.ntmps17
      go_wp2_with (first
        | (go_at_call 34; ((with_reducible refine (HC.out).mono ?_); rintro e w1 ⟨a, c, rfl, s1, s2, s3, s4, b1⟩); have S1 := Lib.hid s1; have B1 := Lib.hid b1; clear s1 b1)
        | (go_at_call 10; ((with_reducible refine (HT.out _ _ _ B1.out S1.out).mono ?_); rintro e w2 ⟨rfl, b2⟩)))
      go_ret2
      rw [HN.out] at s2 ⊢
      exact .inl ⟨q, a, c, HOK.out, HCN.out, HE.out, rfl, (S1.out.keep fun p hp => b2.cell hp).more b2.size, s2, s3, s4, B1.out.trans (b2.mono B1.out.size)⟩
    · rw [decide_eq_false he] at HS
      have HX := Lib.hid (HQ.out (fun g => he g.2))
      have e1 := HS.out
      obtain ⟨tx, htx⟩ : ∃ t, t = textL q := ⟨_, rfl⟩
      rw [← htx] at HT e1
      clear hc HQ he htx
      go_enter Tryd.func17, Tryd.ntmps17
      go_wp2_with (first
        | (go_at_call 34; ((with_reducible refine (HC.out).mono ?_); rintro e w1 ⟨a, c, rfl, s1, s2, s3, s4, b1⟩); have S1 := Lib.hid s1; have B1 := Lib.hid b1; clear s1 b1)
        | (go_at_call 10; ((with_reducible refine (HT.out _ _ _ B1.out S1.out).mono ?_); rintro e w2 ⟨rfl, b2⟩)))
      go_ret2
      exact .inr ⟨HX.out, rfl, B1.out.trans (b2.mono B1.out.size)⟩
/-- What the landed Parse returns. -/
theorem parse_call (s : List UInt8) (hs : s.length ≤ 140737488355328) (w : World) (hG : GP w) : Calls Tryd.prog 17 #[.string (bs s)] w (ParseTo s w) := by
  have HR := readAll_call s hs w hG
  cases h : readAllL (cutsL s) [] with
  | none => exact (parse_bad s w h HR).mono fun e w' ⟨h1, h2⟩ => .inr ⟨none_of h, h1, h2⟩
  | some q => exact parse_read s w hG q h HR
theorem asmA : AsmA GA where
  on := fun h b => h.on b
  can := fun a0 n cap p w g hl hok _ _ _ hR => can_call a0 n cap p w g hl hok hR
  text := fun a0 n cap p w g hl hok _ _ _ hR => text_call a0 n cap p w g hl hok hR
  line := fun i at_ w g hi _ h2 => line_call i hi at_ h2 w g
theorem asmC : AsmC GP where
  on := fun h b => h.on b
  can := fun a0 n cap p w g hl hok _ _ _ hR => can_call a0 n cap p w g.toGA hl hok hR
  text := fun a0 n cap p w g hl hok _ _ _ hR => text_call a0 n cap p w g.toGA hl hok hR
  line := fun i at_ w g hi _ h2 => line_call i hi at_ h2 w g.toGA
  parse := fun s w g hs => parse_call s hs w g
end Go.Proofs.YtlneiiljdghmjaaDoor
