/- What the landed asm reads of a label; the closures that hand over a line's next word, and the number of instructions that its next label skips. Conditions: the library's two errors lie in their variables; a string of at most 2^47 bytes. -/
import Derived.Test.YtlneiiljdghmjaaDoorHm
namespace Go.Proofs.YtlneiiljdghmjaaDoor
open Go.RowKit Go.Shelf
set_option linter.unusedVariables false
set_option linter.unusedSimpArgs false
attribute [local go_sem ↓] Go.wp_at_zero Go.wp_at_succ

def skipN (word : List UInt8) (at_ : Nat) : Nat := (skipL word at_).getD 0
def skipB (word : List UInt8) (at_ : Nat) : Bool := (skipL word at_).isSome
theorem trim_le (l : List UInt8) : (Lib.trimPrefix l [76]).length ≤ l.length := by
  unfold Lib.trimPrefix
  split
  · rw [List.length_drop]; omega
  · exact Nat.le_refl _
theorem skip_lt (word : List UInt8) (at_ : Nat) : skipN word at_ < 4294967296 := by
  unfold skipN skipL
  rcases hp : Lib.parseUintB 32 (Lib.trimPrefix word [76]) with u | _ | _
  · have := parse_lt hp
    simp only
    split
    · simp
    · simp; omega
  · simp
  · simp
set_option maxRecDepth 100000 in
theorem skipped_yes (word : List UInt8) (at_ u : Nat) (hat : at_ ≤ 1099511627776) (hl : word.length ≤ 140737488355328) (hp : Lib.parseUintB 32 (Lib.trimPrefix word [76]) = .ok u) (w : World) :
    Calls Tryd.prog 63 #[.string (bs word), .int .i64 at_] w fun e w' => e = .returned (.tuple #[.int .u64 (skipN word at_ : Nat), .bool (skipB word at_)]) ∧ Below w.heap.size w w' := by
  have HT := Lib.hid (fun W => trimP_call word W)
  have HP := Lib.hid (fun W => parse_yes (Lib.trimPrefix word [76]) (Nat.le_trans (trim_le word) hl) u hp W)
  have hu := parse_lt hp
  obtain ⟨tw, htw⟩ : ∃ t, t = Lib.trimPrefix word [76] := ⟨_, rfl⟩
  rw [← htw] at HT HP
  have u1 : IntKind.u64.wrap (at_ : Int) = at_ := by rw [IntKind.wrap_u64]; omega
  have u2 : IntKind.u64.wrap ((at_ : Int) + 1) = at_ + 1 := by rw [IntKind.wrap_u64]; omega
  by_cases h : u < at_ + 1
  · have HN := Lib.hid (show skipN word at_ = 0 by unfold skipN skipL; rw [hp]; simp only; rw [if_pos h]; rfl)
    have HB := Lib.hid (show skipB word at_ = false by unfold skipB skipL; rw [hp]; simp only; rw [if_pos h]; rfl)
    rw [HN.out, HB.out]
    have i1 : (u : Int) < at_ + 1 := by omega
    clear h hat hl hp hu htw
    go_enter Tryd.func63, Tryd.ntmps63
    go_wp2_with (first
      | (go_at_call 68; ((with_reducible refine (HT.out _).mono ?_); rintro e w1 ⟨rfl, rfl⟩))
      | (go_at_call 64; ((with_reducible refine (HP.out _).mono ?_); rintro e w1 ⟨rfl, b1⟩)))
    go_ret2
    exact ⟨rfl, b1⟩
  · have HN := Lib.hid (show skipN word at_ = u - (at_ + 1) by unfold skipN skipL; rw [hp]; simp only; rw [if_neg h]; rfl)
    have HB := Lib.hid (show skipB word at_ = true by unfold skipB skipL; rw [hp]; simp only; rw [if_neg h]; rfl)
    obtain ⟨sn, hsn⟩ : ∃ t, t = u - (at_ + 1) := ⟨_, rfl⟩
    rw [HN.out, HB.out, ← hsn]
    have i1 : ¬ (u : Int) < at_ + 1 := by omega
    have u3 : IntKind.u64.wrap ((u : Int) - (at_ + 1)) = sn := by rw [IntKind.wrap_u64]; omega
    clear h hat hl hp hu htw hsn
    go_enter Tryd.func63, Tryd.ntmps63
    go_wp2_with (first
      | (go_at_call 68; ((with_reducible refine (HT.out _).mono ?_); rintro e w1 ⟨rfl, rfl⟩))
      | (go_at_call 64; ((with_reducible refine (HP.out _).mono ?_); rintro e w1 ⟨rfl, b1⟩)))
    go_ret2
    exact ⟨rfl, b1⟩
set_option maxRecDepth 100000 in
theorem skipped_no (word : List UInt8) (at_ : Nat) (hat : at_ ≤ 1099511627776) (hl : word.length ≤ 140737488355328) (hp : ∀ u, Lib.parseUintB 32 (Lib.trimPrefix word [76]) ≠ .ok u) (w : World) (hG : GP w) :
    Calls Tryd.prog 63 #[.string (bs word), .int .i64 at_] w fun e w' => e = .returned (.tuple #[.int .u64 (skipN word at_ : Nat), .bool (skipB word at_)]) ∧ Below w.heap.size w w' := by
  have HT := Lib.hid (fun W => trimP_call word W)
  have HP := Lib.hid (parse_no (Lib.trimPrefix word [76]) (Nat.le_trans (trim_le word) hl) hp w hG)
  have hs : skipL word at_ = none := by
    unfold skipL
    rcases h : Lib.parseUintB 32 (Lib.trimPrefix word [76]) with u | _ | _
    · exact absurd h (hp u)
    · rfl
    · rfl
  have HN := Lib.hid (show skipN word at_ = 0 by unfold skipN; rw [hs]; rfl)
  have HB := Lib.hid (show skipB word at_ = false by unfold skipB; rw [hs]; rfl)
  rw [HN.out, HB.out]
  obtain ⟨tw, htw⟩ : ∃ t, t = Lib.trimPrefix word [76] := ⟨_, rfl⟩
  rw [← htw] at HT HP
  have u1 : IntKind.u64.wrap (at_ : Int) = at_ := by rw [IntKind.wrap_u64]; omega
  have u2 : IntKind.u64.wrap ((at_ : Int) + 1) = at_ + 1 := by rw [IntKind.wrap_u64]; omega
  clear hat hl hp htw hs hG
  go_enter Tryd.func63, Tryd.ntmps63
  go_wp2_with (first
    | (go_at_call 68; ((with_reducible refine (HT.out _).mono ?_); rintro e w1 ⟨rfl, rfl⟩))
    | (go_at_call 64; ((with_reducible refine (HP.out).mono ?_); rintro e w1 ⟨v, N, rfl, v0, v1, b1⟩)))
  go_ret2
  exact ⟨rfl, b1⟩
/-- What the landed skipped returns. -/
theorem skipped_call (word : List UInt8) (at_ : Nat) (hat : at_ ≤ 1099511627776) (hl : word.length ≤ 140737488355328) (w : World) (hG : GP w) :
    Calls Tryd.prog 63 #[.string (bs word), .int .i64 at_] w fun e w' => e = .returned (.tuple #[.int .u64 (skipN word at_ : Nat), .bool (skipB word at_)]) ∧ Below w.heap.size w w' := by
  rcases hp : Lib.parseUintB 32 (Lib.trimPrefix word [76]) with u | _ | _
  · exact skipped_yes word at_ u hat hl hp w
  · exact skipped_no word at_ hat hl (fun u h => by rw [hp] at h; cases h) w hG
  · exact skipped_no word at_ hat hl (fun u h => by rw [hp] at h; cases h) w hG
/-- What lies in the boxes that the closures share, behind read's own start. -/
structure RdS (w0 : World) (A Z K N I R : Nat) (oi orr : Obj) (at_ : Nat) (l : List UInt8) (b : Bool) (V : World) : Prop where
  pa : Boxed V A 3 (.int .i64 at_)
  pz : Boxed V Z 9 (.string (bs l))
  pk : Boxed V K 4 (.bool b)
  pn : Boxed V N 55 (.func (.func 61) #[] #[.pointer (some ⟨Z, 0, none⟩)])
  pi : V.heap[I]? = some oi
  pr : V.heap[R]? = some orr
  bel : Below w0.heap.size w0 V
/-- The boxes' places. -/
structure RdP (w0 : World) (A Z K N I R : Nat) : Prop where
  za : A ≠ Z
  zk : K ≠ Z
  zn : N ≠ Z
  zi : I ≠ Z
  zr : R ≠ Z
  ka : A ≠ K
  kn : N ≠ K
  ki : I ≠ K
  kr : R ≠ K
  z0 : w0.heap.size ≤ Z
  k0 : w0.heap.size ≤ K
theorem RdS.on {w0 V V' : World} {A Z K N I R at_ : Nat} {oi orr : Obj} {l : List UInt8} {b : Bool} (h : RdS w0 A Z K N I R oi orr at_ l b V) (hb : Below V.heap.size V V') : RdS w0 A Z K N I R oi orr at_ l b V' := by
  have keep : ∀ {k : Nat} {o : Obj}, V.heap[k]? = some o → V'.heap[k]? = some o := fun hk => (hb.block _ (Array.getElem?_eq_some_iff.1 hk).1).trans hk
  exact ⟨keep h.pa, keep h.pz, keep h.pk, keep h.pn, keep h.pi, keep h.pr, h.bel.trans (hb.mono h.bel.size)⟩
theorem boxed_set {V : World} {B : Nat} {t : TypeId} {v v' : Value} (h : Boxed V B t v) : Boxed (V.setCell ⟨B, 0, none⟩ v') B t v' := by
  have hlt := (Array.getElem?_eq_some_iff.1 h).1
  unfold Boxed at *
  rw [setCell_eq_setRow V B 0 #[v] t (0, 0) v' h]
  exact setRow_heap V B #[v] _ t _ h
theorem RdS.setZ {w0 V : World} {A Z K N I R at_ : Nat} {oi orr : Obj} {l l' : List UInt8} {b : Bool} (h : RdS w0 A Z K N I R oi orr at_ l b V) (p : RdP w0 A Z K N I R) : RdS w0 A Z K N I R oi orr at_ l' b (V.setCell ⟨Z, 0, none⟩ (.string (bs l'))) := by
  have keep : ∀ {k : Nat} {o : Obj}, k ≠ Z → V.heap[k]? = some o → (V.setCell ⟨Z, 0, none⟩ (.string (bs l'))).heap[k]? = some o := fun {k o} hk ho => (heap_setCell_other V _ k _ hk).trans ho
  exact ⟨keep p.za h.pa, boxed_set h.pz, keep p.zk h.pk, keep p.zn h.pn, keep p.zi h.pi, keep p.zr h.pr, h.bel.setCell (p := ⟨Z, 0, none⟩) p.z0 _⟩
theorem RdS.setK {w0 V : World} {A Z K N I R at_ : Nat} {oi orr : Obj} {l : List UInt8} {b b' : Bool} (h : RdS w0 A Z K N I R oi orr at_ l b V) (p : RdP w0 A Z K N I R) : RdS w0 A Z K N I R oi orr at_ l b' (V.setCell ⟨K, 0, none⟩ (.bool b')) := by
  have keep : ∀ {k : Nat} {o : Obj}, k ≠ K → V.heap[k]? = some o → (V.setCell ⟨K, 0, none⟩ (.bool b')).heap[k]? = some o := fun {k o} hk ho => (heap_setCell_other V _ k _ hk).trans ho
  exact ⟨keep p.ka h.pa, keep (fun e => p.zk e.symm) h.pz, boxed_set h.pk, keep p.kn h.pn, keep p.ki h.pi, keep p.kr h.pr, h.bel.setCell (p := ⟨K, 0, none⟩) p.k0 _⟩
set_option maxRecDepth 100000 in
theorem next_call {w0 : World} {A Z K N I R at_ : Nat} {oi orr : Obj} {l : List UInt8} {b : Bool} (P : RdP w0 A Z K N I R) (hl : l.length ≤ 140737488355328) (w : World) (h : RdS w0 A Z K N I R oi orr at_ l b w) :
    Calls Tryd.prog 61 #[.pointer (some ⟨Z, 0, none⟩)] w fun e w' => e = .returned (.string (bs (befL l))) ∧ RdS w0 A Z K N I R oi orr at_ (aftL l) b w' := by
  have HC := Lib.hid (fun W => cut_call l hl W)
  have c0 := h.pz.cell
  have HP := Lib.hid P
  have HS := Lib.hid h
  clear hl P h
  go_enter Tryd.func61, Tryd.ntmps61
  go_wp2_with (go_at_call 59; ((with_reducible refine (HC.out _).mono ?_); rintro e w1 ⟨bb, rfl, b1⟩); have H1 := Lib.hid (HS.out.on b1); have c1 := H1.out.pz.cell; have f1 := H1.out.pz.frozen)
  go_ret
  exact ⟨rfl, H1.out.setZ HP.out⟩
end Go.Proofs.YtlneiiljdghmjaaDoor
