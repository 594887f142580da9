/- What the document's own Parse returns. Condition: bytes that lie in memory. -/
import Derived.Test.YtifjnioichfodaaDoorYc
import Derived.Test.YtifjnioichfodaaDoorLi
import Derived.StillTailTactics
namespace Go.Proofs.YtifjnioichfodaaDoor
open Go.RowKit
set_option linter.unusedVariables false
set_option linter.unusedSimpArgs false
attribute [local go_sem ↓] Go.wp_at_zero Go.wp_at_succ

theorem thn13 {w V W : World} (a : Below w.heap.size w V) (b : Below V.heap.size V W) : Below w.heap.size w W := a.trans (b.mono a.size)
def Apart13 (v4 v5 : Value) : Prop := ∀ g, v4.ownBlock = some g → v5.ownBlock ≠ some g
theorem own_on13 {w w' : World} {B n s : Nat} {e : TypeId} {v : Value} {xs : List Value} (h : w.ownsRow B e s v n xs) (hb : Below w.heap.size w w') : w'.ownsRow B e s v n xs := by
  refine ⟨h.1, ?_⟩
  rcases h.2 with h2 | ⟨g, cap, cur, rfl, hgB, hg, r⟩
  · exact Or.inl h2
  · exact Or.inr ⟨g, cap, cur, rfl, hgB, (hb.block g (h.lt g rfl).2).trans hg, r⟩
theorem apart_new {v v5 : Value} {g n c H : Nat} {w : World} (ha : Apart13 v v5) (h : v.ownBlock = some g ∨ g = H) (hH : ∀ b, v5.ownBlock = some b → b < H) : Apart13 (.slice (some ⟨g, 0, none⟩) n c) v5 := fun b hb e => by
  have hb' : g = b := Option.some.inj hb
  subst hb'
  rcases h with h | h
  · exact ha g h e
  · have := hH g e; omega
theorem apart_new2 {v v5 : Value} {g n c H : Nat} {w : World} (ha : Apart13 v5 v) (h : v.ownBlock = some g ∨ g = H) (hH : ∀ b, v5.ownBlock = some b → b < H) : Apart13 v5 (.slice (some ⟨g, 0, none⟩) n c) := fun b hb e => by
  have hb' : g = b := Option.some.inj e
  subst hb'
  rcases h with h | h
  · exact ha g hb h
  · have := hH g hb; omega
def OutA (base : Nat) (w : World) (v : Value) (O : List Asn) : Prop := w.ownsRow base 39 5 v O.length (rowC encA O)
def OutN (base : Nat) (w : World) (v : Value) (O : List Nte) : Prop := w.ownsRow base 47 4 v O.length (rowC encN O)
set_option maxRecDepth 100000 in
set_option maxHeartbeats 32000000 in
theorem parse_err (fn : ByteArray) (dir : Int) (a0 : Option Addr) (n cap : Nat) (l : List UInt8) (w : World) (hl : l.length = n) (hn : n ≤ 1000000) (hc : n ≤ cap) (hm : cap ≤ maxLen) (hr : RdB w w.heap.size a0 l) (hE : splE l ≠ 0) : Calls Tryd.prog 9 #[.agg #[.string fn, .int .i64 dir, .slice a0 n cap]] w fun e w' =>
    ∃ va vn, e = .returned (.tuple #[va, vn]) ∧ RowsAt 5 encA w' va [] ∧ RowsAt 4 encN w' vn [⟨fn, 0, splE l, ⟨#[]⟩⟩] ∧ Below w.heap.size w w' := by
  have HS := Lib.hid (fun (W : World) (h : RdB W W.heap.size a0 l) => refSplit a0 n cap l W hl hn hc hm h)
  have HR := Lib.hid hr
  obtain ⟨E, hE2⟩ : ∃ E, E = splE l := ⟨_, rfl⟩
  rw [← hE2] at hE HS ⊢
  have t1 : (E != 0) = true := by rw [bne_iff_ne]; exact hE
  clear hl hn hc hm hr hE2
  go_enter Tryd.func9, Tryd.ntmps9
  go_wp2_with (go_at_call 23; ((with_reducible refine (HS.out _ (HR.out.on ((Below.refl _ _).alloc (Nat.le_refl _) _))).mono ?_); rintro e W ⟨v, rfl, _, b1⟩); have c0 := (cell_of_row W w.heap.size 0 _ _ (0, 0) ((b1.block w.heap.size (by rw [World.size_alloc]; exact Nat.lt_succ_self _)).trans (heap_alloc_new w _))).trans (show _ = some (Value.string fn) from rfl); have B1 := Lib.hid (thn13 ((Below.refl w.heap.size w).alloc (Nat.le_refl _) _) b1); clear b1)
  go_region
  all_goals
    go_wp2
    go_ret2
    exact ⟨_, _, rfl, RowsAt.nil _, rows_lit encN_len _ [⟨fn, 0, E, ⟨#[]⟩⟩] _, (Go.below_drewN B1.out 1).alloc (Go.below_drewN B1.out 1).size _⟩
end Go.Proofs.YtifjnioichfodaaDoor
