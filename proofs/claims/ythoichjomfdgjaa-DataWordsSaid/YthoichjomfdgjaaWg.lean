/- The examples of the chapter on words, as the statements begin with them: they answer true. No condition. -/
import Derived.Test.YthoichjomfdgjaaWf
namespace Go.Proofs.Ythoichjomfdgjaa
open Go.RowKit
set_option linter.unusedVariables false

/-- A slice that the text writes out reads as its bytes. -/
theorem Rd.lit (w : World) (cs : Array Value) (e : TypeId) (xs : List Int) (h : cs = (bv xs).toArray) : Rd (w.alloc (.cells cs e)) (w.heap.size + 1) (some ⟨w.heap.size, 0, none⟩) xs := fun _ => by
  subst h
  refine ⟨_, 0, rfl, by omega, fun i hi => ?_⟩
  rw [Nat.zero_add, cell_of_row (w.alloc (.cells (bv xs).toArray e)) w.heap.size i (bv xs).toArray e (0, 0) (heap_alloc_new w _), List.getElem?_toArray, bv_get hi]
theorem Same_yes (p q : Option Addr) (n c d B B' : Nat) (xs ys : List Int) (w : World) (he : xs = ys) (hx : xs.length = n) (hB : Byt xs) (h : Rd w B p xs) (k : Rd w B' q ys) :
    Calls Try.prog 16 #[.slice p n c, .slice q n d] w fun e w' => e = .returned (.bool true) ∧ w = w' := by
  subst he
  exact (Same_any p q n c n d B B' xs xs w hx hx hB hB h k).mono fun _ _ ⟨h1, h2⟩ => ⟨by rw [h1, sameB_self], h2⟩
theorem Same_no (p q : Option Addr) (n c m d B B' : Nat) (xs ys : List Int) (w : World) (he : xs ≠ ys) (hx : xs.length = n) (hy : ys.length = m) (hB : Byt xs) (hC : Byt ys) (h : Rd w B p xs) (k : Rd w B' q ys) :
    Calls Try.prog 16 #[.slice p n c, .slice q m d] w fun e w' => e = .returned (.bool false) ∧ w = w' :=
  (Same_any p q n c m d B B' xs ys w hx hy hB hC h k).mono fun _ _ ⟨h1, h2⟩ => ⟨by rw [h1, sameB_false he], h2⟩
theorem byt_dec {l : List Int} (h : l.all (fun x => decide (0 ≤ x ∧ x < 256)) = true) : Byt l := fun x hx => by
  have := List.all_eq_true.1 h x hx
  exact of_decide_eq_true this
/-- Behind a row that the text writes out. -/
theorem below_lit {w0 w : World} (hb : Below w0.heap.size w0 w) (o : Obj) : Below w0.heap.size w0 (w.alloc o) := hb.alloc hb.size o
theorem aw_get {w0 w : World} (hb : Below w0.heap.size w0 w) (at_ v : Int) (b : Bool) (hw : at_ ≤ 100) (hv : getV 4 [9, 4, 3, 2, 1] at_ = v) (h2 : getB 4 [9, 4, 3, 2, 1] at_ = b) :
    Calls Try.prog 17 #[.slice (some ⟨w.heap.size, 0, none⟩) 5 5, .int .i64 at_] (w.alloc (.cells #[.int .u8 9, .int .u8 4, .int .u8 3, .int .u8 2, .int .u8 1] 5)) fun e w' =>
      e = .returned (.tuple #[.int .u32 v, .bool b]) ∧ Below w0.heap.size w0 w' := by
  subst hv h2
  exact (Get32_any _ 5 5 _ [9, 4, 3, 2, 1] _ rfl (byt_dec (by decide)) (by decide) (Rd.lit w _ _ _ rfl) at_ (by omega)).mono fun _ _ ⟨h1, h2⟩ => ⟨h1, h2 ▸ below_lit hb _⟩
theorem aw1 {w0 w : World} (hb : Below w0.heap.size w0 w) :
    Calls Try.prog 17 #[.slice (some ⟨w.heap.size, 0, none⟩) 5 5, .int .i64 1] (w.alloc (.cells #[.int .u8 9, .int .u8 4, .int .u8 3, .int .u8 2, .int .u8 1] 5)) fun e w' =>
      e = .returned (.tuple #[.int .u32 16909060, .bool true]) ∧ Below w0.heap.size w0 w' := aw_get hb 1 16909060 true (by decide) (by decide) (by decide)
theorem aw2 {w0 w : World} (hb : Below w0.heap.size w0 w) :
    Calls Try.prog 17 #[.slice (some ⟨w.heap.size, 0, none⟩) 5 5, .int .i64 2] (w.alloc (.cells #[.int .u8 9, .int .u8 4, .int .u8 3, .int .u8 2, .int .u8 1] 5)) fun e w' =>
      e = .returned (.tuple #[.int .u32 0, .bool false]) ∧ Below w0.heap.size w0 w' := aw_get hb 2 0 false (by decide) (by decide) (by decide)
theorem aw3 {w0 w : World} (hb : Below w0.heap.size w0 w) :
    Calls Try.prog 17 #[.slice (some ⟨w.heap.size, 0, none⟩) 5 5, .int .i64 (-1)] (w.alloc (.cells #[.int .u8 9, .int .u8 4, .int .u8 3, .int .u8 2, .int .u8 1] 5)) fun e w' =>
      e = .returned (.tuple #[.int .u32 0, .bool false]) ∧ Below w0.heap.size w0 w' := aw_get hb (-1) 0 false (by decide) (by decide) (by decide)
theorem aw_halves (w : World) : Calls Try.prog 32 #[.int .u64 21474836487] w fun e w' => e = .returned (.tuple #[.int .u32 7, .int .u32 5]) ∧ w = w' := halves_any 21474836487 w
theorem aw_s16 {w0 w : World} {g B : Nat} (h : w.ownsRow B 5 1 (.slice (some ⟨g, 0, none⟩) 2 2) 2 (bv (putL 2 258))) (hb : Below w0.heap.size w0 w) :
    Calls Try.prog 16 #[.slice (some ⟨g, 0, none⟩) 2 2, .slice (some ⟨w.heap.size, 0, none⟩) 2 2] (w.alloc (.cells #[.int .u8 2, .int .u8 1] 5)) fun e w' => e = .returned (.bool true) ∧ Below w0.heap.size w0 w' :=
  (Same_yes _ _ 2 2 2 _ _ (putL 2 258) [2, 1] _ (by decide) rfl (putL_byt _ _) ((Rd.of_own h).alloc (Nat.le_refl _) _) (Rd.lit w _ _ _ rfl)).mono fun _ _ ⟨h1, h2⟩ => ⟨h1, h2 ▸ below_lit hb _⟩
theorem aw_put32 {w0 w : World} (hb : Below w0.heap.size w0 w) :
    Calls Try.prog 22 #[.int .u32 16909060] w fun e w' => ∃ g, e = .returned (.slice (some ⟨g, 0, none⟩) 4 4) ∧
      w'.ownsRow w.heap.size 5 1 (.slice (some ⟨g, 0, none⟩) 4 4) 4 (bv (putL 4 16909060)) ∧ Below w0.heap.size w0 w' :=
  (Put32_any 16909060 w (by decide)).mono fun _ _ ⟨g, h1, h2, h3⟩ => ⟨g, h1, h2, hb.trans (h3.mono hb.size)⟩
theorem aw_s32 {w0 w : World} {g B : Nat} (h : w.ownsRow B 5 1 (.slice (some ⟨g, 0, none⟩) 4 4) 4 (bv (putL 4 16909060))) (hb : Below w0.heap.size w0 w) :
    Calls Try.prog 16 #[.slice (some ⟨g, 0, none⟩) 4 4, .slice (some ⟨w.heap.size, 0, none⟩) 4 4] (w.alloc (.cells #[.int .u8 4, .int .u8 3, .int .u8 2, .int .u8 1] 5)) fun e w' => e = .returned (.bool true) ∧ Below w0.heap.size w0 w' :=
  (Same_yes _ _ 4 4 4 _ _ (putL 4 16909060) [4, 3, 2, 1] _ (by decide) rfl (putL_byt _ _) ((Rd.of_own h).alloc (Nat.le_refl _) _) (Rd.lit w _ _ _ rfl)).mono fun _ _ ⟨h1, h2⟩ => ⟨h1, h2 ▸ below_lit hb _⟩
theorem aw_s0 {w0 w : World} (hb : Below w0.heap.size w0 w) :
    Calls Try.prog 16 #[.slice none 0 0, .slice (some ⟨w.heap.size, 0, none⟩) 1 1] (w.alloc (.cells #[.int .u8 0] 5)) fun e w' => e = .returned (.bool false) ∧ Below w0.heap.size w0 w' :=
  (Same_no _ _ 0 0 1 1 0 _ [] [0] _ (by decide) rfl rfl Byt.nil (byt_dec (by decide)) (Rd.nil _ _ _) (Rd.lit w _ _ _ rfl)).mono fun _ _ ⟨h1, h2⟩ => ⟨h1, h2 ▸ below_lit hb _⟩
end Go.Proofs.Ythoichjomfdgjaa
