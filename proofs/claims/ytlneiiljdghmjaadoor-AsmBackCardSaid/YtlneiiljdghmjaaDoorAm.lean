/- The chapter's examples, over what the calls of the package asm have to return. -/
import Derived.Test.YtlneiiljdghmjaaDoorAl
import Derived.Test.YtlneiiljdghmjaaDoorWd
import Derived.Test.YtlneiiljdghmjaaDoorId
namespace Go.Proofs.YtlneiiljdghmjaaDoor
open Go.ChangeShapes Go.WideShapes Go.ChangeAt Go.RowKit
open Go.ChangeMaps (open_string shut_string)
set_option linter.unusedVariables false
attribute [local go_sem ↓] Go.wp_at_zero Go.wp_at_succ
theorem lit7 (w : World) (cs : Array Value) (e : TypeId) (l : List Ins) (h : cs.toList = progC l) : RdI (w.alloc (.cells cs e)) (w.alloc (.cells cs e)).heap.size (some ⟨w.heap.size, 0, none⟩) l := by
  refine RdI.of_cells (by simp) fun j u hu => ?_
  rw [Nat.zero_add, cell_of_row _ _ j _ _ (0, 0) (heap_alloc_new w _), ← Array.getElem?_toList, h]
  exact hu
/-- A text that is none's is refused. -/
theorem parse_none {G : World → Prop} (HC : AsmC G) (s : List UInt8) (hs : s.length ≤ 140737488355328) (hn : ∀ q, OkL q → canL q = true → textL q ≠ s) (w : World) (g : G w) : Calls Tryd.prog 17 #[.string (bs s)] w fun e w' => e = .returned (.tuple #[.slice none 0 0, .int .i64 70]) ∧ Below w.heap.size w w' :=
  (HC.parse s w g hs).mono fun e w' h => (h.resolve_left (fun ⟨q, _, _, h1, h2, h3, _⟩ => hn q h1 h2 h3)).2
/-- The text of a program is read as that program. -/
theorem parse_text {G : World → Prop} (HC : AsmC G) (p : List Ins) (hp : OkL p) (hc : canL p = true) (hs : (textL p).length ≤ 140737488355328) (w : World) (g : G w) : Calls Tryd.prog 17 #[.string (bs (textL p))] w fun e w' => ∃ (a : Option Addr) (c : Nat), e = .returned (.tuple #[.slice a p.length c, .int .i64 0]) ∧ RdI w' w'.heap.size a p ∧ p.length ≤ c ∧ c ≤ maxLen ∧ (a = none → c = 0) ∧ Below w.heap.size w w' :=
  (HC.parse _ w g hs).mono fun e w' h => by
    rcases h with ⟨q, a, c, h1, h2, h3, h4, h5, h6, h7, h8, h9⟩ | ⟨h1, _⟩
    · obtain rfl := text_inj h1 h2 hp hc h3
      exact ⟨a, c, h4, h5, h6, h7, h8, h9⟩
    · exact absurd rfl (h1 p hp hc)
theorem refused_any {G : World → Prop} (HC : AsmC G) (s : List UInt8) (hs : s.length ≤ 140737488355328) (hn : ∀ q, OkL q → canL q = true → textL q ≠ s) (w : World) (g : G w) : Calls Tryd.prog 35 #[.string (bs s)] w fun e w' => e = .returned (.bool true) ∧ Below w.heap.size w w' := by
  have HP := Lib.hid (parse_none HC s hs hn w g)
  obtain ⟨t, ht⟩ : ∃ t, t = bs s := ⟨_, rfl⟩
  rw [← ht] at HP ⊢
  clear HC g hs hn ht
  go_enter Tryd.func35, Tryd.ntmps35
  go_wp2_with (go_at_call 17; ((with_reducible refine (HP.out).mono ?_); rintro e w1 ⟨rfl, b1⟩))
  go_ret
  exact ⟨rfl, b1⟩
theorem one_k {w : World} {a : Option Addr} (h : RdI w w.heap.size a [⟨6, 0, 0, 1⟩]) : ∃ b o, a = some ⟨b, o, none⟩ ∧ w.cell? ⟨b, o + 3, none⟩ = some (.int .u32 1) := by
  obtain ⟨b, o, he, hb, hc⟩ := h (by show 0 < 1; omega)
  have := (hc 0 (by show 0 < 1; omega)).a3
  exact ⟨b, o, he, this⟩
set_option maxRecDepth 100000 in
set_option maxHeartbeats 64000000 in
theorem awake7_any {G : World → Prop} (HC : AsmC G) (w : World) (hG : G w) : Calls Tryd.prog 18 #[] w fun e w' => e = .returned (.bool true) ∧ Below w.heap.size w w' := by
  have HON := Lib.hid (fun (w w' : World) => HC.on (w := w) (w' := w'))
  have HG := Lib.hid hG
  have B0 := Lib.hid ((Below.refl w.heap.size w).alloc (Nat.le_refl _) (.cells #[.int .u16 32, .int .u8 0, .int .u8 0, .int .u32 4, .int .u16 21, .int .u8 0, .int .u8 1, .int .u32 5, .int .u16 6, .int .u8 0, .int .u8 0, .int .u32 7, .int .u16 6, .int .u8 0, .int .u8 0, .int .u32 0] 33))
  have HG0 := Lib.hid (HC.al hG (.cells #[.int .u16 32, .int .u8 0, .int .u8 0, .int .u32 4, .int .u16 21, .int .u8 0, .int .u8 1, .int .u32 5, .int .u16 6, .int .u8 0, .int .u8 0, .int .u32 7, .int .u16 6, .int .u8 0, .int .u8 0, .int .u32 0] 33))
  have J0 := Lib.hid (fun (W : World) (g : G (W.alloc (.cells #[.int .u16 32, .int .u8 0, .int .u8 0, .int .u32 4, .int .u16 21, .int .u8 0, .int .u8 1, .int .u32 5, .int .u16 6, .int .u8 0, .int .u8 0, .int .u32 7, .int .u16 6, .int .u8 0, .int .u8 0, .int .u32 0] 33))) => HC.text (some ⟨W.heap.size, 0, none⟩) 4 4 [⟨32, 0, 0, 4⟩, ⟨21, 0, 1, 5⟩, ⟨6, 0, 0, 7⟩, ⟨6, 0, 0, 0⟩] (W.alloc (.cells #[.int .u16 32, .int .u8 0, .int .u8 0, .int .u32 4, .int .u16 21, .int .u8 0, .int .u8 1, .int .u32 5, .int .u16 6, .int .u8 0, .int .u8 0, .int .u32 7, .int .u16 6, .int .u8 0, .int .u8 0, .int .u32 0] 33)) g rfl (OkL.cons (i := ⟨32, 0, 0, 4⟩) (by constructor <;> decide) (OkL.cons (i := ⟨21, 0, 1, 5⟩) (by constructor <;> decide) (OkL.cons (i := ⟨6, 0, 0, 7⟩) (by constructor <;> decide) (OkL.cons (i := ⟨6, 0, 0, 0⟩) (by constructor <;> decide) OkL.nil)))) (Nat.le_refl _) (by unfold maxLen; omega) (fun h => by cases h) (lit7 W #[.int .u16 32, .int .u8 0, .int .u8 0, .int .u32 4, .int .u16 21, .int .u8 0, .int .u8 1, .int .u32 5, .int .u16 6, .int .u8 0, .int .u8 0, .int .u32 7, .int .u16 6, .int .u8 0, .int .u8 0, .int .u32 0] 33 [⟨32, 0, 0, 4⟩, ⟨21, 0, 1, 5⟩, ⟨6, 0, 0, 7⟩, ⟨6, 0, 0, 0⟩] rfl))
  rw [tx7_0, tn7_0, show bs [108, 100, 97, 98, 115, 32, 52, 10, 106, 101, 113, 32, 53, 32, 76, 50, 32, 76, 51, 10, 76, 50, 58, 10, 114, 101, 116, 32, 55, 10, 76, 51, 58, 10, 114, 101, 116, 32, 48, 10] = ⟨#[108, 100, 97, 98, 115, 32, 52, 10, 106, 101, 113, 32, 53, 32, 76, 50, 32, 76, 51, 10, 76, 50, 58, 10, 114, 101, 116, 32, 55, 10, 76, 51, 58, 10, 114, 101, 116, 32, 48, 10]⟩ from rfl] at J0
  have J2 := Lib.hid (fun (W : World) (g : G (W.alloc (.cells #[.int .u16 7, .int .u8 0, .int .u8 0, .int .u32 0, .int .u16 132, .int .u8 0, .int .u8 0, .int .u32 0] 33))) => HC.text (some ⟨W.heap.size, 0, none⟩) 2 2 [⟨7, 0, 0, 0⟩, ⟨132, 0, 0, 0⟩] (W.alloc (.cells #[.int .u16 7, .int .u8 0, .int .u8 0, .int .u32 0, .int .u16 132, .int .u8 0, .int .u8 0, .int .u32 0] 33)) g rfl (OkL.cons (i := ⟨7, 0, 0, 0⟩) (by constructor <;> decide) (OkL.cons (i := ⟨132, 0, 0, 0⟩) (by constructor <;> decide) OkL.nil)) (Nat.le_refl _) (by unfold maxLen; omega) (fun h => by cases h) (lit7 W #[.int .u16 7, .int .u8 0, .int .u8 0, .int .u32 0, .int .u16 132, .int .u8 0, .int .u8 0, .int .u32 0] 33 [⟨7, 0, 0, 0⟩, ⟨132, 0, 0, 0⟩] rfl))
  rw [tx7_2, tn7_2, show bs [116, 97, 120, 10, 110, 101, 103, 10] = ⟨#[116, 97, 120, 10, 110, 101, 103, 10]⟩ from rfl] at J2
  have J1 := Lib.hid (fun (W : World) (g : G W) => HC.text none 0 0 [] W g rfl OkL.nil (Nat.le_refl _) (by unfold maxLen; omega) (fun _ => rfl) (fun h => by simp at h))
  rw [tx7_1, tn7_1, show bs [] = ⟨#[]⟩ from rfl] at J1
  have J3 := Lib.hid (fun (W : World) (g : G W) => parse_text HC [⟨6, 0, 0, 1⟩] (OkL.cons (i := ⟨6, 0, 0, 1⟩) (by constructor <;> decide) OkL.nil) (by decide +kernel) (by rw [show textL [⟨6, 0, 0, 1⟩] = [114, 101, 116, 32, 49, 10] from by kernel_rfl]; decide) W g)
  rw [show textL [⟨6, 0, 0, 1⟩] = [114, 101, 116, 32, 49, 10] from by kernel_rfl, show bs [114, 101, 116, 32, 49, 10] = ⟨#[114, 101, 116, 32, 49, 10]⟩ from rfl] at J3
  have R0 := Lib.hid (fun (W : World) (g : G W) => refused_any HC [114, 101, 116, 32, 48, 55, 10] (by decide) ref7_0 W g)
  rw [show bs [114, 101, 116, 32, 48, 55, 10] = ⟨#[114, 101, 116, 32, 48, 55, 10]⟩ from rfl] at R0
  have R1 := Lib.hid (fun (W : World) (g : G W) => refused_any HC [106, 97, 32, 76, 48, 10] (by decide) ref7_1 W g)
  rw [show bs [106, 97, 32, 76, 48, 10] = ⟨#[106, 97, 32, 76, 48, 10]⟩ from rfl] at R1
  have R2 := Lib.hid (fun (W : World) (g : G W) => refused_any HC [114, 101, 116, 32, 52, 50, 57, 52, 57, 54, 55, 50, 57, 54, 10] (by decide) ref7_2 W g)
  rw [show bs [114, 101, 116, 32, 52, 50, 57, 52, 57, 54, 55, 50, 57, 54, 10] = ⟨#[114, 101, 116, 32, 52, 50, 57, 52, 57, 54, 55, 50, 57, 54, 10]⟩ from rfl] at R2
  have R3 := Lib.hid (fun (W : World) (g : G W) => refused_any HC [114, 101, 116, 32, 49] (by decide) ref7_3 W g)
  rw [show bs [114, 101, 116, 32, 49] = ⟨#[114, 101, 116, 32, 49]⟩ from rfl] at R3
  clear HC hG
  go_enter Tryd.func18, Tryd.ntmps18
  go_wp2_with (first
    | (go_at_call 10; ((with_reducible refine (J0.out w HG0.out).mono ?_); rintro e v1 ⟨rfl, b1⟩); have G1 := HON.out _ _ HG0.out b1; have B1 := B0.out.trans (b1.mono B0.out.size))
    | (go_at_call 10; ((with_reducible refine (J1.out v1 G1).mono ?_); rintro e v2 ⟨rfl, b2⟩); have G2 := HON.out _ _ G1 b2; have B2 := thn B1 b2; have A2 := (Below.refl v2.heap.size v2).alloc (Nat.le_refl _) (.cells #[.int .u16 7, .int .u8 0, .int .u8 0, .int .u32 0, .int .u16 132, .int .u8 0, .int .u8 0, .int .u32 0] 33); have G2a := HON.out _ _ G2 A2)
    | (go_at_call 10; ((with_reducible refine (J2.out v2 G2a).mono ?_); rintro e v3 ⟨rfl, b3⟩); have G3 := HON.out _ _ G2a b3; have B3 := thn B2 (A2.trans (b3.mono A2.size)))
    | (go_at_call 17; ((with_reducible refine (J3.out v3 G3).mono ?_); rintro e v4 ⟨a4, c4, rfl, r4, f4, m4, n4, b4⟩); obtain ⟨p4, o4, rfl, k4⟩ := one_k r4; have G4 := HON.out _ _ G3 b4; have B4 := thn B3 b4)
    | (go_at_call 35; ((with_reducible refine (R0.out v4 G4).mono ?_); rintro e v5 ⟨rfl, b5⟩); have G5 := HON.out _ _ G4 b5; have B5 := thn B4 b5)
    | (go_at_call 35; ((with_reducible refine (R1.out v5 G5).mono ?_); rintro e v6 ⟨rfl, b6⟩); have G6 := HON.out _ _ G5 b6; have B6 := thn B5 b6)
    | (go_at_call 35; ((with_reducible refine (R2.out v6 G6).mono ?_); rintro e v7 ⟨rfl, b7⟩); have G7 := HON.out _ _ G6 b7; have B7 := thn B6 b7)
    | (go_at_call 35; ((with_reducible refine (R3.out v7 G7).mono ?_); rintro e v8 ⟨rfl, b8⟩); have B8 := thn B7 b8))
  go_ret
  exact ⟨rfl, B8⟩
end Go.Proofs.YtlneiiljdghmjaaDoor
