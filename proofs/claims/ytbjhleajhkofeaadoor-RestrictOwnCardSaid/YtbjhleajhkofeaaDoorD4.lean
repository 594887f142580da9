/- spaces, awake: they hold over what the calls have to return. -/
import Derived.Test.YtbjhleajhkofeaaDoorD3
namespace Go.Proofs.YtbjhleajhkofeaaDoor
open Go.RowKit
set_option linter.unusedVariables false
set_option linter.unusedSimpArgs false
attribute [local go_sem ↓] Go.wp_at_zero Go.wp_at_succ

set_option maxRecDepth 100000 in
theorem run18_1 : runA18 kArc [⟨#[110, 97, 116, 105, 118, 101, 32, 120, 56, 54]⟩, ⟨#[118, 97, 120]⟩] 2 = ({ PZ18 with ar := [0, 1] }, 1) := by kernel_rfl
set_option maxRecDepth 100000 in
theorem run18_2 : runA18 kFam [⟨#[65, 70, 95, 85, 78, 73, 88, 32, 65, 70, 95, 73, 78, 69, 84]⟩, ⟨#[126, 65, 70, 95, 85, 78, 73, 88]⟩] 2 = ({ PZ18 with fa := [2], fm := 1 }, 0) := by kernel_rfl
set_option maxRecDepth 100000 in
theorem run18_3 : runA18 kFam [⟨#[126, 65, 70, 95, 73, 78, 69, 84]⟩] 1 = ({ PZ18 with fa := [2], fm := 2 }, 0) := by kernel_rfl
set_option maxRecDepth 100000 in
theorem run18_4 : runA18 kFam [⟨#[110, 111, 110, 101]⟩] 1 = ({ PZ18 with fm := 1 }, 0) := by kernel_rfl
set_option maxRecDepth 100000 in
theorem run18_5 : runA18 kSpa [⟨#[121, 101, 115]⟩, ⟨#[100, 105, 115, 107]⟩] 2 = ({ PZ18 with sp := 2114060416 }, 1) := by kernel_rfl
set_option maxRecDepth 100000 in
theorem run18_6 : runA18 kPer [⟨#[111, 110]⟩] 1 = ({ PZ18 with b2 := true }, 0) := by kernel_rfl
set_option maxRecDepth 100000 in
theorem run18_7 : runA18 kPer [⟨#[111, 110]⟩, ⟨#[109, 97, 121, 98, 101]⟩] 2 = ({ PZ18 with b2 := true }, 1) := by kernel_rfl
set_option maxRecDepth 100000 in
theorem run18_8 : runA18 kPer [⟨#[111, 110]⟩, ⟨#[]⟩] 2 = (PZ18, 0) := by kernel_rfl
set_option maxRecDepth 100000 in
theorem spa18_1 : (runA18 kSpa [⟨#[110, 101, 116, 32, 112, 105, 100]⟩] 1).1.sp = 503447680 := by kernel_rfl
set_option maxRecDepth 100000 in
theorem spa18_2 : (runA18 kSpa [⟨#[126, 110, 101, 116]⟩] 1).1.sp = 1073741824 := by kernel_rfl
set_option maxRecDepth 100000 in
theorem spa18_3 : (runA18 kSpa [⟨#[110, 111]⟩] 1).1.sp = 0 := by kernel_rfl
theorem key18_1 : keyR18 (⟨#[78, 111, 78, 101, 119, 80, 114, 105, 118, 105, 108, 101, 103, 101, 115]⟩) = true := by kernel_rfl
theorem key18_2 : keyR18 (⟨#[83, 121, 115, 116, 101, 109, 67, 97, 108, 108, 70, 105, 108, 116, 101, 114]⟩) = false := by kernel_rfl
theorem strs_lit18 (w : World) (l : List ByteArray) : StrsAt (w.alloc (.cells (l.map Value.string).toArray 9)) (.slice (some ⟨w.heap.size, 0, none⟩) l.length l.length) l := by
  refine ⟨some ⟨w.heap.size, 0, none⟩, l.length, rfl, fun k s hs => ⟨w.heap.size, 0, rfl, ?_⟩⟩
  rw [Nat.zero_add, cell_of_row _ w.heap.size k _ _ (0, 0) (heap_alloc_new w _)]
  simp [hs]
set_option maxRecDepth 100000 in
set_option maxHeartbeats 16000000 in
theorem spaces_c {G : World → Prop} (HC : RestrictC G) (v : ByteArray) (w : World) (hG : G w) (hv : v.size ≤ 400) : Calls Tryd.prog 19 #[.string v] w fun e w' => e = .returned (.int .u64 ((runA18 kSpa [v] 1).1.sp : Nat)) ∧ Below w.heap.size w w' := by
  have HON := Lib.hid (fun (w w' : World) => HC.on (w := w) (w' := w'))
  have HA := Lib.hid (fun (X : World) (g : G (X.alloc (.cells #[.string v] 9))) => (show Calls Tryd.prog 17 #[.string ⟨#[82, 101, 115, 116, 114, 105, 99, 116, 78, 97, 109, 101, 115, 112, 97, 99, 101, 115]⟩, .slice (some ⟨X.heap.size, 0, none⟩) 1 1] (X.alloc (.cells #[.string v] 9)) fun e w' => ∃ p, e = .returned (.tuple #[plV p (runA18 kSpa [v] 1).1, .int .i64 ((runA18 kSpa [v] 1).2 : Nat)]) ∧ OwnP (X.alloc (.cells #[.string v] 9)).heap.size w' p (runA18 kSpa [v] 1).1 ∧ Below (X.alloc (.cells #[.string v] 9)).heap.size (X.alloc (.cells #[.string v] 9)) w' from
    after_c HC kSpa (.slice (some ⟨X.heap.size, 0, none⟩) 1 1) [v] _ g (by decide) (strs_lit18 X [v]) (by show 1 ≤ 4; decide) (fun x hx => by rw [List.mem_singleton.1 hx]; exact hv)))
  have HG := Lib.hid hG
  obtain ⟨P, hP⟩ : ∃ P, P = (runA18 kSpa [v] 1).1 := ⟨_, rfl⟩
  obtain ⟨n, hn⟩ : ∃ n : Int, n = ((runA18 kSpa [v] 1).2 : Nat) := ⟨_, rfl⟩
  rw [← hP, ← hn] at HA
  rw [← hP]
  clear hP hn hG HC
  go_enter Tryd.func19, Tryd.ntmps19
  go_wp2_with (first
    | (go_at_call 17
       ((with_reducible refine (HA.out w (HON.out _ _ HG.out (below16 w _))).mono ?_); rintro e v1 ⟨p1, rfl, o1, b1⟩)
       have B1 := Lib.hid (thn16 (below16 w (.cells #[.string v] 9)) b1)
       clear o1 b1)
    | ((with_reducible show wpList _ _ _ (⟨none, .store 32 (.tmp 3) (.tmp 9), _, _, _, _⟩ :: _) _ _)
       refine wpList_store_mid rfl 32 (.tmp 3) (.tmp 9) rfl v1.heap.size 0 (plC p1 P).toArray (by rfl) (by rfl) (there_row17 (heap_alloc_new v1 (.cells #[.slice none 0 0, .int .u8 0, .slice none 0 0, .int .u32 0, .int .u8 0, .slice none 0 0, .slice none 0 0, .int .u8 0, .int .u64 0, .bool false, .bool false, .bool false, .bool false] 32)) (show 0 + 13 ≤ 13 by decide)) pl_info (plC_one _ _) ?_
       show wpList _ _ _ _ _ ((World.alloc v1 (.cells #[.slice none 0 0, .int .u8 0, .slice none 0 0, .int .u32 0, .int .u8 0, .slice none 0 0, .slice none 0 0, .int .u8 0, .int .u64 0, .bool false, .bool false, .bool false, .bool false] 32)).setCells v1.heap.size 0 (plC p1 P))
       have BX := Lib.hid (below_setCells16 B1.out.size (plC p1 P) 0 _ (B1.out.alloc B1.out.size (.cells #[.slice none 0 0, .int .u8 0, .slice none 0 0, .int .u32 0, .int .u8 0, .slice none 0 0, .slice none 0 0, .int .u8 0, .int .u64 0, .bool false, .bool false, .bool false, .bool false] 32)))
       have c8 := (cell_of_row ((World.alloc v1 (.cells #[.slice none 0 0, .int .u8 0, .slice none 0 0, .int .u32 0, .int .u8 0, .slice none 0 0, .slice none 0 0, .int .u8 0, .int .u64 0, .bool false, .bool false, .bool false, .bool false] 32)).setCells v1.heap.size 0 (plC p1 P)) v1.heap.size 8 _ _ (0, 0) (set_fresh17 (p := p1) (P := P) (heap_alloc_new v1 (.cells #[.slice none 0 0, .int .u8 0, .slice none 0 0, .int .u32 0, .int .u8 0, .slice none 0 0, .slice none 0 0, .int .u8 0, .int .u64 0, .bool false, .bool false, .bool false, .bool false] 32)) rfl)).trans (show _ = some (Value.int .u64 (P.sp : Nat)) from rfl)
       generalize (World.alloc v1 (.cells #[.slice none 0 0, .int .u8 0, .slice none 0 0, .int .u32 0, .int .u8 0, .slice none 0 0, .slice none 0 0, .int .u8 0, .int .u64 0, .bool false, .bool false, .bool false, .bool false] 32)).setCells v1.heap.size 0 (plC p1 P) = X1 at BX c8 ⊢))
  go_ret
  exact ⟨rfl, BX.out⟩
set_option maxRecDepth 100000 in
set_option maxHeartbeats 32000000 in
theorem awake18_any {G : World → Prop} (HC : RestrictC G) (w : World) (hG : G w) : Calls Tryd.prog 9 #[] w fun e w' => e = .returned (.bool true) ∧ Below w.heap.size w w' := by
  have HON := Lib.hid (fun (w w' : World) => HC.on (w := w) (w' := w'))
  have HG := Lib.hid hG
  have HK1 := Lib.hid (fun (X : World) (g : G X) => HC.key ⟨#[78, 111, 78, 101, 119, 80, 114, 105, 118, 105, 108, 101, 103, 101, 115]⟩ X g (by decide))
  have HK2 := Lib.hid (fun (X : World) (g : G X) => HC.key ⟨#[83, 121, 115, 116, 101, 109, 67, 97, 108, 108, 70, 105, 108, 116, 101, 114]⟩ X g (by decide))
  rw [key18_1] at HK1
  rw [key18_2] at HK2
  have HS1 := Lib.hid (fun (X : World) (g : G X) => spaces_c HC ⟨#[110, 101, 116, 32, 112, 105, 100]⟩ X g (by decide))
  rw [spa18_1] at HS1
  have HS2 := Lib.hid (fun (X : World) (g : G X) => spaces_c HC ⟨#[126, 110, 101, 116]⟩ X g (by decide))
  rw [spa18_2] at HS2
  have HS3 := Lib.hid (fun (X : World) (g : G X) => spaces_c HC ⟨#[110, 111]⟩ X g (by decide))
  rw [spa18_3] at HS3
  have HA1 := Lib.hid (fun (X : World) (g : G (X.alloc (.cells #[.string ⟨#[110, 97, 116, 105, 118, 101, 32, 120, 56, 54]⟩, .string ⟨#[118, 97, 120]⟩] 9))) => (show Calls Tryd.prog 17 #[.string ⟨#[83, 121, 115, 116, 101, 109, 67, 97, 108, 108, 65, 114, 99, 104, 105, 116, 101, 99, 116, 117, 114, 101, 115]⟩, .slice (some ⟨X.heap.size, 0, none⟩) 2 2] (X.alloc (.cells #[.string ⟨#[110, 97, 116, 105, 118, 101, 32, 120, 56, 54]⟩, .string ⟨#[118, 97, 120]⟩] 9)) fun e w' => ∃ p, e = .returned (.tuple #[plV p ({ PZ18 with ar := [0, 1] } : Pol), .int .i64 1]) ∧ OwnP (X.alloc (.cells #[.string ⟨#[110, 97, 116, 105, 118, 101, 32, 120, 56, 54]⟩, .string ⟨#[118, 97, 120]⟩] 9)).heap.size w' p { PZ18 with ar := [0, 1] } ∧ Below (X.alloc (.cells #[.string ⟨#[110, 97, 116, 105, 118, 101, 32, 120, 56, 54]⟩, .string ⟨#[118, 97, 120]⟩] 9)).heap.size (X.alloc (.cells #[.string ⟨#[110, 97, 116, 105, 118, 101, 32, 120, 56, 54]⟩, .string ⟨#[118, 97, 120]⟩] 9)) w' from by
    have := after_c HC kArc (.slice (some ⟨X.heap.size, 0, none⟩) 2 2) [⟨#[110, 97, 116, 105, 118, 101, 32, 120, 56, 54]⟩, ⟨#[118, 97, 120]⟩] _ g (by decide) (strs_lit18 X [⟨#[110, 97, 116, 105, 118, 101, 32, 120, 56, 54]⟩, ⟨#[118, 97, 120]⟩]) (by show 2 ≤ 4; decide) (fun x hx => of_decide_eq_true (List.all_eq_true.1 (show ([⟨#[110, 97, 116, 105, 118, 101, 32, 120, 56, 54]⟩, ⟨#[118, 97, 120]⟩].all fun x => decide (x.size ≤ 400)) = true by decide +kernel) x hx))
    rw [show ([⟨#[110, 97, 116, 105, 118, 101, 32, 120, 56, 54]⟩, ⟨#[118, 97, 120]⟩] : List ByteArray).length = 2 from rfl, run18_1] at this
    exact this))
  obtain ⟨Q1, hQ1⟩ : ∃ P : Pol, P = { PZ18 with ar := [0, 1] } := ⟨_, rfl⟩
  rw [← hQ1] at HA1
  have HQ1 := Lib.hid hQ1
  clear hQ1
  have HA2 := Lib.hid (fun (X : World) (g : G (X.alloc (.cells #[.string ⟨#[65, 70, 95, 85, 78, 73, 88, 32, 65, 70, 95, 73, 78, 69, 84]⟩, .string ⟨#[126, 65, 70, 95, 85, 78, 73, 88]⟩] 9))) => (show Calls Tryd.prog 17 #[.string ⟨#[82, 101, 115, 116, 114, 105, 99, 116, 65, 100, 100, 114, 101, 115, 115, 70, 97, 109, 105, 108, 105, 101, 115]⟩, .slice (some ⟨X.heap.size, 0, none⟩) 2 2] (X.alloc (.cells #[.string ⟨#[65, 70, 95, 85, 78, 73, 88, 32, 65, 70, 95, 73, 78, 69, 84]⟩, .string ⟨#[126, 65, 70, 95, 85, 78, 73, 88]⟩] 9)) fun e w' => ∃ p, e = .returned (.tuple #[plV p ({ PZ18 with fa := [2], fm := 1 } : Pol), .int .i64 0]) ∧ OwnP (X.alloc (.cells #[.string ⟨#[65, 70, 95, 85, 78, 73, 88, 32, 65, 70, 95, 73, 78, 69, 84]⟩, .string ⟨#[126, 65, 70, 95, 85, 78, 73, 88]⟩] 9)).heap.size w' p { PZ18 with fa := [2], fm := 1 } ∧ Below (X.alloc (.cells #[.string ⟨#[65, 70, 95, 85, 78, 73, 88, 32, 65, 70, 95, 73, 78, 69, 84]⟩, .string ⟨#[126, 65, 70, 95, 85, 78, 73, 88]⟩] 9)).heap.size (X.alloc (.cells #[.string ⟨#[65, 70, 95, 85, 78, 73, 88, 32, 65, 70, 95, 73, 78, 69, 84]⟩, .string ⟨#[126, 65, 70, 95, 85, 78, 73, 88]⟩] 9)) w' from by
    have := after_c HC kFam (.slice (some ⟨X.heap.size, 0, none⟩) 2 2) [⟨#[65, 70, 95, 85, 78, 73, 88, 32, 65, 70, 95, 73, 78, 69, 84]⟩, ⟨#[126, 65, 70, 95, 85, 78, 73, 88]⟩] _ g (by decide) (strs_lit18 X [⟨#[65, 70, 95, 85, 78, 73, 88, 32, 65, 70, 95, 73, 78, 69, 84]⟩, ⟨#[126, 65, 70, 95, 85, 78, 73, 88]⟩]) (by show 2 ≤ 4; decide) (fun x hx => of_decide_eq_true (List.all_eq_true.1 (show ([⟨#[65, 70, 95, 85, 78, 73, 88, 32, 65, 70, 95, 73, 78, 69, 84]⟩, ⟨#[126, 65, 70, 95, 85, 78, 73, 88]⟩].all fun x => decide (x.size ≤ 400)) = true by decide +kernel) x hx))
    rw [show ([⟨#[65, 70, 95, 85, 78, 73, 88, 32, 65, 70, 95, 73, 78, 69, 84]⟩, ⟨#[126, 65, 70, 95, 85, 78, 73, 88]⟩] : List ByteArray).length = 2 from rfl, run18_2] at this
    exact this))
  obtain ⟨Q2, hQ2⟩ : ∃ P : Pol, P = { PZ18 with fa := [2], fm := 1 } := ⟨_, rfl⟩
  rw [← hQ2] at HA2
  have HQ2 := Lib.hid hQ2
  clear hQ2
  have HA3 := Lib.hid (fun (X : World) (g : G (X.alloc (.cells #[.string ⟨#[126, 65, 70, 95, 73, 78, 69, 84]⟩] 9))) => (show Calls Tryd.prog 17 #[.string ⟨#[82, 101, 115, 116, 114, 105, 99, 116, 65, 100, 100, 114, 101, 115, 115, 70, 97, 109, 105, 108, 105, 101, 115]⟩, .slice (some ⟨X.heap.size, 0, none⟩) 1 1] (X.alloc (.cells #[.string ⟨#[126, 65, 70, 95, 73, 78, 69, 84]⟩] 9)) fun e w' => ∃ p, e = .returned (.tuple #[plV p ({ PZ18 with fa := [2], fm := 2 } : Pol), .int .i64 0]) ∧ OwnP (X.alloc (.cells #[.string ⟨#[126, 65, 70, 95, 73, 78, 69, 84]⟩] 9)).heap.size w' p { PZ18 with fa := [2], fm := 2 } ∧ Below (X.alloc (.cells #[.string ⟨#[126, 65, 70, 95, 73, 78, 69, 84]⟩] 9)).heap.size (X.alloc (.cells #[.string ⟨#[126, 65, 70, 95, 73, 78, 69, 84]⟩] 9)) w' from by
    have := after_c HC kFam (.slice (some ⟨X.heap.size, 0, none⟩) 1 1) [⟨#[126, 65, 70, 95, 73, 78, 69, 84]⟩] _ g (by decide) (strs_lit18 X [⟨#[126, 65, 70, 95, 73, 78, 69, 84]⟩]) (by show 1 ≤ 4; decide) (fun x hx => of_decide_eq_true (List.all_eq_true.1 (show ([⟨#[126, 65, 70, 95, 73, 78, 69, 84]⟩].all fun x => decide (x.size ≤ 400)) = true by decide +kernel) x hx))
    rw [show ([⟨#[126, 65, 70, 95, 73, 78, 69, 84]⟩] : List ByteArray).length = 1 from rfl, run18_3] at this
    exact this))
  obtain ⟨Q3, hQ3⟩ : ∃ P : Pol, P = { PZ18 with fa := [2], fm := 2 } := ⟨_, rfl⟩
  rw [← hQ3] at HA3
  have HQ3 := Lib.hid hQ3
  clear hQ3
  have HA4 := Lib.hid (fun (X : World) (g : G (X.alloc (.cells #[.string ⟨#[110, 111, 110, 101]⟩] 9))) => (show Calls Tryd.prog 17 #[.string ⟨#[82, 101, 115, 116, 114, 105, 99, 116, 65, 100, 100, 114, 101, 115, 115, 70, 97, 109, 105, 108, 105, 101, 115]⟩, .slice (some ⟨X.heap.size, 0, none⟩) 1 1] (X.alloc (.cells #[.string ⟨#[110, 111, 110, 101]⟩] 9)) fun e w' => ∃ p, e = .returned (.tuple #[plV p ({ PZ18 with fm := 1 } : Pol), .int .i64 0]) ∧ OwnP (X.alloc (.cells #[.string ⟨#[110, 111, 110, 101]⟩] 9)).heap.size w' p { PZ18 with fm := 1 } ∧ Below (X.alloc (.cells #[.string ⟨#[110, 111, 110, 101]⟩] 9)).heap.size (X.alloc (.cells #[.string ⟨#[110, 111, 110, 101]⟩] 9)) w' from by
    have := after_c HC kFam (.slice (some ⟨X.heap.size, 0, none⟩) 1 1) [⟨#[110, 111, 110, 101]⟩] _ g (by decide) (strs_lit18 X [⟨#[110, 111, 110, 101]⟩]) (by show 1 ≤ 4; decide) (fun x hx => of_decide_eq_true (List.all_eq_true.1 (show ([⟨#[110, 111, 110, 101]⟩].all fun x => decide (x.size ≤ 400)) = true by decide +kernel) x hx))
    rw [show ([⟨#[110, 111, 110, 101]⟩] : List ByteArray).length = 1 from rfl, run18_4] at this
    exact this))
  obtain ⟨Q4, hQ4⟩ : ∃ P : Pol, P = { PZ18 with fm := 1 } := ⟨_, rfl⟩
  rw [← hQ4] at HA4
  have HQ4 := Lib.hid hQ4
  clear hQ4
  have HA5 := Lib.hid (fun (X : World) (g : G (X.alloc (.cells #[.string ⟨#[121, 101, 115]⟩, .string ⟨#[100, 105, 115, 107]⟩] 9))) => (show Calls Tryd.prog 17 #[.string ⟨#[82, 101, 115, 116, 114, 105, 99, 116, 78, 97, 109, 101, 115, 112, 97, 99, 101, 115]⟩, .slice (some ⟨X.heap.size, 0, none⟩) 2 2] (X.alloc (.cells #[.string ⟨#[121, 101, 115]⟩, .string ⟨#[100, 105, 115, 107]⟩] 9)) fun e w' => ∃ p, e = .returned (.tuple #[plV p ({ PZ18 with sp := 2114060416 } : Pol), .int .i64 1]) ∧ OwnP (X.alloc (.cells #[.string ⟨#[121, 101, 115]⟩, .string ⟨#[100, 105, 115, 107]⟩] 9)).heap.size w' p { PZ18 with sp := 2114060416 } ∧ Below (X.alloc (.cells #[.string ⟨#[121, 101, 115]⟩, .string ⟨#[100, 105, 115, 107]⟩] 9)).heap.size (X.alloc (.cells #[.string ⟨#[121, 101, 115]⟩, .string ⟨#[100, 105, 115, 107]⟩] 9)) w' from by
    have := after_c HC kSpa (.slice (some ⟨X.heap.size, 0, none⟩) 2 2) [⟨#[121, 101, 115]⟩, ⟨#[100, 105, 115, 107]⟩] _ g (by decide) (strs_lit18 X [⟨#[121, 101, 115]⟩, ⟨#[100, 105, 115, 107]⟩]) (by show 2 ≤ 4; decide) (fun x hx => of_decide_eq_true (List.all_eq_true.1 (show ([⟨#[121, 101, 115]⟩, ⟨#[100, 105, 115, 107]⟩].all fun x => decide (x.size ≤ 400)) = true by decide +kernel) x hx))
    rw [show ([⟨#[121, 101, 115]⟩, ⟨#[100, 105, 115, 107]⟩] : List ByteArray).length = 2 from rfl, run18_5] at this
    exact this))
  obtain ⟨Q5, hQ5⟩ : ∃ P : Pol, P = { PZ18 with sp := 2114060416 } := ⟨_, rfl⟩
  rw [← hQ5] at HA5
  have HQ5 := Lib.hid hQ5
  clear hQ5
  have HA6 := Lib.hid (fun (X : World) (g : G (X.alloc (.cells #[.string ⟨#[111, 110]⟩] 9))) => (show Calls Tryd.prog 17 #[.string ⟨#[76, 111, 99, 107, 80, 101, 114, 115, 111, 110, 97, 108, 105, 116, 121]⟩, .slice (some ⟨X.heap.size, 0, none⟩) 1 1] (X.alloc (.cells #[.string ⟨#[111, 110]⟩] 9)) fun e w' => ∃ p, e = .returned (.tuple #[plV p ({ PZ18 with b2 := true } : Pol), .int .i64 0]) ∧ OwnP (X.alloc (.cells #[.string ⟨#[111, 110]⟩] 9)).heap.size w' p { PZ18 with b2 := true } ∧ Below (X.alloc (.cells #[.string ⟨#[111, 110]⟩] 9)).heap.size (X.alloc (.cells #[.string ⟨#[111, 110]⟩] 9)) w' from by
    have := after_c HC kPer (.slice (some ⟨X.heap.size, 0, none⟩) 1 1) [⟨#[111, 110]⟩] _ g (by decide) (strs_lit18 X [⟨#[111, 110]⟩]) (by show 1 ≤ 4; decide) (fun x hx => of_decide_eq_true (List.all_eq_true.1 (show ([⟨#[111, 110]⟩].all fun x => decide (x.size ≤ 400)) = true by decide +kernel) x hx))
    rw [show ([⟨#[111, 110]⟩] : List ByteArray).length = 1 from rfl, run18_6] at this
    exact this))
  obtain ⟨Q6, hQ6⟩ : ∃ P : Pol, P = { PZ18 with b2 := true } := ⟨_, rfl⟩
  rw [← hQ6] at HA6
  have HQ6 := Lib.hid hQ6
  clear hQ6
  have HA7 := Lib.hid (fun (X : World) (g : G (X.alloc (.cells #[.string ⟨#[111, 110]⟩, .string ⟨#[109, 97, 121, 98, 101]⟩] 9))) => (show Calls Tryd.prog 17 #[.string ⟨#[76, 111, 99, 107, 80, 101, 114, 115, 111, 110, 97, 108, 105, 116, 121]⟩, .slice (some ⟨X.heap.size, 0, none⟩) 2 2] (X.alloc (.cells #[.string ⟨#[111, 110]⟩, .string ⟨#[109, 97, 121, 98, 101]⟩] 9)) fun e w' => ∃ p, e = .returned (.tuple #[plV p ({ PZ18 with b2 := true } : Pol), .int .i64 1]) ∧ OwnP (X.alloc (.cells #[.string ⟨#[111, 110]⟩, .string ⟨#[109, 97, 121, 98, 101]⟩] 9)).heap.size w' p { PZ18 with b2 := true } ∧ Below (X.alloc (.cells #[.string ⟨#[111, 110]⟩, .string ⟨#[109, 97, 121, 98, 101]⟩] 9)).heap.size (X.alloc (.cells #[.string ⟨#[111, 110]⟩, .string ⟨#[109, 97, 121, 98, 101]⟩] 9)) w' from by
    have := after_c HC kPer (.slice (some ⟨X.heap.size, 0, none⟩) 2 2) [⟨#[111, 110]⟩, ⟨#[109, 97, 121, 98, 101]⟩] _ g (by decide) (strs_lit18 X [⟨#[111, 110]⟩, ⟨#[109, 97, 121, 98, 101]⟩]) (by show 2 ≤ 4; decide) (fun x hx => of_decide_eq_true (List.all_eq_true.1 (show ([⟨#[111, 110]⟩, ⟨#[109, 97, 121, 98, 101]⟩].all fun x => decide (x.size ≤ 400)) = true by decide +kernel) x hx))
    rw [show ([⟨#[111, 110]⟩, ⟨#[109, 97, 121, 98, 101]⟩] : List ByteArray).length = 2 from rfl, run18_7] at this
    exact this))
  obtain ⟨Q7, hQ7⟩ : ∃ P : Pol, P = { PZ18 with b2 := true } := ⟨_, rfl⟩
  rw [← hQ7] at HA7
  have HQ7 := Lib.hid hQ7
  clear hQ7
  have HA8 := Lib.hid (fun (X : World) (g : G (X.alloc (.cells #[.string ⟨#[111, 110]⟩, .string ⟨#[]⟩] 9))) => (show Calls Tryd.prog 17 #[.string ⟨#[76, 111, 99, 107, 80, 101, 114, 115, 111, 110, 97, 108, 105, 116, 121]⟩, .slice (some ⟨X.heap.size, 0, none⟩) 2 2] (X.alloc (.cells #[.string ⟨#[111, 110]⟩, .string ⟨#[]⟩] 9)) fun e w' => ∃ p, e = .returned (.tuple #[plV p (PZ18 : Pol), .int .i64 0]) ∧ OwnP (X.alloc (.cells #[.string ⟨#[111, 110]⟩, .string ⟨#[]⟩] 9)).heap.size w' p PZ18 ∧ Below (X.alloc (.cells #[.string ⟨#[111, 110]⟩, .string ⟨#[]⟩] 9)).heap.size (X.alloc (.cells #[.string ⟨#[111, 110]⟩, .string ⟨#[]⟩] 9)) w' from by
    have := after_c HC kPer (.slice (some ⟨X.heap.size, 0, none⟩) 2 2) [⟨#[111, 110]⟩, ⟨#[]⟩] _ g (by decide) (strs_lit18 X [⟨#[111, 110]⟩, ⟨#[]⟩]) (by show 2 ≤ 4; decide) (fun x hx => of_decide_eq_true (List.all_eq_true.1 (show ([⟨#[111, 110]⟩, ⟨#[]⟩].all fun x => decide (x.size ≤ 400)) = true by decide +kernel) x hx))
    rw [show ([⟨#[111, 110]⟩, ⟨#[]⟩] : List ByteArray).length = 2 from rfl, run18_8] at this
    exact this))
  obtain ⟨Q8, hQ8⟩ : ∃ P : Pol, P = PZ18 := ⟨_, rfl⟩
  rw [← hQ8] at HA8
  have HQ8 := Lib.hid hQ8
  clear hQ8
  clear HC hG
  go_enter Tryd.func9, Tryd.ntmps9
  go_upto_region 9 with (first
    | (go_at_call 17
       ((with_reducible refine (HA1.out w (HON.out _ _ HG.out (thn16 (Below.refl _ _) (below16 w (.cells #[.string ⟨#[110, 97, 116, 105, 118, 101, 32, 120, 56, 54]⟩, .string ⟨#[118, 97, 120]⟩] 9))))).mono ?_); rintro e v1 ⟨p1, rfl, o1, b1⟩)
       have B1 := Lib.hid (thn16 (below16 w (.cells #[.string ⟨#[110, 97, 116, 105, 118, 101, 32, 120, 56, 54]⟩, .string ⟨#[118, 97, 120]⟩] 9)) b1)
       have OV1 := Lib.hid o1
       clear o1 b1)
    | ((with_reducible show wpList _ _ _ (⟨none, .store 32 (.tmp 1) (.tmp 20), _, _, _, _⟩ :: _) _ _)
       refine wpList_store_mid rfl 32 (.tmp 1) (.tmp 20) rfl v1.heap.size 0 (plC p1 Q1).toArray (by rfl) (by rfl) (there_row17 (heap_alloc_new v1 (.cells #[.slice none 0 0, .int .u8 0, .slice none 0 0, .int .u32 0, .int .u8 0, .slice none 0 0, .slice none 0 0, .int .u8 0, .int .u64 0, .bool false, .bool false, .bool false, .bool false] 32)) (show 0 + 13 ≤ 13 by decide)) pl_info (plC_one _ _) ?_
       show wpList _ _ _ _ _ ((World.alloc v1 (.cells #[.slice none 0 0, .int .u8 0, .slice none 0 0, .int .u32 0, .int .u8 0, .slice none 0 0, .slice none 0 0, .int .u8 0, .int .u64 0, .bool false, .bool false, .bool false, .bool false] 32)).setCells v1.heap.size 0 (plC p1 Q1))
       have BS := Lib.hid (show Below w.heap.size w _ from below_setCells16 B1.out.size (plC p1 Q1) 0 _ (B1.out.alloc B1.out.size (.cells #[.slice none 0 0, .int .u8 0, .slice none 0 0, .int .u32 0, .int .u8 0, .slice none 0 0, .slice none 0 0, .int .u8 0, .int .u64 0, .bool false, .bool false, .bool false, .bool false] 32)))
       have BX1 := Lib.hid (thn16 (Below.refl _ _) BS.out)
       have HB1 := Lib.hid (set_fresh17 (p := p1) (P := Q1) (heap_alloc_new v1 (.cells #[.slice none 0 0, .int .u8 0, .slice none 0 0, .int .u32 0, .int .u8 0, .slice none 0 0, .slice none 0 0, .int .u8 0, .int .u64 0, .bool false, .bool false, .bool false, .bool false] 32)) rfl)
       have HO1 := Lib.hid (own_box17 (OV1.out.on (below16 v1 (.cells #[.slice none 0 0, .int .u8 0, .slice none 0 0, .int .u32 0, .int .u8 0, .slice none 0 0, .slice none 0 0, .int .u8 0, .int .u64 0, .bool false, .bool false, .bool false, .bool false] 32))) (heap_alloc_new v1 (.cells #[.slice none 0 0, .int .u8 0, .slice none 0 0, .int .u32 0, .int .u8 0, .slice none 0 0, .slice none 0 0, .int .u8 0, .int .u64 0, .bool false, .bool false, .bool false, .bool false] 32)) 0 (plC p1 Q1)).pol
       obtain ⟨g1, hg1⟩ : ∃ g, g = v1.heap.size := ⟨_, rfl⟩
       rw [← hg1] at BS BX1 HB1 HO1 ⊢
       generalize (World.alloc v1 (.cells #[.slice none 0 0, .int .u8 0, .slice none 0 0, .int .u32 0, .int .u8 0, .slice none 0 0, .slice none 0 0, .int .u8 0, .int .u64 0, .bool false, .bool false, .bool false, .bool false] 32)).setCells g1 0 (plC p1 Q1) = X1 at BS BX1 HB1 HO1 ⊢
       clear BS B1 OV1 hg1)
    | (go_at_call 17
       ((with_reducible refine (HA2.out X1 (HON.out _ _ HG.out (thn16 BX1.out (below16 X1 (.cells #[.string ⟨#[65, 70, 95, 85, 78, 73, 88, 32, 65, 70, 95, 73, 78, 69, 84]⟩, .string ⟨#[126, 65, 70, 95, 85, 78, 73, 88]⟩] 9))))).mono ?_); rintro e v2 ⟨p2, rfl, o2, b2⟩)
       have B2 := Lib.hid (thn16 (below16 X1 (.cells #[.string ⟨#[65, 70, 95, 85, 78, 73, 88, 32, 65, 70, 95, 73, 78, 69, 84]⟩, .string ⟨#[126, 65, 70, 95, 85, 78, 73, 88]⟩] 9)) b2)
       have OV2 := Lib.hid o2
       clear o2 b2)
    | ((with_reducible show wpList _ _ _ (⟨none, .store 32 (.tmp 3) (.tmp 25), _, _, _, _⟩ :: _) _ _)
       refine wpList_store_mid rfl 32 (.tmp 3) (.tmp 25) rfl v2.heap.size 0 (plC p2 Q2).toArray (by rfl) (by rfl) (there_row17 (heap_alloc_new v2 (.cells #[.slice none 0 0, .int .u8 0, .slice none 0 0, .int .u32 0, .int .u8 0, .slice none 0 0, .slice none 0 0, .int .u8 0, .int .u64 0, .bool false, .bool false, .bool false, .bool false] 32)) (show 0 + 13 ≤ 13 by decide)) pl_info (plC_one _ _) ?_
       show wpList _ _ _ _ _ ((World.alloc v2 (.cells #[.slice none 0 0, .int .u8 0, .slice none 0 0, .int .u32 0, .int .u8 0, .slice none 0 0, .slice none 0 0, .int .u8 0, .int .u64 0, .bool false, .bool false, .bool false, .bool false] 32)).setCells v2.heap.size 0 (plC p2 Q2))
       have BS := Lib.hid (show Below X1.heap.size X1 _ from below_setCells16 B2.out.size (plC p2 Q2) 0 _ (B2.out.alloc B2.out.size (.cells #[.slice none 0 0, .int .u8 0, .slice none 0 0, .int .u32 0, .int .u8 0, .slice none 0 0, .slice none 0 0, .int .u8 0, .int .u64 0, .bool false, .bool false, .bool false, .bool false] 32)))
       have BX2 := Lib.hid (thn16 BX1.out BS.out)
       have HB2 := Lib.hid (set_fresh17 (p := p2) (P := Q2) (heap_alloc_new v2 (.cells #[.slice none 0 0, .int .u8 0, .slice none 0 0, .int .u32 0, .int .u8 0, .slice none 0 0, .slice none 0 0, .int .u8 0, .int .u64 0, .bool false, .bool false, .bool false, .bool false] 32)) rfl)
       have HO2 := Lib.hid (own_box17 (OV2.out.on (below16 v2 (.cells #[.slice none 0 0, .int .u8 0, .slice none 0 0, .int .u32 0, .int .u8 0, .slice none 0 0, .slice none 0 0, .int .u8 0, .int .u64 0, .bool false, .bool false, .bool false, .bool false] 32))) (heap_alloc_new v2 (.cells #[.slice none 0 0, .int .u8 0, .slice none 0 0, .int .u32 0, .int .u8 0, .slice none 0 0, .slice none 0 0, .int .u8 0, .int .u64 0, .bool false, .bool false, .bool false, .bool false] 32)) 0 (plC p2 Q2)).pol
       have HB1 := Lib.hid (blk_on HB1.out BS.out)
       have HO1 := Lib.hid (HO1.out.on BS.out)
       obtain ⟨g2, hg2⟩ : ∃ g, g = v2.heap.size := ⟨_, rfl⟩
       rw [← hg2] at BS BX2 HB2 HO2 HB1 HO1 ⊢
       generalize (World.alloc v2 (.cells #[.slice none 0 0, .int .u8 0, .slice none 0 0, .int .u32 0, .int .u8 0, .slice none 0 0, .slice none 0 0, .int .u8 0, .int .u64 0, .bool false, .bool false, .bool false, .bool false] 32)).setCells g2 0 (plC p2 Q2) = X2 at BS BX2 HB2 HO2 HB1 HO1 ⊢
       clear BS B2 OV2 hg2)
    | (go_at_call 17
       ((with_reducible refine (HA3.out X2 (HON.out _ _ HG.out (thn16 BX2.out (below16 X2 (.cells #[.string ⟨#[126, 65, 70, 95, 73, 78, 69, 84]⟩] 9))))).mono ?_); rintro e v3 ⟨p3, rfl, o3, b3⟩)
       have B3 := Lib.hid (thn16 (below16 X2 (.cells #[.string ⟨#[126, 65, 70, 95, 73, 78, 69, 84]⟩] 9)) b3)
       have OV3 := Lib.hid o3
       clear o3 b3)
    | ((with_reducible show wpList _ _ _ (⟨none, .store 32 (.tmp 5) (.tmp 30), _, _, _, _⟩ :: _) _ _)
       refine wpList_store_mid rfl 32 (.tmp 5) (.tmp 30) rfl v3.heap.size 0 (plC p3 Q3).toArray (by rfl) (by rfl) (there_row17 (heap_alloc_new v3 (.cells #[.slice none 0 0, .int .u8 0, .slice none 0 0, .int .u32 0, .int .u8 0, .slice none 0 0, .slice none 0 0, .int .u8 0, .int .u64 0, .bool false, .bool false, .bool false, .bool false] 32)) (show 0 + 13 ≤ 13 by decide)) pl_info (plC_one _ _) ?_
       show wpList _ _ _ _ _ ((World.alloc v3 (.cells #[.slice none 0 0, .int .u8 0, .slice none 0 0, .int .u32 0, .int .u8 0, .slice none 0 0, .slice none 0 0, .int .u8 0, .int .u64 0, .bool false, .bool false, .bool false, .bool false] 32)).setCells v3.heap.size 0 (plC p3 Q3))
       have BS := Lib.hid (show Below X2.heap.size X2 _ from below_setCells16 B3.out.size (plC p3 Q3) 0 _ (B3.out.alloc B3.out.size (.cells #[.slice none 0 0, .int .u8 0, .slice none 0 0, .int .u32 0, .int .u8 0, .slice none 0 0, .slice none 0 0, .int .u8 0, .int .u64 0, .bool false, .bool false, .bool false, .bool false] 32)))
       have BX3 := Lib.hid (thn16 BX2.out BS.out)
       have HB3 := Lib.hid (set_fresh17 (p := p3) (P := Q3) (heap_alloc_new v3 (.cells #[.slice none 0 0, .int .u8 0, .slice none 0 0, .int .u32 0, .int .u8 0, .slice none 0 0, .slice none 0 0, .int .u8 0, .int .u64 0, .bool false, .bool false, .bool false, .bool false] 32)) rfl)
       have HO3 := Lib.hid (own_box17 (OV3.out.on (below16 v3 (.cells #[.slice none 0 0, .int .u8 0, .slice none 0 0, .int .u32 0, .int .u8 0, .slice none 0 0, .slice none 0 0, .int .u8 0, .int .u64 0, .bool false, .bool false, .bool false, .bool false] 32))) (heap_alloc_new v3 (.cells #[.slice none 0 0, .int .u8 0, .slice none 0 0, .int .u32 0, .int .u8 0, .slice none 0 0, .slice none 0 0, .int .u8 0, .int .u64 0, .bool false, .bool false, .bool false, .bool false] 32)) 0 (plC p3 Q3)).pol
       have HB1 := Lib.hid (blk_on HB1.out BS.out)
       have HO1 := Lib.hid (HO1.out.on BS.out)
       have HB2 := Lib.hid (blk_on HB2.out BS.out)
       have HO2 := Lib.hid (HO2.out.on BS.out)
       obtain ⟨g3, hg3⟩ : ∃ g, g = v3.heap.size := ⟨_, rfl⟩
       rw [← hg3] at BS BX3 HB3 HO3 HB1 HO1 HB2 HO2 ⊢
       generalize (World.alloc v3 (.cells #[.slice none 0 0, .int .u8 0, .slice none 0 0, .int .u32 0, .int .u8 0, .slice none 0 0, .slice none 0 0, .int .u8 0, .int .u64 0, .bool false, .bool false, .bool false, .bool false] 32)).setCells g3 0 (plC p3 Q3) = X3 at BS BX3 HB3 HO3 HB1 HO1 HB2 HO2 ⊢
       clear BS B3 OV3 hg3)
    | (go_at_call 17
       ((with_reducible refine (HA4.out X3 (HON.out _ _ HG.out (thn16 BX3.out (below16 X3 (.cells #[.string ⟨#[110, 111, 110, 101]⟩] 9))))).mono ?_); rintro e v4 ⟨p4, rfl, o4, b4⟩)
       have B4 := Lib.hid (thn16 (below16 X3 (.cells #[.string ⟨#[110, 111, 110, 101]⟩] 9)) b4)
       have OV4 := Lib.hid o4
       clear o4 b4)
    | ((with_reducible show wpList _ _ _ (⟨none, .store 32 (.tmp 7) (.tmp 35), _, _, _, _⟩ :: _) _ _)
       refine wpList_store_mid rfl 32 (.tmp 7) (.tmp 35) rfl v4.heap.size 0 (plC p4 Q4).toArray (by rfl) (by rfl) (there_row17 (heap_alloc_new v4 (.cells #[.slice none 0 0, .int .u8 0, .slice none 0 0, .int .u32 0, .int .u8 0, .slice none 0 0, .slice none 0 0, .int .u8 0, .int .u64 0, .bool false, .bool false, .bool false, .bool false] 32)) (show 0 + 13 ≤ 13 by decide)) pl_info (plC_one _ _) ?_
       show wpList _ _ _ _ _ ((World.alloc v4 (.cells #[.slice none 0 0, .int .u8 0, .slice none 0 0, .int .u32 0, .int .u8 0, .slice none 0 0, .slice none 0 0, .int .u8 0, .int .u64 0, .bool false, .bool false, .bool false, .bool false] 32)).setCells v4.heap.size 0 (plC p4 Q4))
       have BS := Lib.hid (show Below X3.heap.size X3 _ from below_setCells16 B4.out.size (plC p4 Q4) 0 _ (B4.out.alloc B4.out.size (.cells #[.slice none 0 0, .int .u8 0, .slice none 0 0, .int .u32 0, .int .u8 0, .slice none 0 0, .slice none 0 0, .int .u8 0, .int .u64 0, .bool false, .bool false, .bool false, .bool false] 32)))
       have BX4 := Lib.hid (thn16 BX3.out BS.out)
       have HB4 := Lib.hid (set_fresh17 (p := p4) (P := Q4) (heap_alloc_new v4 (.cells #[.slice none 0 0, .int .u8 0, .slice none 0 0, .int .u32 0, .int .u8 0, .slice none 0 0, .slice none 0 0, .int .u8 0, .int .u64 0, .bool false, .bool false, .bool false, .bool false] 32)) rfl)
       have HO4 := Lib.hid (own_box17 (OV4.out.on (below16 v4 (.cells #[.slice none 0 0, .int .u8 0, .slice none 0 0, .int .u32 0, .int .u8 0, .slice none 0 0, .slice none 0 0, .int .u8 0, .int .u64 0, .bool false, .bool false, .bool false, .bool false] 32))) (heap_alloc_new v4 (.cells #[.slice none 0 0, .int .u8 0, .slice none 0 0, .int .u32 0, .int .u8 0, .slice none 0 0, .slice none 0 0, .int .u8 0, .int .u64 0, .bool false, .bool false, .bool false, .bool false] 32)) 0 (plC p4 Q4)).pol
       have HB1 := Lib.hid (blk_on HB1.out BS.out)
       have HO1 := Lib.hid (HO1.out.on BS.out)
       have HB2 := Lib.hid (blk_on HB2.out BS.out)
       have HO2 := Lib.hid (HO2.out.on BS.out)
       have HB3 := Lib.hid (blk_on HB3.out BS.out)
       have HO3 := Lib.hid (HO3.out.on BS.out)
       obtain ⟨g4, hg4⟩ : ∃ g, g = v4.heap.size := ⟨_, rfl⟩
       rw [← hg4] at BS BX4 HB4 HO4 HB1 HO1 HB2 HO2 HB3 HO3 ⊢
       generalize (World.alloc v4 (.cells #[.slice none 0 0, .int .u8 0, .slice none 0 0, .int .u32 0, .int .u8 0, .slice none 0 0, .slice none 0 0, .int .u8 0, .int .u64 0, .bool false, .bool false, .bool false, .bool false] 32)).setCells g4 0 (plC p4 Q4) = X4 at BS BX4 HB4 HO4 HB1 HO1 HB2 HO2 HB3 HO3 ⊢
       clear BS B4 OV4 hg4)
    | (go_at_call 17
       ((with_reducible refine (HA5.out X4 (HON.out _ _ HG.out (thn16 BX4.out (below16 X4 (.cells #[.string ⟨#[121, 101, 115]⟩, .string ⟨#[100, 105, 115, 107]⟩] 9))))).mono ?_); rintro e v5 ⟨p5, rfl, o5, b5⟩)
       have B5 := Lib.hid (thn16 (below16 X4 (.cells #[.string ⟨#[121, 101, 115]⟩, .string ⟨#[100, 105, 115, 107]⟩] 9)) b5)
       have OV5 := Lib.hid o5
       clear o5 b5)
    | ((with_reducible show wpList _ _ _ (⟨none, .store 32 (.tmp 9) (.tmp 40), _, _, _, _⟩ :: _) _ _)
       refine wpList_store_mid rfl 32 (.tmp 9) (.tmp 40) rfl v5.heap.size 0 (plC p5 Q5).toArray (by rfl) (by rfl) (there_row17 (heap_alloc_new v5 (.cells #[.slice none 0 0, .int .u8 0, .slice none 0 0, .int .u32 0, .int .u8 0, .slice none 0 0, .slice none 0 0, .int .u8 0, .int .u64 0, .bool false, .bool false, .bool false, .bool false] 32)) (show 0 + 13 ≤ 13 by decide)) pl_info (plC_one _ _) ?_
       show wpList _ _ _ _ _ ((World.alloc v5 (.cells #[.slice none 0 0, .int .u8 0, .slice none 0 0, .int .u32 0, .int .u8 0, .slice none 0 0, .slice none 0 0, .int .u8 0, .int .u64 0, .bool false, .bool false, .bool false, .bool false] 32)).setCells v5.heap.size 0 (plC p5 Q5))
       have BS := Lib.hid (show Below X4.heap.size X4 _ from below_setCells16 B5.out.size (plC p5 Q5) 0 _ (B5.out.alloc B5.out.size (.cells #[.slice none 0 0, .int .u8 0, .slice none 0 0, .int .u32 0, .int .u8 0, .slice none 0 0, .slice none 0 0, .int .u8 0, .int .u64 0, .bool false, .bool false, .bool false, .bool false] 32)))
       have BX5 := Lib.hid (thn16 BX4.out BS.out)
       have HB5 := Lib.hid (set_fresh17 (p := p5) (P := Q5) (heap_alloc_new v5 (.cells #[.slice none 0 0, .int .u8 0, .slice none 0 0, .int .u32 0, .int .u8 0, .slice none 0 0, .slice none 0 0, .int .u8 0, .int .u64 0, .bool false, .bool false, .bool false, .bool false] 32)) rfl)
       have HO5 := Lib.hid (own_box17 (OV5.out.on (below16 v5 (.cells #[.slice none 0 0, .int .u8 0, .slice none 0 0, .int .u32 0, .int .u8 0, .slice none 0 0, .slice none 0 0, .int .u8 0, .int .u64 0, .bool false, .bool false, .bool false, .bool false] 32))) (heap_alloc_new v5 (.cells #[.slice none 0 0, .int .u8 0, .slice none 0 0, .int .u32 0, .int .u8 0, .slice none 0 0, .slice none 0 0, .int .u8 0, .int .u64 0, .bool false, .bool false, .bool false, .bool false] 32)) 0 (plC p5 Q5)).pol
       have HB1 := Lib.hid (blk_on HB1.out BS.out)
       have HO1 := Lib.hid (HO1.out.on BS.out)
       have HB2 := Lib.hid (blk_on HB2.out BS.out)
       have HO2 := Lib.hid (HO2.out.on BS.out)
       have HB3 := Lib.hid (blk_on HB3.out BS.out)
       have HO3 := Lib.hid (HO3.out.on BS.out)
       have HB4 := Lib.hid (blk_on HB4.out BS.out)
       have HO4 := Lib.hid (HO4.out.on BS.out)
       obtain ⟨g5, hg5⟩ : ∃ g, g = v5.heap.size := ⟨_, rfl⟩
       rw [← hg5] at BS BX5 HB5 HO5 HB1 HO1 HB2 HO2 HB3 HO3 HB4 HO4 ⊢
       generalize (World.alloc v5 (.cells #[.slice none 0 0, .int .u8 0, .slice none 0 0, .int .u32 0, .int .u8 0, .slice none 0 0, .slice none 0 0, .int .u8 0, .int .u64 0, .bool false, .bool false, .bool false, .bool false] 32)).setCells g5 0 (plC p5 Q5) = X5 at BS BX5 HB5 HO5 HB1 HO1 HB2 HO2 HB3 HO3 HB4 HO4 ⊢
       clear BS B5 OV5 hg5)
    | (go_at_call 17
       ((with_reducible refine (HA6.out X5 (HON.out _ _ HG.out (thn16 BX5.out (below16 X5 (.cells #[.string ⟨#[111, 110]⟩] 9))))).mono ?_); rintro e v6 ⟨p6, rfl, o6, b6⟩)
       have B6 := Lib.hid (thn16 (below16 X5 (.cells #[.string ⟨#[111, 110]⟩] 9)) b6)
       have OV6 := Lib.hid o6
       clear o6 b6)
    | ((with_reducible show wpList _ _ _ (⟨none, .store 32 (.tmp 11) (.tmp 45), _, _, _, _⟩ :: _) _ _)
       refine wpList_store_mid rfl 32 (.tmp 11) (.tmp 45) rfl v6.heap.size 0 (plC p6 Q6).toArray (by rfl) (by rfl) (there_row17 (heap_alloc_new v6 (.cells #[.slice none 0 0, .int .u8 0, .slice none 0 0, .int .u32 0, .int .u8 0, .slice none 0 0, .slice none 0 0, .int .u8 0, .int .u64 0, .bool false, .bool false, .bool false, .bool false] 32)) (show 0 + 13 ≤ 13 by decide)) pl_info (plC_one _ _) ?_
       show wpList _ _ _ _ _ ((World.alloc v6 (.cells #[.slice none 0 0, .int .u8 0, .slice none 0 0, .int .u32 0, .int .u8 0, .slice none 0 0, .slice none 0 0, .int .u8 0, .int .u64 0, .bool false, .bool false, .bool false, .bool false] 32)).setCells v6.heap.size 0 (plC p6 Q6))
       have BS := Lib.hid (show Below X5.heap.size X5 _ from below_setCells16 B6.out.size (plC p6 Q6) 0 _ (B6.out.alloc B6.out.size (.cells #[.slice none 0 0, .int .u8 0, .slice none 0 0, .int .u32 0, .int .u8 0, .slice none 0 0, .slice none 0 0, .int .u8 0, .int .u64 0, .bool false, .bool false, .bool false, .bool false] 32)))
       have BX6 := Lib.hid (thn16 BX5.out BS.out)
       have HB6 := Lib.hid (set_fresh17 (p := p6) (P := Q6) (heap_alloc_new v6 (.cells #[.slice none 0 0, .int .u8 0, .slice none 0 0, .int .u32 0, .int .u8 0, .slice none 0 0, .slice none 0 0, .int .u8 0, .int .u64 0, .bool false, .bool false, .bool false, .bool false] 32)) rfl)
       have HO6 := Lib.hid (own_box17 (OV6.out.on (below16 v6 (.cells #[.slice none 0 0, .int .u8 0, .slice none 0 0, .int .u32 0, .int .u8 0, .slice none 0 0, .slice none 0 0, .int .u8 0, .int .u64 0, .bool false, .bool false, .bool false, .bool false] 32))) (heap_alloc_new v6 (.cells #[.slice none 0 0, .int .u8 0, .slice none 0 0, .int .u32 0, .int .u8 0, .slice none 0 0, .slice none 0 0, .int .u8 0, .int .u64 0, .bool false, .bool false, .bool false, .bool false] 32)) 0 (plC p6 Q6)).pol
       have HB1 := Lib.hid (blk_on HB1.out BS.out)
       have HO1 := Lib.hid (HO1.out.on BS.out)
       have HB2 := Lib.hid (blk_on HB2.out BS.out)
       have HO2 := Lib.hid (HO2.out.on BS.out)
       have HB3 := Lib.hid (blk_on HB3.out BS.out)
       have HO3 := Lib.hid (HO3.out.on BS.out)
       have HB4 := Lib.hid (blk_on HB4.out BS.out)
       have HO4 := Lib.hid (HO4.out.on BS.out)
       have HB5 := Lib.hid (blk_on HB5.out BS.out)
       have HO5 := Lib.hid (HO5.out.on BS.out)
       obtain ⟨g6, hg6⟩ : ∃ g, g = v6.heap.size := ⟨_, rfl⟩
       rw [← hg6] at BS BX6 HB6 HO6 HB1 HO1 HB2 HO2 HB3 HO3 HB4 HO4 HB5 HO5 ⊢
       generalize (World.alloc v6 (.cells #[.slice none 0 0, .int .u8 0, .slice none 0 0, .int .u32 0, .int .u8 0, .slice none 0 0, .slice none 0 0, .int .u8 0, .int .u64 0, .bool false, .bool false, .bool false, .bool false] 32)).setCells g6 0 (plC p6 Q6) = X6 at BS BX6 HB6 HO6 HB1 HO1 HB2 HO2 HB3 HO3 HB4 HO4 HB5 HO5 ⊢
       clear BS B6 OV6 hg6)
    | (go_at_call 17
       ((with_reducible refine (HA7.out X6 (HON.out _ _ HG.out (thn16 BX6.out (below16 X6 (.cells #[.string ⟨#[111, 110]⟩, .string ⟨#[109, 97, 121, 98, 101]⟩] 9))))).mono ?_); rintro e v7 ⟨p7, rfl, o7, b7⟩)
       have B7 := Lib.hid (thn16 (below16 X6 (.cells #[.string ⟨#[111, 110]⟩, .string ⟨#[109, 97, 121, 98, 101]⟩] 9)) b7)
       have OV7 := Lib.hid o7
       clear o7 b7)
    | ((with_reducible show wpList _ _ _ (⟨none, .store 32 (.tmp 13) (.tmp 50), _, _, _, _⟩ :: _) _ _)
       refine wpList_store_mid rfl 32 (.tmp 13) (.tmp 50) rfl v7.heap.size 0 (plC p7 Q7).toArray (by rfl) (by rfl) (there_row17 (heap_alloc_new v7 (.cells #[.slice none 0 0, .int .u8 0, .slice none 0 0, .int .u32 0, .int .u8 0, .slice none 0 0, .slice none 0 0, .int .u8 0, .int .u64 0, .bool false, .bool false, .bool false, .bool false] 32)) (show 0 + 13 ≤ 13 by decide)) pl_info (plC_one _ _) ?_
       show wpList _ _ _ _ _ ((World.alloc v7 (.cells #[.slice none 0 0, .int .u8 0, .slice none 0 0, .int .u32 0, .int .u8 0, .slice none 0 0, .slice none 0 0, .int .u8 0, .int .u64 0, .bool false, .bool false, .bool false, .bool false] 32)).setCells v7.heap.size 0 (plC p7 Q7))
       have BS := Lib.hid (show Below X6.heap.size X6 _ from below_setCells16 B7.out.size (plC p7 Q7) 0 _ (B7.out.alloc B7.out.size (.cells #[.slice none 0 0, .int .u8 0, .slice none 0 0, .int .u32 0, .int .u8 0, .slice none 0 0, .slice none 0 0, .int .u8 0, .int .u64 0, .bool false, .bool false, .bool false, .bool false] 32)))
       have BX7 := Lib.hid (thn16 BX6.out BS.out)
       have HB7 := Lib.hid (set_fresh17 (p := p7) (P := Q7) (heap_alloc_new v7 (.cells #[.slice none 0 0, .int .u8 0, .slice none 0 0, .int .u32 0, .int .u8 0, .slice none 0 0, .slice none 0 0, .int .u8 0, .int .u64 0, .bool false, .bool false, .bool false, .bool false] 32)) rfl)
       have HO7 := Lib.hid (own_box17 (OV7.out.on (below16 v7 (.cells #[.slice none 0 0, .int .u8 0, .slice none 0 0, .int .u32 0, .int .u8 0, .slice none 0 0, .slice none 0 0, .int .u8 0, .int .u64 0, .bool false, .bool false, .bool false, .bool false] 32))) (heap_alloc_new v7 (.cells #[.slice none 0 0, .int .u8 0, .slice none 0 0, .int .u32 0, .int .u8 0, .slice none 0 0, .slice none 0 0, .int .u8 0, .int .u64 0, .bool false, .bool false, .bool false, .bool false] 32)) 0 (plC p7 Q7)).pol
       have HB1 := Lib.hid (blk_on HB1.out BS.out)
       have HO1 := Lib.hid (HO1.out.on BS.out)
       have HB2 := Lib.hid (blk_on HB2.out BS.out)
       have HO2 := Lib.hid (HO2.out.on BS.out)
       have HB3 := Lib.hid (blk_on HB3.out BS.out)
       have HO3 := Lib.hid (HO3.out.on BS.out)
       have HB4 := Lib.hid (blk_on HB4.out BS.out)
       have HO4 := Lib.hid (HO4.out.on BS.out)
       have HB5 := Lib.hid (blk_on HB5.out BS.out)
       have HO5 := Lib.hid (HO5.out.on BS.out)
       have HB6 := Lib.hid (blk_on HB6.out BS.out)
       have HO6 := Lib.hid (HO6.out.on BS.out)
       obtain ⟨g7, hg7⟩ : ∃ g, g = v7.heap.size := ⟨_, rfl⟩
       rw [← hg7] at BS BX7 HB7 HO7 HB1 HO1 HB2 HO2 HB3 HO3 HB4 HO4 HB5 HO5 HB6 HO6 ⊢
       generalize (World.alloc v7 (.cells #[.slice none 0 0, .int .u8 0, .slice none 0 0, .int .u32 0, .int .u8 0, .slice none 0 0, .slice none 0 0, .int .u8 0, .int .u64 0, .bool false, .bool false, .bool false, .bool false] 32)).setCells g7 0 (plC p7 Q7) = X7 at BS BX7 HB7 HO7 HB1 HO1 HB2 HO2 HB3 HO3 HB4 HO4 HB5 HO5 HB6 HO6 ⊢
       clear BS B7 OV7 hg7)
    | (go_at_call 17
       ((with_reducible refine (HA8.out X7 (HON.out _ _ HG.out (thn16 BX7.out (below16 X7 (.cells #[.string ⟨#[111, 110]⟩, .string ⟨#[]⟩] 9))))).mono ?_); rintro e v8 ⟨p8, rfl, o8, b8⟩)
       have B8 := Lib.hid (thn16 (below16 X7 (.cells #[.string ⟨#[111, 110]⟩, .string ⟨#[]⟩] 9)) b8)
       have OV8 := Lib.hid o8
       clear o8 b8)
    | ((with_reducible show wpList _ _ _ (⟨none, .store 32 (.tmp 15) (.tmp 55), _, _, _, _⟩ :: _) _ _)
       refine wpList_store_mid rfl 32 (.tmp 15) (.tmp 55) rfl v8.heap.size 0 (plC p8 Q8).toArray (by rfl) (by rfl) (there_row17 (heap_alloc_new v8 (.cells #[.slice none 0 0, .int .u8 0, .slice none 0 0, .int .u32 0, .int .u8 0, .slice none 0 0, .slice none 0 0, .int .u8 0, .int .u64 0, .bool false, .bool false, .bool false, .bool false] 32)) (show 0 + 13 ≤ 13 by decide)) pl_info (plC_one _ _) ?_
       show wpList _ _ _ _ _ ((World.alloc v8 (.cells #[.slice none 0 0, .int .u8 0, .slice none 0 0, .int .u32 0, .int .u8 0, .slice none 0 0, .slice none 0 0, .int .u8 0, .int .u64 0, .bool false, .bool false, .bool false, .bool false] 32)).setCells v8.heap.size 0 (plC p8 Q8))
       have BS := Lib.hid (show Below X7.heap.size X7 _ from below_setCells16 B8.out.size (plC p8 Q8) 0 _ (B8.out.alloc B8.out.size (.cells #[.slice none 0 0, .int .u8 0, .slice none 0 0, .int .u32 0, .int .u8 0, .slice none 0 0, .slice none 0 0, .int .u8 0, .int .u64 0, .bool false, .bool false, .bool false, .bool false] 32)))
       have BX8 := Lib.hid (thn16 BX7.out BS.out)
       have HB8 := Lib.hid (set_fresh17 (p := p8) (P := Q8) (heap_alloc_new v8 (.cells #[.slice none 0 0, .int .u8 0, .slice none 0 0, .int .u32 0, .int .u8 0, .slice none 0 0, .slice none 0 0, .int .u8 0, .int .u64 0, .bool false, .bool false, .bool false, .bool false] 32)) rfl)
       have HO8 := Lib.hid (own_box17 (OV8.out.on (below16 v8 (.cells #[.slice none 0 0, .int .u8 0, .slice none 0 0, .int .u32 0, .int .u8 0, .slice none 0 0, .slice none 0 0, .int .u8 0, .int .u64 0, .bool false, .bool false, .bool false, .bool false] 32))) (heap_alloc_new v8 (.cells #[.slice none 0 0, .int .u8 0, .slice none 0 0, .int .u32 0, .int .u8 0, .slice none 0 0, .slice none 0 0, .int .u8 0, .int .u64 0, .bool false, .bool false, .bool false, .bool false] 32)) 0 (plC p8 Q8)).pol
       have HB1 := Lib.hid (blk_on HB1.out BS.out)
       have HO1 := Lib.hid (HO1.out.on BS.out)
       have HB2 := Lib.hid (blk_on HB2.out BS.out)
       have HO2 := Lib.hid (HO2.out.on BS.out)
       have HB3 := Lib.hid (blk_on HB3.out BS.out)
       have HO3 := Lib.hid (HO3.out.on BS.out)
       have HB4 := Lib.hid (blk_on HB4.out BS.out)
       have HO4 := Lib.hid (HO4.out.on BS.out)
       have HB5 := Lib.hid (blk_on HB5.out BS.out)
       have HO5 := Lib.hid (HO5.out.on BS.out)
       have HB6 := Lib.hid (blk_on HB6.out BS.out)
       have HO6 := Lib.hid (HO6.out.on BS.out)
       have HB7 := Lib.hid (blk_on HB7.out BS.out)
       have HO7 := Lib.hid (HO7.out.on BS.out)
       obtain ⟨g8, hg8⟩ : ∃ g, g = v8.heap.size := ⟨_, rfl⟩
       rw [← hg8] at BS BX8 HB8 HO8 HB1 HO1 HB2 HO2 HB3 HO3 HB4 HO4 HB5 HO5 HB6 HO6 HB7 HO7 ⊢
       generalize (World.alloc v8 (.cells #[.slice none 0 0, .int .u8 0, .slice none 0 0, .int .u32 0, .int .u8 0, .slice none 0 0, .slice none 0 0, .int .u8 0, .int .u64 0, .bool false, .bool false, .bool false, .bool false] 32)).setCells g8 0 (plC p8 Q8) = X8 at BS BX8 HB8 HO8 HB1 HO1 HB2 HO2 HB3 HO3 HB4 HO4 HB5 HO5 HB6 HO6 HB7 HO7 ⊢
       clear BS B8 OV8 hg8))
  have l1 : p1.an = 2 := by rw [HO1.out.al, HQ1.out]; rfl
  have l2 : p2.mn = 1 := by rw [HO2.out.ml, HQ2.out]; rfl
  have l3 : p3.mn = 1 := by rw [HO3.out.ml, HQ3.out]; rfl
  have l4 : p4.mn = 0 := by rw [HO4.out.ml, HQ4.out]; rfl
  obtain ⟨ga, oa, ea, ca⟩ := HO1.out.ar 0 0 (by rw [HQ1.out]; rfl)
  obtain ⟨ga', oa', ea', cb⟩ := HO1.out.ar 1 1 (by rw [HQ1.out]; rfl)
  rw [ea] at ea'
  injection ea' with ea'
  injection ea' with ea1 ea2
  subst ea1 ea2
  obtain ⟨gb, ob, eb, cc⟩ := HO2.out.fa 0 2 (by rw [HQ2.out]; rfl)
  simp only [Nat.add_zero] at ca cc
  have a0 := (cell_of_row X8 g1 0 _ _ (0, 0) HB1.out).trans (show _ = some (Value.slice (some ⟨ga, oa, none⟩) 2 p1.ac) from by rw [← ea, ← l1]; rfl)
  have b6 := (cell_of_row X8 g2 6 _ _ (0, 0) HB2.out).trans (show _ = some (Value.slice (some ⟨gb, ob, none⟩) 1 p2.mc) from by rw [← eb, ← l2]; rfl)
  have c6 := (cell_of_row X8 g3 6 _ _ (0, 0) HB3.out).trans (show _ = some (Value.slice p3.mq 1 p3.mc) from by rw [← l3]; rfl)
  have d6 := (cell_of_row X8 g4 6 _ _ (0, 0) HB4.out).trans (show _ = some (Value.slice p4.mq 0 p4.mc) from by rw [← l4]; rfl)
  have b7 := (cell_of_row X8 g2 7 _ _ (0, 0) HB2.out).trans (show _ = some (Value.int .u8 1) from by rw [HQ2.out]; rfl)
  have c7 := (cell_of_row X8 g3 7 _ _ (0, 0) HB3.out).trans (show _ = some (Value.int .u8 2) from by rw [HQ3.out]; rfl)
  have d7 := (cell_of_row X8 g4 7 _ _ (0, 0) HB4.out).trans (show _ = some (Value.int .u8 1) from by rw [HQ4.out]; rfl)
  have BZ := Lib.hid (Below.refl X8.heap.size X8)
  have e8 := (cell_of_row X8 g5 8 _ _ (0, 0) (blk_on HB5.out BZ.out)).trans (show _ = some (Value.int .u64 2114060416) from by rw [HQ5.out]; rfl)
  have f10 := (cell_of_row X8 g6 10 _ _ (0, 0) (blk_on HB6.out BZ.out)).trans (show _ = some (Value.bool true) from by rw [HQ6.out]; rfl)
  have g10 := (cell_of_row X8 g7 10 _ _ (0, 0) (blk_on HB7.out BZ.out)).trans (show _ = some (Value.bool true) from by rw [HQ7.out]; rfl)
  have h10 := (cell_of_row X8 g8 10 _ _ (0, 0) (blk_on HB8.out BZ.out)).trans (show _ = some (Value.bool false) from by rw [HQ8.out]; rfl)
  go_wp2_with (first
    | (go_at_call 19
       ((with_reducible refine (HS1.out _ (HON.out _ _ HG.out (thn16 BX8.out BZ.out))).mono ?_); rintro e Z1 ⟨rfl, b⟩)
       have BZ := Lib.hid (thn16 BZ.out b)
       clear e8 f10 g10 h10
       have e8 := (cell_of_row Z1 g5 8 _ _ (0, 0) (blk_on HB5.out BZ.out)).trans (show _ = some (Value.int .u64 2114060416) from by rw [HQ5.out]; rfl)
       have f10 := (cell_of_row Z1 g6 10 _ _ (0, 0) (blk_on HB6.out BZ.out)).trans (show _ = some (Value.bool true) from by rw [HQ6.out]; rfl)
       have g10 := (cell_of_row Z1 g7 10 _ _ (0, 0) (blk_on HB7.out BZ.out)).trans (show _ = some (Value.bool true) from by rw [HQ7.out]; rfl)
       have h10 := (cell_of_row Z1 g8 10 _ _ (0, 0) (blk_on HB8.out BZ.out)).trans (show _ = some (Value.bool false) from by rw [HQ8.out]; rfl)
       clear b)
    | (go_at_call 19
       ((with_reducible refine (HS2.out _ (HON.out _ _ HG.out (thn16 BX8.out BZ.out))).mono ?_); rintro e Z2 ⟨rfl, b⟩)
       have BZ := Lib.hid (thn16 BZ.out b)
       clear e8 f10 g10 h10
       have e8 := (cell_of_row Z2 g5 8 _ _ (0, 0) (blk_on HB5.out BZ.out)).trans (show _ = some (Value.int .u64 2114060416) from by rw [HQ5.out]; rfl)
       have f10 := (cell_of_row Z2 g6 10 _ _ (0, 0) (blk_on HB6.out BZ.out)).trans (show _ = some (Value.bool true) from by rw [HQ6.out]; rfl)
       have g10 := (cell_of_row Z2 g7 10 _ _ (0, 0) (blk_on HB7.out BZ.out)).trans (show _ = some (Value.bool true) from by rw [HQ7.out]; rfl)
       have h10 := (cell_of_row Z2 g8 10 _ _ (0, 0) (blk_on HB8.out BZ.out)).trans (show _ = some (Value.bool false) from by rw [HQ8.out]; rfl)
       clear b)
    | (go_at_call 19
       ((with_reducible refine (HS3.out _ (HON.out _ _ HG.out (thn16 BX8.out BZ.out))).mono ?_); rintro e Z3 ⟨rfl, b⟩)
       have BZ := Lib.hid (thn16 BZ.out b)
       clear e8 f10 g10 h10
       have e8 := (cell_of_row Z3 g5 8 _ _ (0, 0) (blk_on HB5.out BZ.out)).trans (show _ = some (Value.int .u64 2114060416) from by rw [HQ5.out]; rfl)
       have f10 := (cell_of_row Z3 g6 10 _ _ (0, 0) (blk_on HB6.out BZ.out)).trans (show _ = some (Value.bool true) from by rw [HQ6.out]; rfl)
       have g10 := (cell_of_row Z3 g7 10 _ _ (0, 0) (blk_on HB7.out BZ.out)).trans (show _ = some (Value.bool true) from by rw [HQ7.out]; rfl)
       have h10 := (cell_of_row Z3 g8 10 _ _ (0, 0) (blk_on HB8.out BZ.out)).trans (show _ = some (Value.bool false) from by rw [HQ8.out]; rfl)
       clear b)
    | (go_at_call 7
       ((with_reducible refine (HK1.out _ (HON.out _ _ HG.out (thn16 BX8.out BZ.out))).mono ?_); rintro e Z4 ⟨rfl, b⟩)
       have BZ := Lib.hid (thn16 BZ.out b)
       clear e8 f10 g10 h10
       have e8 := (cell_of_row Z4 g5 8 _ _ (0, 0) (blk_on HB5.out BZ.out)).trans (show _ = some (Value.int .u64 2114060416) from by rw [HQ5.out]; rfl)
       have f10 := (cell_of_row Z4 g6 10 _ _ (0, 0) (blk_on HB6.out BZ.out)).trans (show _ = some (Value.bool true) from by rw [HQ6.out]; rfl)
       have g10 := (cell_of_row Z4 g7 10 _ _ (0, 0) (blk_on HB7.out BZ.out)).trans (show _ = some (Value.bool true) from by rw [HQ7.out]; rfl)
       have h10 := (cell_of_row Z4 g8 10 _ _ (0, 0) (blk_on HB8.out BZ.out)).trans (show _ = some (Value.bool false) from by rw [HQ8.out]; rfl)
       clear b)
    | (go_at_call 7
       ((with_reducible refine (HK2.out _ (HON.out _ _ HG.out (thn16 BX8.out BZ.out))).mono ?_); rintro e Z5 ⟨rfl, b⟩)
       have BZ := Lib.hid (thn16 BZ.out b)
       clear e8 f10 g10 h10
       have e8 := (cell_of_row Z5 g5 8 _ _ (0, 0) (blk_on HB5.out BZ.out)).trans (show _ = some (Value.int .u64 2114060416) from by rw [HQ5.out]; rfl)
       have f10 := (cell_of_row Z5 g6 10 _ _ (0, 0) (blk_on HB6.out BZ.out)).trans (show _ = some (Value.bool true) from by rw [HQ6.out]; rfl)
       have g10 := (cell_of_row Z5 g7 10 _ _ (0, 0) (blk_on HB7.out BZ.out)).trans (show _ = some (Value.bool true) from by rw [HQ7.out]; rfl)
       have h10 := (cell_of_row Z5 g8 10 _ _ (0, 0) (blk_on HB8.out BZ.out)).trans (show _ = some (Value.bool false) from by rw [HQ8.out]; rfl)
       clear b))
  go_ret
  exact ⟨by first | rfl | simp | decide, thn16 BX8.out BZ.out⟩
end Go.Proofs.YtbjhleajhkofeaaDoor
