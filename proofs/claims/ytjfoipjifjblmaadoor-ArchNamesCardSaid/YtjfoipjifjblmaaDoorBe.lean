/- The statement ArchNames holds, over what the calls have to return: names, and what architecture a name is, are as the document says. -/
import Derived.Test.YtjfoipjifjblmaaDoorRows
import Derived.Test.YtjfoipjifjblmaaDoorCards
import Derived.Test.YtjfoipjifjblmaaDoorTie
import Derived.SevenTiedAt
import Derived.Test.YtjfoipjifjblmaaDoorWd
import Derived.Test.YtjfoipjifjblmaaDoorLy
import Derived.Test.YtjfoipjifjblmaaDoorBj
import Derived.Test.YtjfoipjifjblmaaDoorBc
import Derived.Laws.BitsAllLaws
namespace Go.Proofs.YtjfoipjifjblmaaDoor.archNames
open Go.ChangeShapes Go.WideShapes Go.ChangeAt Go.RowKit
open Go.ChangeMaps (open_string shut_string)
set_option linter.unusedVariables false
attribute [local go_sem ↓] Go.wp_at_zero Go.wp_at_succ
set_option maxRecDepth 100000 in
set_option maxHeartbeats 4000000 in
theorem core_neg {G : World → Prop} (HON : ∀ (w w' : World), G w → Below w.heap.size w w' → G w') (a : Int) (s : ByteArray) (x y : Int) (w : World) (hG : G w) (hs : (s.size : Int) ≤ 200) (ha : a < 0)
    (HP : ∀ W, G W → Calls Tryd.prog 9 #[.string s] W fun e w' => e = .returned (.tuple #[.int .i64 x, .int .i64 y]) ∧ Below W.heap.size W w')
    (HR : ∀ W, Calls Tryd.prog 10 #[.string s] W fun e w' => e = .returned (.tuple #[.int .i64 x, .int .i64 y]) ∧ Below W.heap.size W w')
    (HN : ∀ W, G W → Calls Tryd.prog 11 #[.int .i64 a] W fun e w' => e = .returned (.string ⟨#[]⟩) ∧ Below W.heap.size W w')
    (HA : ∀ W, G W → Calls Tryd.prog 12 #[] W fun e w' => e = .returned (.bool true) ∧ Below W.heap.size W w') :
    Calls Tryd.prog 3 #[.int .i64 a, .string s] w fun e w' => e = .returned (.bool true) ∧ Below w.heap.size w w' := by
  have HON := Lib.hid HON
  have B1 := Lib.hid (show Below w.heap.size w w from (Below.refl w.heap.size w))
  have G1 := Lib.hid (HON.out _ _ hG B1.out)
  have HP := Lib.hid HP
  have HR := Lib.hid HR
  have HN := Lib.hid HN
  have HA := Lib.hid HA
  have HNS := Lib.hid (fun W => names_c W)
  have HNC := Lib.hid (fun (W : World) (k : Nat) (hk : k < 6) => names_cell W hk)
  clear hG
  go_enter Tryd.func3, Tryd.ntmps3
  go_wp2_with (first
    | (go_at_call 9; ((with_reducible refine (HP.out _ G1.out).mono ?_); rintro e v3 ⟨rfl, b3⟩); have G3 := HON.out _ _ G1.out b3; have B3 := thn B1.out b3)
    | (go_at_call 10; ((with_reducible refine (HR.out _).mono ?_); rintro e v4 ⟨rfl, b4⟩); have G4 := HON.out _ _ G3 b4; have B4 := thn B3 b4)
    | (go_at_call 11; ((with_reducible refine (HN.out _ G4).mono ?_); rintro e v5 ⟨rfl, b5⟩); have G5 := HON.out _ _ G4 b5; have B5 := thn B4 b5)
    | (go_at_call 12; ((with_reducible refine (HA.out _ G5).mono ?_); rintro e v6 ⟨rfl, b6⟩); have B6 := thn B5 b6))
  go_ret
  exact ⟨by first | rfl | simp, B6⟩
set_option maxRecDepth 100000 in
set_option maxHeartbeats 4000000 in
theorem core_big {G : World → Prop} (HON : ∀ (w w' : World), G w → Below w.heap.size w w' → G w') (a : Int) (s : ByteArray) (x y : Int) (w : World) (hG : G w) (hs : (s.size : Int) ≤ 200) (ha : 6 ≤ a)
    (HP : ∀ W, G W → Calls Tryd.prog 9 #[.string s] W fun e w' => e = .returned (.tuple #[.int .i64 x, .int .i64 y]) ∧ Below W.heap.size W w')
    (HR : ∀ W, Calls Tryd.prog 10 #[.string s] W fun e w' => e = .returned (.tuple #[.int .i64 x, .int .i64 y]) ∧ Below W.heap.size W w')
    (HN : ∀ W, G W → Calls Tryd.prog 11 #[.int .i64 a] W fun e w' => e = .returned (.string ⟨#[]⟩) ∧ Below W.heap.size W w')
    (HA : ∀ W, G W → Calls Tryd.prog 12 #[] W fun e w' => e = .returned (.bool true) ∧ Below W.heap.size W w') :
    Calls Tryd.prog 3 #[.int .i64 a, .string s] w fun e w' => e = .returned (.bool true) ∧ Below w.heap.size w w' := by
  have HON := Lib.hid HON
  have B1 := Lib.hid (show Below w.heap.size w (w.alloc (.cells #[.string ⟨#[120, 56, 54, 45, 54, 52]⟩, .string ⟨#[120, 56, 54]⟩, .string ⟨#[120, 51, 50]⟩, .string ⟨#[97, 114, 109]⟩, .string ⟨#[97, 114, 109, 54, 52]⟩, .string ⟨#[114, 105, 115, 99, 118, 54, 52]⟩] 9)) from ((Below.refl w.heap.size w).alloc (Nat.le_refl _) _))
  have G1 := Lib.hid (HON.out _ _ hG B1.out)
  have HP := Lib.hid HP
  have HR := Lib.hid HR
  have HN := Lib.hid HN
  have HA := Lib.hid HA
  have HNS := Lib.hid (fun W => names_c W)
  have HNC := Lib.hid (fun (W : World) (k : Nat) (hk : k < 6) => names_cell W hk)
  clear hG
  go_enter Tryd.func3, Tryd.ntmps3
  go_wp2_with (first
    | (go_at_call 8; ((with_reducible refine (HNS.out w).mono ?_); rintro e v1 ⟨rfl, rfl⟩))
    | (go_at_call 9; ((with_reducible refine (HP.out _ G1.out).mono ?_); rintro e v3 ⟨rfl, b3⟩); have G3 := HON.out _ _ G1.out b3; have B3 := thn B1.out b3)
    | (go_at_call 10; ((with_reducible refine (HR.out _).mono ?_); rintro e v4 ⟨rfl, b4⟩); have G4 := HON.out _ _ G3 b4; have B4 := thn B3 b4)
    | (go_at_call 11; ((with_reducible refine (HN.out _ G4).mono ?_); rintro e v5 ⟨rfl, b5⟩); have G5 := HON.out _ _ G4 b5; have B5 := thn B4 b5)
    | (go_at_call 12; ((with_reducible refine (HA.out _ G5).mono ?_); rintro e v6 ⟨rfl, b6⟩); have B6 := thn B5 b6))
  go_ret
  exact ⟨by first | rfl | simp, B6⟩
set_option maxRecDepth 100000 in
set_option maxHeartbeats 4000000 in
theorem core_0 {G : World → Prop} (HON : ∀ (w w' : World), G w → Below w.heap.size w w' → G w') (s : ByteArray) (x y : Int) (w : World) (hG : G w) (hs : (s.size : Int) ≤ 200) 
    (HP : ∀ W, G W → Calls Tryd.prog 9 #[.string s] W fun e w' => e = .returned (.tuple #[.int .i64 x, .int .i64 y]) ∧ Below W.heap.size W w')
    (HR : ∀ W, Calls Tryd.prog 10 #[.string s] W fun e w' => e = .returned (.tuple #[.int .i64 x, .int .i64 y]) ∧ Below W.heap.size W w')
    (HN : ∀ W, G W → Calls Tryd.prog 11 #[.int .i64 0] W fun e w' => e = .returned (.string ⟨#[120, 56, 54, 45, 54, 52]⟩) ∧ Below W.heap.size W w')
    (HA : ∀ W, G W → Calls Tryd.prog 12 #[] W fun e w' => e = .returned (.bool true) ∧ Below W.heap.size W w') :
    Calls Tryd.prog 3 #[.int .i64 0, .string s] w fun e w' => e = .returned (.bool true) ∧ Below w.heap.size w w' := by
  have HON := Lib.hid HON
  have B1 := Lib.hid (show Below w.heap.size w ((w.alloc (.cells #[.string ⟨#[120, 56, 54, 45, 54, 52]⟩, .string ⟨#[120, 56, 54]⟩, .string ⟨#[120, 51, 50]⟩, .string ⟨#[97, 114, 109]⟩, .string ⟨#[97, 114, 109, 54, 52]⟩, .string ⟨#[114, 105, 115, 99, 118, 54, 52]⟩] 9)).alloc (.cells #[.string ⟨#[120, 56, 54, 45, 54, 52]⟩, .string ⟨#[120, 56, 54]⟩, .string ⟨#[120, 51, 50]⟩, .string ⟨#[97, 114, 109]⟩, .string ⟨#[97, 114, 109, 54, 52]⟩, .string ⟨#[114, 105, 115, 99, 118, 54, 52]⟩] 9)) from (((Below.refl w.heap.size w).alloc (Nat.le_refl _) _).alloc (by simp) _))
  have G1 := Lib.hid (HON.out _ _ hG B1.out)
  have HP := Lib.hid HP
  have HR := Lib.hid HR
  have HN := Lib.hid HN
  have HA := Lib.hid HA
  have HNS := Lib.hid (fun W => names_c W)
  have HNC := Lib.hid (fun (W : World) (k : Nat) (hk : k < 6) => names_cell W hk)
  clear hG
  go_enter Tryd.func3, Tryd.ntmps3
  go_wp2_with (first
    | (go_at_call 8; ((with_reducible refine (HNS.out w).mono ?_); rintro e v1 ⟨rfl, rfl⟩))
    | (go_at_call 8; ((with_reducible refine (HNS.out _).mono ?_); rintro e v2 ⟨rfl, rfl⟩); have c2 := HNC.out (w.alloc (.cells #[.string ⟨#[120, 56, 54, 45, 54, 52]⟩, .string ⟨#[120, 56, 54]⟩, .string ⟨#[120, 51, 50]⟩, .string ⟨#[97, 114, 109]⟩, .string ⟨#[97, 114, 109, 54, 52]⟩, .string ⟨#[114, 105, 115, 99, 118, 54, 52]⟩] 9)) (k := 0) (by omega))
    | (go_at_call 9; ((with_reducible refine (HP.out _ G1.out).mono ?_); rintro e v3 ⟨rfl, b3⟩); have G3 := HON.out _ _ G1.out b3; have B3 := thn B1.out b3)
    | (go_at_call 10; ((with_reducible refine (HR.out _).mono ?_); rintro e v4 ⟨rfl, b4⟩); have G4 := HON.out _ _ G3 b4; have B4 := thn B3 b4)
    | (go_at_call 11; ((with_reducible refine (HN.out _ G4).mono ?_); rintro e v5 ⟨rfl, b5⟩); have G5 := HON.out _ _ G4 b5; have B5 := thn B4 b5)
    | (go_at_call 12; ((with_reducible refine (HA.out _ G5).mono ?_); rintro e v6 ⟨rfl, b6⟩); have B6 := thn B5 b6))
  go_ret
  exact ⟨by first | rfl | simp, B6⟩
set_option maxRecDepth 100000 in
set_option maxHeartbeats 4000000 in
theorem core_1 {G : World → Prop} (HON : ∀ (w w' : World), G w → Below w.heap.size w w' → G w') (s : ByteArray) (x y : Int) (w : World) (hG : G w) (hs : (s.size : Int) ≤ 200) 
    (HP : ∀ W, G W → Calls Tryd.prog 9 #[.string s] W fun e w' => e = .returned (.tuple #[.int .i64 x, .int .i64 y]) ∧ Below W.heap.size W w')
    (HR : ∀ W, Calls Tryd.prog 10 #[.string s] W fun e w' => e = .returned (.tuple #[.int .i64 x, .int .i64 y]) ∧ Below W.heap.size W w')
    (HN : ∀ W, G W → Calls Tryd.prog 11 #[.int .i64 1] W fun e w' => e = .returned (.string ⟨#[120, 56, 54]⟩) ∧ Below W.heap.size W w')
    (HA : ∀ W, G W → Calls Tryd.prog 12 #[] W fun e w' => e = .returned (.bool true) ∧ Below W.heap.size W w') :
    Calls Tryd.prog 3 #[.int .i64 1, .string s] w fun e w' => e = .returned (.bool true) ∧ Below w.heap.size w w' := by
  have HON := Lib.hid HON
  have B1 := Lib.hid (show Below w.heap.size w ((w.alloc (.cells #[.string ⟨#[120, 56, 54, 45, 54, 52]⟩, .string ⟨#[120, 56, 54]⟩, .string ⟨#[120, 51, 50]⟩, .string ⟨#[97, 114, 109]⟩, .string ⟨#[97, 114, 109, 54, 52]⟩, .string ⟨#[114, 105, 115, 99, 118, 54, 52]⟩] 9)).alloc (.cells #[.string ⟨#[120, 56, 54, 45, 54, 52]⟩, .string ⟨#[120, 56, 54]⟩, .string ⟨#[120, 51, 50]⟩, .string ⟨#[97, 114, 109]⟩, .string ⟨#[97, 114, 109, 54, 52]⟩, .string ⟨#[114, 105, 115, 99, 118, 54, 52]⟩] 9)) from (((Below.refl w.heap.size w).alloc (Nat.le_refl _) _).alloc (by simp) _))
  have G1 := Lib.hid (HON.out _ _ hG B1.out)
  have HP := Lib.hid HP
  have HR := Lib.hid HR
  have HN := Lib.hid HN
  have HA := Lib.hid HA
  have HNS := Lib.hid (fun W => names_c W)
  have HNC := Lib.hid (fun (W : World) (k : Nat) (hk : k < 6) => names_cell W hk)
  clear hG
  go_enter Tryd.func3, Tryd.ntmps3
  go_wp2_with (first
    | (go_at_call 8; ((with_reducible refine (HNS.out w).mono ?_); rintro e v1 ⟨rfl, rfl⟩))
    | (go_at_call 8; ((with_reducible refine (HNS.out _).mono ?_); rintro e v2 ⟨rfl, rfl⟩); have c2 := HNC.out (w.alloc (.cells #[.string ⟨#[120, 56, 54, 45, 54, 52]⟩, .string ⟨#[120, 56, 54]⟩, .string ⟨#[120, 51, 50]⟩, .string ⟨#[97, 114, 109]⟩, .string ⟨#[97, 114, 109, 54, 52]⟩, .string ⟨#[114, 105, 115, 99, 118, 54, 52]⟩] 9)) (k := 1) (by omega))
    | (go_at_call 9; ((with_reducible refine (HP.out _ G1.out).mono ?_); rintro e v3 ⟨rfl, b3⟩); have G3 := HON.out _ _ G1.out b3; have B3 := thn B1.out b3)
    | (go_at_call 10; ((with_reducible refine (HR.out _).mono ?_); rintro e v4 ⟨rfl, b4⟩); have G4 := HON.out _ _ G3 b4; have B4 := thn B3 b4)
    | (go_at_call 11; ((with_reducible refine (HN.out _ G4).mono ?_); rintro e v5 ⟨rfl, b5⟩); have G5 := HON.out _ _ G4 b5; have B5 := thn B4 b5)
    | (go_at_call 12; ((with_reducible refine (HA.out _ G5).mono ?_); rintro e v6 ⟨rfl, b6⟩); have B6 := thn B5 b6))
  go_ret
  exact ⟨by first | rfl | simp, B6⟩
set_option maxRecDepth 100000 in
set_option maxHeartbeats 4000000 in
theorem core_2 {G : World → Prop} (HON : ∀ (w w' : World), G w → Below w.heap.size w w' → G w') (s : ByteArray) (x y : Int) (w : World) (hG : G w) (hs : (s.size : Int) ≤ 200) 
    (HP : ∀ W, G W → Calls Tryd.prog 9 #[.string s] W fun e w' => e = .returned (.tuple #[.int .i64 x, .int .i64 y]) ∧ Below W.heap.size W w')
    (HR : ∀ W, Calls Tryd.prog 10 #[.string s] W fun e w' => e = .returned (.tuple #[.int .i64 x, .int .i64 y]) ∧ Below W.heap.size W w')
    (HN : ∀ W, G W → Calls Tryd.prog 11 #[.int .i64 2] W fun e w' => e = .returned (.string ⟨#[120, 51, 50]⟩) ∧ Below W.heap.size W w')
    (HA : ∀ W, G W → Calls Tryd.prog 12 #[] W fun e w' => e = .returned (.bool true) ∧ Below W.heap.size W w') :
    Calls Tryd.prog 3 #[.int .i64 2, .string s] w fun e w' => e = .returned (.bool true) ∧ Below w.heap.size w w' := by
  have HON := Lib.hid HON
  have B1 := Lib.hid (show Below w.heap.size w ((w.alloc (.cells #[.string ⟨#[120, 56, 54, 45, 54, 52]⟩, .string ⟨#[120, 56, 54]⟩, .string ⟨#[120, 51, 50]⟩, .string ⟨#[97, 114, 109]⟩, .string ⟨#[97, 114, 109, 54, 52]⟩, .string ⟨#[114, 105, 115, 99, 118, 54, 52]⟩] 9)).alloc (.cells #[.string ⟨#[120, 56, 54, 45, 54, 52]⟩, .string ⟨#[120, 56, 54]⟩, .string ⟨#[120, 51, 50]⟩, .string ⟨#[97, 114, 109]⟩, .string ⟨#[97, 114, 109, 54, 52]⟩, .string ⟨#[114, 105, 115, 99, 118, 54, 52]⟩] 9)) from (((Below.refl w.heap.size w).alloc (Nat.le_refl _) _).alloc (by simp) _))
  have G1 := Lib.hid (HON.out _ _ hG B1.out)
  have HP := Lib.hid HP
  have HR := Lib.hid HR
  have HN := Lib.hid HN
  have HA := Lib.hid HA
  have HNS := Lib.hid (fun W => names_c W)
  have HNC := Lib.hid (fun (W : World) (k : Nat) (hk : k < 6) => names_cell W hk)
  clear hG
  go_enter Tryd.func3, Tryd.ntmps3
  go_wp2_with (first
    | (go_at_call 8; ((with_reducible refine (HNS.out w).mono ?_); rintro e v1 ⟨rfl, rfl⟩))
    | (go_at_call 8; ((with_reducible refine (HNS.out _).mono ?_); rintro e v2 ⟨rfl, rfl⟩); have c2 := HNC.out (w.alloc (.cells #[.string ⟨#[120, 56, 54, 45, 54, 52]⟩, .string ⟨#[120, 56, 54]⟩, .string ⟨#[120, 51, 50]⟩, .string ⟨#[97, 114, 109]⟩, .string ⟨#[97, 114, 109, 54, 52]⟩, .string ⟨#[114, 105, 115, 99, 118, 54, 52]⟩] 9)) (k := 2) (by omega))
    | (go_at_call 9; ((with_reducible refine (HP.out _ G1.out).mono ?_); rintro e v3 ⟨rfl, b3⟩); have G3 := HON.out _ _ G1.out b3; have B3 := thn B1.out b3)
    | (go_at_call 10; ((with_reducible refine (HR.out _).mono ?_); rintro e v4 ⟨rfl, b4⟩); have G4 := HON.out _ _ G3 b4; have B4 := thn B3 b4)
    | (go_at_call 11; ((with_reducible refine (HN.out _ G4).mono ?_); rintro e v5 ⟨rfl, b5⟩); have G5 := HON.out _ _ G4 b5; have B5 := thn B4 b5)
    | (go_at_call 12; ((with_reducible refine (HA.out _ G5).mono ?_); rintro e v6 ⟨rfl, b6⟩); have B6 := thn B5 b6))
  go_ret
  exact ⟨by first | rfl | simp, B6⟩
set_option maxRecDepth 100000 in
set_option maxHeartbeats 4000000 in
theorem core_3 {G : World → Prop} (HON : ∀ (w w' : World), G w → Below w.heap.size w w' → G w') (s : ByteArray) (x y : Int) (w : World) (hG : G w) (hs : (s.size : Int) ≤ 200) 
    (HP : ∀ W, G W → Calls Tryd.prog 9 #[.string s] W fun e w' => e = .returned (.tuple #[.int .i64 x, .int .i64 y]) ∧ Below W.heap.size W w')
    (HR : ∀ W, Calls Tryd.prog 10 #[.string s] W fun e w' => e = .returned (.tuple #[.int .i64 x, .int .i64 y]) ∧ Below W.heap.size W w')
    (HN : ∀ W, G W → Calls Tryd.prog 11 #[.int .i64 3] W fun e w' => e = .returned (.string ⟨#[97, 114, 109]⟩) ∧ Below W.heap.size W w')
    (HA : ∀ W, G W → Calls Tryd.prog 12 #[] W fun e w' => e = .returned (.bool true) ∧ Below W.heap.size W w') :
    Calls Tryd.prog 3 #[.int .i64 3, .string s] w fun e w' => e = .returned (.bool true) ∧ Below w.heap.size w w' := by
  have HON := Lib.hid HON
  have B1 := Lib.hid (show Below w.heap.size w ((w.alloc (.cells #[.string ⟨#[120, 56, 54, 45, 54, 52]⟩, .string ⟨#[120, 56, 54]⟩, .string ⟨#[120, 51, 50]⟩, .string ⟨#[97, 114, 109]⟩, .string ⟨#[97, 114, 109, 54, 52]⟩, .string ⟨#[114, 105, 115, 99, 118, 54, 52]⟩] 9)).alloc (.cells #[.string ⟨#[120, 56, 54, 45, 54, 52]⟩, .string ⟨#[120, 56, 54]⟩, .string ⟨#[120, 51, 50]⟩, .string ⟨#[97, 114, 109]⟩, .string ⟨#[97, 114, 109, 54, 52]⟩, .string ⟨#[114, 105, 115, 99, 118, 54, 52]⟩] 9)) from (((Below.refl w.heap.size w).alloc (Nat.le_refl _) _).alloc (by simp) _))
  have G1 := Lib.hid (HON.out _ _ hG B1.out)
  have HP := Lib.hid HP
  have HR := Lib.hid HR
  have HN := Lib.hid HN
  have HA := Lib.hid HA
  have HNS := Lib.hid (fun W => names_c W)
  have HNC := Lib.hid (fun (W : World) (k : Nat) (hk : k < 6) => names_cell W hk)
  clear hG
  go_enter Tryd.func3, Tryd.ntmps3
  go_wp2_with (first
    | (go_at_call 8; ((with_reducible refine (HNS.out w).mono ?_); rintro e v1 ⟨rfl, rfl⟩))
    | (go_at_call 8; ((with_reducible refine (HNS.out _).mono ?_); rintro e v2 ⟨rfl, rfl⟩); have c2 := HNC.out (w.alloc (.cells #[.string ⟨#[120, 56, 54, 45, 54, 52]⟩, .string ⟨#[120, 56, 54]⟩, .string ⟨#[120, 51, 50]⟩, .string ⟨#[97, 114, 109]⟩, .string ⟨#[97, 114, 109, 54, 52]⟩, .string ⟨#[114, 105, 115, 99, 118, 54, 52]⟩] 9)) (k := 3) (by omega))
    | (go_at_call 9; ((with_reducible refine (HP.out _ G1.out).mono ?_); rintro e v3 ⟨rfl, b3⟩); have G3 := HON.out _ _ G1.out b3; have B3 := thn B1.out b3)
    | (go_at_call 10; ((with_reducible refine (HR.out _).mono ?_); rintro e v4 ⟨rfl, b4⟩); have G4 := HON.out _ _ G3 b4; have B4 := thn B3 b4)
    | (go_at_call 11; ((with_reducible refine (HN.out _ G4).mono ?_); rintro e v5 ⟨rfl, b5⟩); have G5 := HON.out _ _ G4 b5; have B5 := thn B4 b5)
    | (go_at_call 12; ((with_reducible refine (HA.out _ G5).mono ?_); rintro e v6 ⟨rfl, b6⟩); have B6 := thn B5 b6))
  go_ret
  exact ⟨by first | rfl | simp, B6⟩
set_option maxRecDepth 100000 in
set_option maxHeartbeats 4000000 in
theorem core_4 {G : World → Prop} (HON : ∀ (w w' : World), G w → Below w.heap.size w w' → G w') (s : ByteArray) (x y : Int) (w : World) (hG : G w) (hs : (s.size : Int) ≤ 200) 
    (HP : ∀ W, G W → Calls Tryd.prog 9 #[.string s] W fun e w' => e = .returned (.tuple #[.int .i64 x, .int .i64 y]) ∧ Below W.heap.size W w')
    (HR : ∀ W, Calls Tryd.prog 10 #[.string s] W fun e w' => e = .returned (.tuple #[.int .i64 x, .int .i64 y]) ∧ Below W.heap.size W w')
    (HN : ∀ W, G W → Calls Tryd.prog 11 #[.int .i64 4] W fun e w' => e = .returned (.string ⟨#[97, 114, 109, 54, 52]⟩) ∧ Below W.heap.size W w')
    (HA : ∀ W, G W → Calls Tryd.prog 12 #[] W fun e w' => e = .returned (.bool true) ∧ Below W.heap.size W w') :
    Calls Tryd.prog 3 #[.int .i64 4, .string s] w fun e w' => e = .returned (.bool true) ∧ Below w.heap.size w w' := by
  have HON := Lib.hid HON
  have B1 := Lib.hid (show Below w.heap.size w ((w.alloc (.cells #[.string ⟨#[120, 56, 54, 45, 54, 52]⟩, .string ⟨#[120, 56, 54]⟩, .string ⟨#[120, 51, 50]⟩, .string ⟨#[97, 114, 109]⟩, .string ⟨#[97, 114, 109, 54, 52]⟩, .string ⟨#[114, 105, 115, 99, 118, 54, 52]⟩] 9)).alloc (.cells #[.string ⟨#[120, 56, 54, 45, 54, 52]⟩, .string ⟨#[120, 56, 54]⟩, .string ⟨#[120, 51, 50]⟩, .string ⟨#[97, 114, 109]⟩, .string ⟨#[97, 114, 109, 54, 52]⟩, .string ⟨#[114, 105, 115, 99, 118, 54, 52]⟩] 9)) from (((Below.refl w.heap.size w).alloc (Nat.le_refl _) _).alloc (by simp) _))
  have G1 := Lib.hid (HON.out _ _ hG B1.out)
  have HP := Lib.hid HP
  have HR := Lib.hid HR
  have HN := Lib.hid HN
  have HA := Lib.hid HA
  have HNS := Lib.hid (fun W => names_c W)
  have HNC := Lib.hid (fun (W : World) (k : Nat) (hk : k < 6) => names_cell W hk)
  clear hG
  go_enter Tryd.func3, Tryd.ntmps3
  go_wp2_with (first
    | (go_at_call 8; ((with_reducible refine (HNS.out w).mono ?_); rintro e v1 ⟨rfl, rfl⟩))
    | (go_at_call 8; ((with_reducible refine (HNS.out _).mono ?_); rintro e v2 ⟨rfl, rfl⟩); have c2 := HNC.out (w.alloc (.cells #[.string ⟨#[120, 56, 54, 45, 54, 52]⟩, .string ⟨#[120, 56, 54]⟩, .string ⟨#[120, 51, 50]⟩, .string ⟨#[97, 114, 109]⟩, .string ⟨#[97, 114, 109, 54, 52]⟩, .string ⟨#[114, 105, 115, 99, 118, 54, 52]⟩] 9)) (k := 4) (by omega))
    | (go_at_call 9; ((with_reducible refine (HP.out _ G1.out).mono ?_); rintro e v3 ⟨rfl, b3⟩); have G3 := HON.out _ _ G1.out b3; have B3 := thn B1.out b3)
    | (go_at_call 10; ((with_reducible refine (HR.out _).mono ?_); rintro e v4 ⟨rfl, b4⟩); have G4 := HON.out _ _ G3 b4; have B4 := thn B3 b4)
    | (go_at_call 11; ((with_reducible refine (HN.out _ G4).mono ?_); rintro e v5 ⟨rfl, b5⟩); have G5 := HON.out _ _ G4 b5; have B5 := thn B4 b5)
    | (go_at_call 12; ((with_reducible refine (HA.out _ G5).mono ?_); rintro e v6 ⟨rfl, b6⟩); have B6 := thn B5 b6))
  go_ret
  exact ⟨by first | rfl | simp, B6⟩
set_option maxRecDepth 100000 in
set_option maxHeartbeats 4000000 in
theorem core_5 {G : World → Prop} (HON : ∀ (w w' : World), G w → Below w.heap.size w w' → G w') (s : ByteArray) (x y : Int) (w : World) (hG : G w) (hs : (s.size : Int) ≤ 200) 
    (HP : ∀ W, G W → Calls Tryd.prog 9 #[.string s] W fun e w' => e = .returned (.tuple #[.int .i64 x, .int .i64 y]) ∧ Below W.heap.size W w')
    (HR : ∀ W, Calls Tryd.prog 10 #[.string s] W fun e w' => e = .returned (.tuple #[.int .i64 x, .int .i64 y]) ∧ Below W.heap.size W w')
    (HN : ∀ W, G W → Calls Tryd.prog 11 #[.int .i64 5] W fun e w' => e = .returned (.string ⟨#[114, 105, 115, 99, 118, 54, 52]⟩) ∧ Below W.heap.size W w')
    (HA : ∀ W, G W → Calls Tryd.prog 12 #[] W fun e w' => e = .returned (.bool true) ∧ Below W.heap.size W w') :
    Calls Tryd.prog 3 #[.int .i64 5, .string s] w fun e w' => e = .returned (.bool true) ∧ Below w.heap.size w w' := by
  have HON := Lib.hid HON
  have B1 := Lib.hid (show Below w.heap.size w ((w.alloc (.cells #[.string ⟨#[120, 56, 54, 45, 54, 52]⟩, .string ⟨#[120, 56, 54]⟩, .string ⟨#[120, 51, 50]⟩, .string ⟨#[97, 114, 109]⟩, .string ⟨#[97, 114, 109, 54, 52]⟩, .string ⟨#[114, 105, 115, 99, 118, 54, 52]⟩] 9)).alloc (.cells #[.string ⟨#[120, 56, 54, 45, 54, 52]⟩, .string ⟨#[120, 56, 54]⟩, .string ⟨#[120, 51, 50]⟩, .string ⟨#[97, 114, 109]⟩, .string ⟨#[97, 114, 109, 54, 52]⟩, .string ⟨#[114, 105, 115, 99, 118, 54, 52]⟩] 9)) from (((Below.refl w.heap.size w).alloc (Nat.le_refl _) _).alloc (by simp) _))
  have G1 := Lib.hid (HON.out _ _ hG B1.out)
  have HP := Lib.hid HP
  have HR := Lib.hid HR
  have HN := Lib.hid HN
  have HA := Lib.hid HA
  have HNS := Lib.hid (fun W => names_c W)
  have HNC := Lib.hid (fun (W : World) (k : Nat) (hk : k < 6) => names_cell W hk)
  clear hG
  go_enter Tryd.func3, Tryd.ntmps3
  go_wp2_with (first
    | (go_at_call 8; ((with_reducible refine (HNS.out w).mono ?_); rintro e v1 ⟨rfl, rfl⟩))
    | (go_at_call 8; ((with_reducible refine (HNS.out _).mono ?_); rintro e v2 ⟨rfl, rfl⟩); have c2 := HNC.out (w.alloc (.cells #[.string ⟨#[120, 56, 54, 45, 54, 52]⟩, .string ⟨#[120, 56, 54]⟩, .string ⟨#[120, 51, 50]⟩, .string ⟨#[97, 114, 109]⟩, .string ⟨#[97, 114, 109, 54, 52]⟩, .string ⟨#[114, 105, 115, 99, 118, 54, 52]⟩] 9)) (k := 5) (by omega))
    | (go_at_call 9; ((with_reducible refine (HP.out _ G1.out).mono ?_); rintro e v3 ⟨rfl, b3⟩); have G3 := HON.out _ _ G1.out b3; have B3 := thn B1.out b3)
    | (go_at_call 10; ((with_reducible refine (HR.out _).mono ?_); rintro e v4 ⟨rfl, b4⟩); have G4 := HON.out _ _ G3 b4; have B4 := thn B3 b4)
    | (go_at_call 11; ((with_reducible refine (HN.out _ G4).mono ?_); rintro e v5 ⟨rfl, b5⟩); have G5 := HON.out _ _ G4 b5; have B5 := thn B4 b5)
    | (go_at_call 12; ((with_reducible refine (HA.out _ G5).mono ?_); rintro e v6 ⟨rfl, b6⟩); have B6 := thn B5 b6))
  go_ret
  exact ⟨by first | rfl | simp, B6⟩
theorem walk {G : World → Prop} (HC : ArchC G) (a0 : Int) (a1 : ByteArray) (w : World) (hG : G w) (w0 : (Lit.int .i64 a0).wf = true) (w1 : a1.size ≤ maxLen) :
    Calls Tryd.prog 3 #[.int .i64 a0, .string a1] w fun e w' => e = .returned (.bool true) ∧ Below w.heap.size w w' := by
  obtain ⟨l0, l1⟩ := bounds_i64 w0
  by_cases hlong : (200 : Int) < a1.size
  · clear HC hG w0 w1
    go_enter Tryd.func3, Tryd.ntmps3
    go_wp2_with fail
    go_ret
    exact ⟨rfl, Below.refl _ _⟩
  have hs : (a1.size : Int) ≤ 200 := by omega
  have HP := fun (W : World) (g : G W) => HC.parse a1 W g w1
  have HR := fun (W : World) => refParse8 a1 W
  have HN := fun (W : World) (g : G W) => HC.name a0 W g l0 l1
  have HA := fun (W : World) (g : G W) => awake8_any HC W g
  have HON := fun (w w' : World) => HC.on (w := w) (w' := w')
  by_cases h0 : a0 < 0
  · rw [show nameR a0 = ⟨#[]⟩ from by unfold nameR; rw [if_neg (by omega)]] at HN
    exact core_neg HON a0 a1 _ _ w hG hs h0 HP HR HN HA
  by_cases h6 : 6 ≤ a0
  · rw [show nameR a0 = ⟨#[]⟩ from by unfold nameR; rw [if_neg (by omega)]] at HN
    exact core_big HON a0 a1 _ _ w hG hs h6 HP HR HN HA
  rcases (by omega : a0 = 0 ∨ a0 = 1 ∨ a0 = 2 ∨ a0 = 3 ∨ a0 = 4 ∨ a0 = 5) with rfl | rfl | rfl | rfl | rfl | rfl
  · rw [show nameR 0 = ⟨#[120, 56, 54, 45, 54, 52]⟩ from by kernel_rfl] at HN
    exact core_0 HON a1 _ _ w hG hs HP HR HN HA
  · rw [show nameR 1 = ⟨#[120, 56, 54]⟩ from by kernel_rfl] at HN
    exact core_1 HON a1 _ _ w hG hs HP HR HN HA
  · rw [show nameR 2 = ⟨#[120, 51, 50]⟩ from by kernel_rfl] at HN
    exact core_2 HON a1 _ _ w hG hs HP HR HN HA
  · rw [show nameR 3 = ⟨#[97, 114, 109]⟩ from by kernel_rfl] at HN
    exact core_3 HON a1 _ _ w hG hs HP HR HN HA
  · rw [show nameR 4 = ⟨#[97, 114, 109, 54, 52]⟩ from by kernel_rfl] at HN
    exact core_4 HON a1 _ _ w hG hs HP HR HN HA
  · rw [show nameR 5 = ⟨#[114, 105, 115, 99, 118, 54, 52]⟩ from by kernel_rfl] at HN
    exact core_5 HON a1 _ _ w hG hs HP HR HN HA

set_option maxRecDepth 100000 in
theorem lifted (HC : ArchC GA8) (os : Os) (started : os.Started) (H : Type) (enc : TypeId × Value → H) :
    ReturnsInHanded {} Tryd.checked os 3 .any (fun w args => (Rows.archNamesSpec.pre enc Tryd.prog Tryd.f3 [] false w args ∧ laidMetH Tryd.prog listed8 w) ∧ sizedMet enc Tryd.prog Tryd.f3 (OpenSpec.ofChange Rows.archNamesSpec) false w args)
      (Rows.archNamesSpec.post enc Tryd.prog Tryd.f3 false true false false) := by
  refine returnsInHanded_of_change_and (C := Tryd.checked) (X := fun w _ => laidMetH Tryd.prog listed8 w) (fun _ _ _ hh h => h.of_heap hh) ownKnob_none started (by kernel_rfl) Tryd.func3
    (ChangeSpec.witness_shaped (enc := enc) (C := Tryd.checked) (os := os) (X := fun w _ => laidMetH Tryd.prog listed8 w) false (World.doorLaid Tryd.prog 4000 os) #[.int .i64 0, .string ⟨#[]⟩] 8 rfl (World.shaped_of_RefB (by kernel_rfl) (by kernel_rfl)) (by kernel_rfl) (by kernel_rfl) (by kernel_rfl) (door_met8 os _)) ?_
  intro W base args ds gs before hval0 hW _ _ hL _
  have hG : GA8 W := of_laid8 hL
  have hval : ∀ (j : Nat) t v, Tryd.f3.params[j]? = some t → args[j]? = some v → Value.okWide Tryd.prog W .any base t v := hval0
  have hW' := hW
  obtain ⟨p, q, hA0, hV, rfl, hfz, hnd⟩ := hW
  have hA : DataW.TrodAll enc Tryd.prog W 0 (fun _ => true) true Tryd.f3.params.toList args.toList ds p := hA0
  rw [Tryd.params3] at hA hval
  obtain ⟨v0, vs0, d0, ds0, p0, q0, hargs, rfl, rfl, h0, r0⟩ := trodAll_cons hA
  obtain ⟨v1, vs1, d1, ds1, p1, q1, rfl, rfl, rfl, h1, r1⟩ := trodAll_cons r0
  obtain ⟨rfl, rfl, rfl⟩ := trodAll_nil r1
  obtain rfl : args = #[v0, v1] := by cases args; simp_all
  obtain ⟨rfl, rfl⟩ := trodVars_none hV
  obtain ⟨a0, rfl, rfl, rfl, w0⟩ := open_int Tryd.underlying3 (hval 0 3 v0 rfl rfl) h0
  obtain ⟨a1, rfl, rfl, rfl, w1⟩ := open_string Tryd.underlying9 (hval 1 9 v1 rfl rfl) h1
  clear hA0 hval0
  simp only [List.append_nil] at hW'
  refine (walk HC a0 a1 W hG w0 w1).mono fun e W' ⟨he, bel⟩ => ?_
  subst he
  exact ⟨_, rfl, _, _, _, [], [], [], hW', trodAll_mk1 (shut_bool Tryd.underlying4 _), (trodAll_cons_mk (shut_int Tryd.underlying3 w0) (trodAll_cons_mk (shut_string Tryd.underlying9 w1) trodAll_mk0)), rfl, bel.frame _, fun h => by cases h⟩

theorem over (HC : ArchC GA8) : Rows.archNamesRow.holds Tryd.pinned (OpenSpec.ofChange Rows.archNamesSpec) :=
  OpenClaim.holds_of_wide 3 Tryd.f3 rfl rfl rfl rfl rfl rfl rfl ⟨rfl, rfl, rfl, rfl, rfl⟩ rfl rfl rfl rfl rfl (by kernel_rfl) Tryd.func3 (by kernel_rfl)
    (of_decide_eq_true (by kernel_rfl)) (by unfold Func.isWrapper; first | (rw [if_pos (by decide +kernel)]; kernel_rfl) | (rw [if_neg (by decide +kernel)]; exact ⟨rfl, rfl⟩))
    (fun os started H enc _ => lifted HC os started H enc)

/-- The row's statement. -/
theorem row_holds : Rows.ArchNamesSaid := over archC
/-- The statement: the row, its table tied to the program's text. -/
theorem proved : Rows.ArchNamesCardSaid :=
  Claim7.holds_tied_plain_at .later [] [.data] true Rows.archNamesCard.stood.harness Rows.archNamesCard.stood.looks
    row_holds (fun _ h => by cases h) (by kernel_rfl) (fun _ h => by cases h) archNames_row_tie rfl ⟨rfl, rfl⟩ (by kernel_rfl) rfl
    (fun f fn hf hfn => by
      obtain rfl : f = 3 := Option.some.inj ((show Tryd.prog.funcNamed "vestibule/vestibulelaw08.ArchNames" = some 3 by kernel_rfl).symm.trans hf) |>.symm
      obtain rfl : fn = Tryd.f3 := (Option.some.inj (Tryd.func3.symm.trans hfn)).symm
      exact ⟨by kernel_rfl, fun j t ht => by
        have hm : t ∈ Tryd.f3.params.toList := by simpa using Array.mem_of_getElem? ht
        have hall : (Tryd.f3.params.toList.all fun u => !Tryd.prog.wantsStandIn u) = true := by kernel_rfl
        exact (show Tryd.prog.wantsStandIn t = false by simpa using List.all_eq_true.1 hall t hm)⟩)
    (by kernel_rfl)
#print axioms proved
end Go.Proofs.YtjfoipjifjblmaaDoor.archNames
