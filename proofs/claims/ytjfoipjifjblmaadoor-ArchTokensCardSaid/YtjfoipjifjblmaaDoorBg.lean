/- The statement ArchTokens holds, over what the calls have to return: tokens, whose a token and a number are, whether an architecture is in a list, and of 64 bits, are as the document says. -/
import Derived.Test.YtjfoipjifjblmaaDoorRows
import Derived.Test.YtjfoipjifjblmaaDoorCards
import Derived.Test.YtjfoipjifjblmaaDoorTie
import Derived.SevenTiedAt
import Derived.Test.YtjfoipjifjblmaaDoorWd
import Derived.Test.YtjfoipjifjblmaaDoorLy
import Derived.Test.YtjfoipjifjblmaaDoorBj
import Derived.Test.YtjfoipjifjblmaaDoorBc
import Derived.Laws.BitsAllLaws
namespace Go.Proofs.YtjfoipjifjblmaaDoor.archTokens
open Go.ChangeShapes Go.WideShapes Go.ChangeAt Go.RowKit
open Go.ChangeMaps (open_string shut_string)
set_option linter.unusedVariables false
attribute [local go_sem ↓] Go.wp_at_zero Go.wp_at_succ
set_option maxRecDepth 100000 in
set_option maxHeartbeats 8000000 in
theorem core_neg {G : World → Prop} (HON : ∀ (w w' : World), G w → Below w.heap.size w w' → G w') (a : Int) (t nr p : Int) (ok r : Bool) (q : Option Addr) (n cap : Nat) (w : World) (hG : G w) (hn : (n : Int) ≤ 40) (ha : a < 0)
    (HT : ∀ W, G W → Calls Tryd.prog 13 #[.int .i64 a] W fun e w' => e = .returned (.tuple #[.int .u32 0, .int .i64 80]) ∧ Below W.heap.size W w')
    (H6 : ∀ W, G W → Calls Tryd.prog 15 #[.int .i64 a] W fun e w' => e = .returned (.bool false) ∧ Below W.heap.size W w')
    (HO : ∀ W, G W → Calls Tryd.prog 16 #[.int .u32 t, .int .u32 nr] W fun e w' => e = .returned (.tuple #[.int .i64 p, .bool ok]) ∧ Below W.heap.size W w')
    (HR : ∀ W, Calls Tryd.prog 17 #[.int .u32 t, .int .u32 nr] W fun e w' => e = .returned (.tuple #[.int .i64 p, .bool ok]) ∧ Below W.heap.size W w')
    (HI : ∀ W, G W → Below w.heap.size w W → Calls Tryd.prog 18 #[.slice q n cap, .int .i64 a] W fun e w' => e = .returned (.bool r) ∧ Below W.heap.size W w')
    (HJ : ∀ W, Below w.heap.size w W → Calls Tryd.prog 19 #[.slice q n cap, .int .i64 a] W fun e w' => e = .returned (.bool r) ∧ W = w')
    (HA : ∀ W, G W → Calls Tryd.prog 12 #[] W fun e w' => e = .returned (.bool true) ∧ Below W.heap.size W w') :
    Calls Tryd.prog 4 #[.int .i64 a, .int .u32 t, .int .u32 nr, .slice q n cap] w fun e w' => e = .returned (.bool true) ∧ Below w.heap.size w w' := by
  have HON := Lib.hid HON
  have HG := Lib.hid hG
  have HT := Lib.hid HT
  have H6 := Lib.hid H6
  have HO := Lib.hid HO
  have HR := Lib.hid HR
  have HI := Lib.hid HI
  have HJ := Lib.hid HJ
  have HA := Lib.hid HA
  have HNS := Lib.hid (fun W => tokens_c W)
  have HNC := Lib.hid (fun (W : World) (k : Nat) (hk : k < 6) => tokens_cell W hk)
  have tt : (ok == ok) = true := by simp
  have rr : (r == r) = true := by simp
  have e0 : (a == 0) = false := beq_eq_false_iff_ne.2 (by omega)
  have e4 : (a == 4) = false := beq_eq_false_iff_ne.2 (by omega)
  have e5 : (a == 5) = false := beq_eq_false_iff_ne.2 (by omega)
  clear hG
  go_enter Tryd.func4, Tryd.ntmps4
  go_wp2_with (first
    | (go_at_call 13; ((with_reducible refine (HT.out _ HG.out).mono ?_); rintro e v1 ⟨rfl, b1⟩); have B2 := b1; have G2 := HON.out _ _ HG.out b1)
    | (go_at_call 15; ((with_reducible refine (H6.out _ G2).mono ?_); rintro e v4 ⟨rfl, b4⟩); have G4 := HON.out _ _ G2 b4; have B4 := thn B2 b4)
    | (go_at_call 16; ((with_reducible refine (HO.out _ G4).mono ?_); rintro e v5 ⟨rfl, b5⟩); have G5 := HON.out _ _ G4 b5; have B5 := thn B4 b5)
    | (go_at_call 17; ((with_reducible refine (HR.out _).mono ?_); rintro e v6 ⟨rfl, b6⟩); have G6 := HON.out _ _ G5 b6; have B6 := thn B5 b6)
    | (go_at_call 18; ((with_reducible refine (HI.out _ G6 B6).mono ?_); rintro e v7 ⟨rfl, b7⟩); have G7 := HON.out _ _ G6 b7; have B7 := thn B6 b7)
    | (go_at_call 19; ((with_reducible refine (HJ.out _ B7).mono ?_); rintro e v8 ⟨rfl, rfl⟩))
    | (go_at_call 12; ((with_reducible refine (HA.out _ G7).mono ?_); rintro e v9 ⟨rfl, b9⟩); have B9 := thn B7 b9))
  go_ret
  exact ⟨by first | rfl | simp, B9⟩
set_option maxRecDepth 100000 in
set_option maxHeartbeats 8000000 in
theorem core_big {G : World → Prop} (HON : ∀ (w w' : World), G w → Below w.heap.size w w' → G w') (a : Int) (t nr p : Int) (ok r : Bool) (q : Option Addr) (n cap : Nat) (w : World) (hG : G w) (hn : (n : Int) ≤ 40) (ha : 6 ≤ a)
    (HT : ∀ W, G W → Calls Tryd.prog 13 #[.int .i64 a] W fun e w' => e = .returned (.tuple #[.int .u32 0, .int .i64 80]) ∧ Below W.heap.size W w')
    (H6 : ∀ W, G W → Calls Tryd.prog 15 #[.int .i64 a] W fun e w' => e = .returned (.bool false) ∧ Below W.heap.size W w')
    (HO : ∀ W, G W → Calls Tryd.prog 16 #[.int .u32 t, .int .u32 nr] W fun e w' => e = .returned (.tuple #[.int .i64 p, .bool ok]) ∧ Below W.heap.size W w')
    (HR : ∀ W, Calls Tryd.prog 17 #[.int .u32 t, .int .u32 nr] W fun e w' => e = .returned (.tuple #[.int .i64 p, .bool ok]) ∧ Below W.heap.size W w')
    (HI : ∀ W, G W → Below w.heap.size w W → Calls Tryd.prog 18 #[.slice q n cap, .int .i64 a] W fun e w' => e = .returned (.bool r) ∧ Below W.heap.size W w')
    (HJ : ∀ W, Below w.heap.size w W → Calls Tryd.prog 19 #[.slice q n cap, .int .i64 a] W fun e w' => e = .returned (.bool r) ∧ W = w')
    (HA : ∀ W, G W → Calls Tryd.prog 12 #[] W fun e w' => e = .returned (.bool true) ∧ Below W.heap.size W w') :
    Calls Tryd.prog 4 #[.int .i64 a, .int .u32 t, .int .u32 nr, .slice q n cap] w fun e w' => e = .returned (.bool true) ∧ Below w.heap.size w w' := by
  have HON := Lib.hid HON
  have HG := Lib.hid hG
  have HT := Lib.hid HT
  have H6 := Lib.hid H6
  have HO := Lib.hid HO
  have HR := Lib.hid HR
  have HI := Lib.hid HI
  have HJ := Lib.hid HJ
  have HA := Lib.hid HA
  have HNS := Lib.hid (fun W => tokens_c W)
  have HNC := Lib.hid (fun (W : World) (k : Nat) (hk : k < 6) => tokens_cell W hk)
  have tt : (ok == ok) = true := by simp
  have rr : (r == r) = true := by simp
  have e0 : (a == 0) = false := beq_eq_false_iff_ne.2 (by omega)
  have e4 : (a == 4) = false := beq_eq_false_iff_ne.2 (by omega)
  have e5 : (a == 5) = false := beq_eq_false_iff_ne.2 (by omega)
  clear hG
  go_enter Tryd.func4, Tryd.ntmps4
  go_wp2_with (first
    | (go_at_call 13; ((with_reducible refine (HT.out _ HG.out).mono ?_); rintro e v1 ⟨rfl, b1⟩))
    | (go_at_call 14; ((with_reducible refine (HNS.out v1).mono ?_); rintro e v2 ⟨rfl, rfl⟩); have W2 := Lib.hid ((Below.refl v1.heap.size v1).alloc (Nat.le_refl _) (.cells #[.int .u32 3221225534, .int .u32 1073741827, .int .u32 3221225534, .int .u32 1073741864, .int .u32 3221225655, .int .u32 3221225715] 32)); have B2 := thn b1 W2.out; have G2 := HON.out _ _ HG.out B2)
    | (go_at_call 15; ((with_reducible refine (H6.out _ G2).mono ?_); rintro e v4 ⟨rfl, b4⟩); have G4 := HON.out _ _ G2 b4; have B4 := thn B2 b4)
    | (go_at_call 16; ((with_reducible refine (HO.out _ G4).mono ?_); rintro e v5 ⟨rfl, b5⟩); have G5 := HON.out _ _ G4 b5; have B5 := thn B4 b5)
    | (go_at_call 17; ((with_reducible refine (HR.out _).mono ?_); rintro e v6 ⟨rfl, b6⟩); have G6 := HON.out _ _ G5 b6; have B6 := thn B5 b6)
    | (go_at_call 18; ((with_reducible refine (HI.out _ G6 B6).mono ?_); rintro e v7 ⟨rfl, b7⟩); have G7 := HON.out _ _ G6 b7; have B7 := thn B6 b7)
    | (go_at_call 19; ((with_reducible refine (HJ.out _ B7).mono ?_); rintro e v8 ⟨rfl, rfl⟩))
    | (go_at_call 12; ((with_reducible refine (HA.out _ G7).mono ?_); rintro e v9 ⟨rfl, b9⟩); have B9 := thn B7 b9))
  go_ret
  exact ⟨by first | rfl | simp, B9⟩
set_option maxRecDepth 100000 in
set_option maxHeartbeats 8000000 in
theorem core_0 {G : World → Prop} (HON : ∀ (w w' : World), G w → Below w.heap.size w w' → G w') (t nr p : Int) (ok r : Bool) (q : Option Addr) (n cap : Nat) (w : World) (hG : G w) (hn : (n : Int) ≤ 40) 
    (HT : ∀ W, G W → Calls Tryd.prog 13 #[.int .i64 0] W fun e w' => e = .returned (.tuple #[.int .u32 3221225534, .int .i64 0]) ∧ Below W.heap.size W w')
    (H6 : ∀ W, G W → Calls Tryd.prog 15 #[.int .i64 0] W fun e w' => e = .returned (.bool true) ∧ Below W.heap.size W w')
    (HO : ∀ W, G W → Calls Tryd.prog 16 #[.int .u32 t, .int .u32 nr] W fun e w' => e = .returned (.tuple #[.int .i64 p, .bool ok]) ∧ Below W.heap.size W w')
    (HR : ∀ W, Calls Tryd.prog 17 #[.int .u32 t, .int .u32 nr] W fun e w' => e = .returned (.tuple #[.int .i64 p, .bool ok]) ∧ Below W.heap.size W w')
    (HI : ∀ W, G W → Below w.heap.size w W → Calls Tryd.prog 18 #[.slice q n cap, .int .i64 0] W fun e w' => e = .returned (.bool r) ∧ Below W.heap.size W w')
    (HJ : ∀ W, Below w.heap.size w W → Calls Tryd.prog 19 #[.slice q n cap, .int .i64 0] W fun e w' => e = .returned (.bool r) ∧ W = w')
    (HA : ∀ W, G W → Calls Tryd.prog 12 #[] W fun e w' => e = .returned (.bool true) ∧ Below W.heap.size W w') :
    Calls Tryd.prog 4 #[.int .i64 0, .int .u32 t, .int .u32 nr, .slice q n cap] w fun e w' => e = .returned (.bool true) ∧ Below w.heap.size w w' := by
  have HON := Lib.hid HON
  have HG := Lib.hid hG
  have HT := Lib.hid HT
  have H6 := Lib.hid H6
  have HO := Lib.hid HO
  have HR := Lib.hid HR
  have HI := Lib.hid HI
  have HJ := Lib.hid HJ
  have HA := Lib.hid HA
  have HNS := Lib.hid (fun W => tokens_c W)
  have HNC := Lib.hid (fun (W : World) (k : Nat) (hk : k < 6) => tokens_cell W hk)
  have tt : (ok == ok) = true := by simp
  have rr : (r == r) = true := by simp
  clear hG
  go_enter Tryd.func4, Tryd.ntmps4
  go_wp2_with (first
    | (go_at_call 13; ((with_reducible refine (HT.out _ HG.out).mono ?_); rintro e v1 ⟨rfl, b1⟩))
    | (go_at_call 14; ((with_reducible refine (HNS.out v1).mono ?_); rintro e v2 ⟨rfl, rfl⟩); have W1 := Lib.hid ((Below.refl v1.heap.size v1).alloc (Nat.le_refl _) (.cells #[.int .u32 3221225534, .int .u32 1073741827, .int .u32 3221225534, .int .u32 1073741864, .int .u32 3221225655, .int .u32 3221225715] 32)))
    | (go_at_call 14; ((with_reducible refine (HNS.out _).mono ?_); rintro e v3 ⟨rfl, rfl⟩); have W2 := Lib.hid (W1.out.alloc (by simp) (.cells #[.int .u32 3221225534, .int .u32 1073741827, .int .u32 3221225534, .int .u32 1073741864, .int .u32 3221225655, .int .u32 3221225715] 32)); have c2 := HNC.out (v1.alloc (.cells #[.int .u32 3221225534, .int .u32 1073741827, .int .u32 3221225534, .int .u32 1073741864, .int .u32 3221225655, .int .u32 3221225715] 32)) (k := 0) (by omega); have B2 := thn b1 W2.out; have G2 := HON.out _ _ HG.out B2)
    | (go_at_call 15; ((with_reducible refine (H6.out _ G2).mono ?_); rintro e v4 ⟨rfl, b4⟩); have G4 := HON.out _ _ G2 b4; have B4 := thn B2 b4)
    | (go_at_call 16; ((with_reducible refine (HO.out _ G4).mono ?_); rintro e v5 ⟨rfl, b5⟩); have G5 := HON.out _ _ G4 b5; have B5 := thn B4 b5)
    | (go_at_call 17; ((with_reducible refine (HR.out _).mono ?_); rintro e v6 ⟨rfl, b6⟩); have G6 := HON.out _ _ G5 b6; have B6 := thn B5 b6)
    | (go_at_call 18; ((with_reducible refine (HI.out _ G6 B6).mono ?_); rintro e v7 ⟨rfl, b7⟩); have G7 := HON.out _ _ G6 b7; have B7 := thn B6 b7)
    | (go_at_call 19; ((with_reducible refine (HJ.out _ B7).mono ?_); rintro e v8 ⟨rfl, rfl⟩))
    | (go_at_call 12; ((with_reducible refine (HA.out _ G7).mono ?_); rintro e v9 ⟨rfl, b9⟩); have B9 := thn B7 b9))
  go_ret
  exact ⟨by first | rfl | simp, B9⟩
set_option maxRecDepth 100000 in
set_option maxHeartbeats 8000000 in
theorem core_1 {G : World → Prop} (HON : ∀ (w w' : World), G w → Below w.heap.size w w' → G w') (t nr p : Int) (ok r : Bool) (q : Option Addr) (n cap : Nat) (w : World) (hG : G w) (hn : (n : Int) ≤ 40) 
    (HT : ∀ W, G W → Calls Tryd.prog 13 #[.int .i64 1] W fun e w' => e = .returned (.tuple #[.int .u32 1073741827, .int .i64 0]) ∧ Below W.heap.size W w')
    (H6 : ∀ W, G W → Calls Tryd.prog 15 #[.int .i64 1] W fun e w' => e = .returned (.bool false) ∧ Below W.heap.size W w')
    (HO : ∀ W, G W → Calls Tryd.prog 16 #[.int .u32 t, .int .u32 nr] W fun e w' => e = .returned (.tuple #[.int .i64 p, .bool ok]) ∧ Below W.heap.size W w')
    (HR : ∀ W, Calls Tryd.prog 17 #[.int .u32 t, .int .u32 nr] W fun e w' => e = .returned (.tuple #[.int .i64 p, .bool ok]) ∧ Below W.heap.size W w')
    (HI : ∀ W, G W → Below w.heap.size w W → Calls Tryd.prog 18 #[.slice q n cap, .int .i64 1] W fun e w' => e = .returned (.bool r) ∧ Below W.heap.size W w')
    (HJ : ∀ W, Below w.heap.size w W → Calls Tryd.prog 19 #[.slice q n cap, .int .i64 1] W fun e w' => e = .returned (.bool r) ∧ W = w')
    (HA : ∀ W, G W → Calls Tryd.prog 12 #[] W fun e w' => e = .returned (.bool true) ∧ Below W.heap.size W w') :
    Calls Tryd.prog 4 #[.int .i64 1, .int .u32 t, .int .u32 nr, .slice q n cap] w fun e w' => e = .returned (.bool true) ∧ Below w.heap.size w w' := by
  have HON := Lib.hid HON
  have HG := Lib.hid hG
  have HT := Lib.hid HT
  have H6 := Lib.hid H6
  have HO := Lib.hid HO
  have HR := Lib.hid HR
  have HI := Lib.hid HI
  have HJ := Lib.hid HJ
  have HA := Lib.hid HA
  have HNS := Lib.hid (fun W => tokens_c W)
  have HNC := Lib.hid (fun (W : World) (k : Nat) (hk : k < 6) => tokens_cell W hk)
  have tt : (ok == ok) = true := by simp
  have rr : (r == r) = true := by simp
  clear hG
  go_enter Tryd.func4, Tryd.ntmps4
  go_wp2_with (first
    | (go_at_call 13; ((with_reducible refine (HT.out _ HG.out).mono ?_); rintro e v1 ⟨rfl, b1⟩))
    | (go_at_call 14; ((with_reducible refine (HNS.out v1).mono ?_); rintro e v2 ⟨rfl, rfl⟩); have W1 := Lib.hid ((Below.refl v1.heap.size v1).alloc (Nat.le_refl _) (.cells #[.int .u32 3221225534, .int .u32 1073741827, .int .u32 3221225534, .int .u32 1073741864, .int .u32 3221225655, .int .u32 3221225715] 32)))
    | (go_at_call 14; ((with_reducible refine (HNS.out _).mono ?_); rintro e v3 ⟨rfl, rfl⟩); have W2 := Lib.hid (W1.out.alloc (by simp) (.cells #[.int .u32 3221225534, .int .u32 1073741827, .int .u32 3221225534, .int .u32 1073741864, .int .u32 3221225655, .int .u32 3221225715] 32)); have c2 := HNC.out (v1.alloc (.cells #[.int .u32 3221225534, .int .u32 1073741827, .int .u32 3221225534, .int .u32 1073741864, .int .u32 3221225655, .int .u32 3221225715] 32)) (k := 1) (by omega); have B2 := thn b1 W2.out; have G2 := HON.out _ _ HG.out B2)
    | (go_at_call 15; ((with_reducible refine (H6.out _ G2).mono ?_); rintro e v4 ⟨rfl, b4⟩); have G4 := HON.out _ _ G2 b4; have B4 := thn B2 b4)
    | (go_at_call 16; ((with_reducible refine (HO.out _ G4).mono ?_); rintro e v5 ⟨rfl, b5⟩); have G5 := HON.out _ _ G4 b5; have B5 := thn B4 b5)
    | (go_at_call 17; ((with_reducible refine (HR.out _).mono ?_); rintro e v6 ⟨rfl, b6⟩); have G6 := HON.out _ _ G5 b6; have B6 := thn B5 b6)
    | (go_at_call 18; ((with_reducible refine (HI.out _ G6 B6).mono ?_); rintro e v7 ⟨rfl, b7⟩); have G7 := HON.out _ _ G6 b7; have B7 := thn B6 b7)
    | (go_at_call 19; ((with_reducible refine (HJ.out _ B7).mono ?_); rintro e v8 ⟨rfl, rfl⟩))
    | (go_at_call 12; ((with_reducible refine (HA.out _ G7).mono ?_); rintro e v9 ⟨rfl, b9⟩); have B9 := thn B7 b9))
  go_ret
  exact ⟨by first | rfl | simp, B9⟩
set_option maxRecDepth 100000 in
set_option maxHeartbeats 8000000 in
theorem core_2 {G : World → Prop} (HON : ∀ (w w' : World), G w → Below w.heap.size w w' → G w') (t nr p : Int) (ok r : Bool) (q : Option Addr) (n cap : Nat) (w : World) (hG : G w) (hn : (n : Int) ≤ 40) 
    (HT : ∀ W, G W → Calls Tryd.prog 13 #[.int .i64 2] W fun e w' => e = .returned (.tuple #[.int .u32 3221225534, .int .i64 0]) ∧ Below W.heap.size W w')
    (H6 : ∀ W, G W → Calls Tryd.prog 15 #[.int .i64 2] W fun e w' => e = .returned (.bool false) ∧ Below W.heap.size W w')
    (HO : ∀ W, G W → Calls Tryd.prog 16 #[.int .u32 t, .int .u32 nr] W fun e w' => e = .returned (.tuple #[.int .i64 p, .bool ok]) ∧ Below W.heap.size W w')
    (HR : ∀ W, Calls Tryd.prog 17 #[.int .u32 t, .int .u32 nr] W fun e w' => e = .returned (.tuple #[.int .i64 p, .bool ok]) ∧ Below W.heap.size W w')
    (HI : ∀ W, G W → Below w.heap.size w W → Calls Tryd.prog 18 #[.slice q n cap, .int .i64 2] W fun e w' => e = .returned (.bool r) ∧ Below W.heap.size W w')
    (HJ : ∀ W, Below w.heap.size w W → Calls Tryd.prog 19 #[.slice q n cap, .int .i64 2] W fun e w' => e = .returned (.bool r) ∧ W = w')
    (HA : ∀ W, G W → Calls Tryd.prog 12 #[] W fun e w' => e = .returned (.bool true) ∧ Below W.heap.size W w') :
    Calls Tryd.prog 4 #[.int .i64 2, .int .u32 t, .int .u32 nr, .slice q n cap] w fun e w' => e = .returned (.bool true) ∧ Below w.heap.size w w' := by
  have HON := Lib.hid HON
  have HG := Lib.hid hG
  have HT := Lib.hid HT
  have H6 := Lib.hid H6
  have HO := Lib.hid HO
  have HR := Lib.hid HR
  have HI := Lib.hid HI
  have HJ := Lib.hid HJ
  have HA := Lib.hid HA
  have HNS := Lib.hid (fun W => tokens_c W)
  have HNC := Lib.hid (fun (W : World) (k : Nat) (hk : k < 6) => tokens_cell W hk)
  have tt : (ok == ok) = true := by simp
  have rr : (r == r) = true := by simp
  clear hG
  go_enter Tryd.func4, Tryd.ntmps4
  go_wp2_with (first
    | (go_at_call 13; ((with_reducible refine (HT.out _ HG.out).mono ?_); rintro e v1 ⟨rfl, b1⟩))
    | (go_at_call 14; ((with_reducible refine (HNS.out v1).mono ?_); rintro e v2 ⟨rfl, rfl⟩); have W1 := Lib.hid ((Below.refl v1.heap.size v1).alloc (Nat.le_refl _) (.cells #[.int .u32 3221225534, .int .u32 1073741827, .int .u32 3221225534, .int .u32 1073741864, .int .u32 3221225655, .int .u32 3221225715] 32)))
    | (go_at_call 14; ((with_reducible refine (HNS.out _).mono ?_); rintro e v3 ⟨rfl, rfl⟩); have W2 := Lib.hid (W1.out.alloc (by simp) (.cells #[.int .u32 3221225534, .int .u32 1073741827, .int .u32 3221225534, .int .u32 1073741864, .int .u32 3221225655, .int .u32 3221225715] 32)); have c2 := HNC.out (v1.alloc (.cells #[.int .u32 3221225534, .int .u32 1073741827, .int .u32 3221225534, .int .u32 1073741864, .int .u32 3221225655, .int .u32 3221225715] 32)) (k := 2) (by omega); have B2 := thn b1 W2.out; have G2 := HON.out _ _ HG.out B2)
    | (go_at_call 15; ((with_reducible refine (H6.out _ G2).mono ?_); rintro e v4 ⟨rfl, b4⟩); have G4 := HON.out _ _ G2 b4; have B4 := thn B2 b4)
    | (go_at_call 16; ((with_reducible refine (HO.out _ G4).mono ?_); rintro e v5 ⟨rfl, b5⟩); have G5 := HON.out _ _ G4 b5; have B5 := thn B4 b5)
    | (go_at_call 17; ((with_reducible refine (HR.out _).mono ?_); rintro e v6 ⟨rfl, b6⟩); have G6 := HON.out _ _ G5 b6; have B6 := thn B5 b6)
    | (go_at_call 18; ((with_reducible refine (HI.out _ G6 B6).mono ?_); rintro e v7 ⟨rfl, b7⟩); have G7 := HON.out _ _ G6 b7; have B7 := thn B6 b7)
    | (go_at_call 19; ((with_reducible refine (HJ.out _ B7).mono ?_); rintro e v8 ⟨rfl, rfl⟩))
    | (go_at_call 12; ((with_reducible refine (HA.out _ G7).mono ?_); rintro e v9 ⟨rfl, b9⟩); have B9 := thn B7 b9))
  go_ret
  exact ⟨by first | rfl | simp, B9⟩
set_option maxRecDepth 100000 in
set_option maxHeartbeats 8000000 in
theorem core_3 {G : World → Prop} (HON : ∀ (w w' : World), G w → Below w.heap.size w w' → G w') (t nr p : Int) (ok r : Bool) (q : Option Addr) (n cap : Nat) (w : World) (hG : G w) (hn : (n : Int) ≤ 40) 
    (HT : ∀ W, G W → Calls Tryd.prog 13 #[.int .i64 3] W fun e w' => e = .returned (.tuple #[.int .u32 1073741864, .int .i64 0]) ∧ Below W.heap.size W w')
    (H6 : ∀ W, G W → Calls Tryd.prog 15 #[.int .i64 3] W fun e w' => e = .returned (.bool false) ∧ Below W.heap.size W w')
    (HO : ∀ W, G W → Calls Tryd.prog 16 #[.int .u32 t, .int .u32 nr] W fun e w' => e = .returned (.tuple #[.int .i64 p, .bool ok]) ∧ Below W.heap.size W w')
    (HR : ∀ W, Calls Tryd.prog 17 #[.int .u32 t, .int .u32 nr] W fun e w' => e = .returned (.tuple #[.int .i64 p, .bool ok]) ∧ Below W.heap.size W w')
    (HI : ∀ W, G W → Below w.heap.size w W → Calls Tryd.prog 18 #[.slice q n cap, .int .i64 3] W fun e w' => e = .returned (.bool r) ∧ Below W.heap.size W w')
    (HJ : ∀ W, Below w.heap.size w W → Calls Tryd.prog 19 #[.slice q n cap, .int .i64 3] W fun e w' => e = .returned (.bool r) ∧ W = w')
    (HA : ∀ W, G W → Calls Tryd.prog 12 #[] W fun e w' => e = .returned (.bool true) ∧ Below W.heap.size W w') :
    Calls Tryd.prog 4 #[.int .i64 3, .int .u32 t, .int .u32 nr, .slice q n cap] w fun e w' => e = .returned (.bool true) ∧ Below w.heap.size w w' := by
  have HON := Lib.hid HON
  have HG := Lib.hid hG
  have HT := Lib.hid HT
  have H6 := Lib.hid H6
  have HO := Lib.hid HO
  have HR := Lib.hid HR
  have HI := Lib.hid HI
  have HJ := Lib.hid HJ
  have HA := Lib.hid HA
  have HNS := Lib.hid (fun W => tokens_c W)
  have HNC := Lib.hid (fun (W : World) (k : Nat) (hk : k < 6) => tokens_cell W hk)
  have tt : (ok == ok) = true := by simp
  have rr : (r == r) = true := by simp
  clear hG
  go_enter Tryd.func4, Tryd.ntmps4
  go_wp2_with (first
    | (go_at_call 13; ((with_reducible refine (HT.out _ HG.out).mono ?_); rintro e v1 ⟨rfl, b1⟩))
    | (go_at_call 14; ((with_reducible refine (HNS.out v1).mono ?_); rintro e v2 ⟨rfl, rfl⟩); have W1 := Lib.hid ((Below.refl v1.heap.size v1).alloc (Nat.le_refl _) (.cells #[.int .u32 3221225534, .int .u32 1073741827, .int .u32 3221225534, .int .u32 1073741864, .int .u32 3221225655, .int .u32 3221225715] 32)))
    | (go_at_call 14; ((with_reducible refine (HNS.out _).mono ?_); rintro e v3 ⟨rfl, rfl⟩); have W2 := Lib.hid (W1.out.alloc (by simp) (.cells #[.int .u32 3221225534, .int .u32 1073741827, .int .u32 3221225534, .int .u32 1073741864, .int .u32 3221225655, .int .u32 3221225715] 32)); have c2 := HNC.out (v1.alloc (.cells #[.int .u32 3221225534, .int .u32 1073741827, .int .u32 3221225534, .int .u32 1073741864, .int .u32 3221225655, .int .u32 3221225715] 32)) (k := 3) (by omega); have B2 := thn b1 W2.out; have G2 := HON.out _ _ HG.out B2)
    | (go_at_call 15; ((with_reducible refine (H6.out _ G2).mono ?_); rintro e v4 ⟨rfl, b4⟩); have G4 := HON.out _ _ G2 b4; have B4 := thn B2 b4)
    | (go_at_call 16; ((with_reducible refine (HO.out _ G4).mono ?_); rintro e v5 ⟨rfl, b5⟩); have G5 := HON.out _ _ G4 b5; have B5 := thn B4 b5)
    | (go_at_call 17; ((with_reducible refine (HR.out _).mono ?_); rintro e v6 ⟨rfl, b6⟩); have G6 := HON.out _ _ G5 b6; have B6 := thn B5 b6)
    | (go_at_call 18; ((with_reducible refine (HI.out _ G6 B6).mono ?_); rintro e v7 ⟨rfl, b7⟩); have G7 := HON.out _ _ G6 b7; have B7 := thn B6 b7)
    | (go_at_call 19; ((with_reducible refine (HJ.out _ B7).mono ?_); rintro e v8 ⟨rfl, rfl⟩))
    | (go_at_call 12; ((with_reducible refine (HA.out _ G7).mono ?_); rintro e v9 ⟨rfl, b9⟩); have B9 := thn B7 b9))
  go_ret
  exact ⟨by first | rfl | simp, B9⟩
set_option maxRecDepth 100000 in
set_option maxHeartbeats 8000000 in
theorem core_4 {G : World → Prop} (HON : ∀ (w w' : World), G w → Below w.heap.size w w' → G w') (t nr p : Int) (ok r : Bool) (q : Option Addr) (n cap : Nat) (w : World) (hG : G w) (hn : (n : Int) ≤ 40) 
    (HT : ∀ W, G W → Calls Tryd.prog 13 #[.int .i64 4] W fun e w' => e = .returned (.tuple #[.int .u32 3221225655, .int .i64 0]) ∧ Below W.heap.size W w')
    (H6 : ∀ W, G W → Calls Tryd.prog 15 #[.int .i64 4] W fun e w' => e = .returned (.bool true) ∧ Below W.heap.size W w')
    (HO : ∀ W, G W → Calls Tryd.prog 16 #[.int .u32 t, .int .u32 nr] W fun e w' => e = .returned (.tuple #[.int .i64 p, .bool ok]) ∧ Below W.heap.size W w')
    (HR : ∀ W, Calls Tryd.prog 17 #[.int .u32 t, .int .u32 nr] W fun e w' => e = .returned (.tuple #[.int .i64 p, .bool ok]) ∧ Below W.heap.size W w')
    (HI : ∀ W, G W → Below w.heap.size w W → Calls Tryd.prog 18 #[.slice q n cap, .int .i64 4] W fun e w' => e = .returned (.bool r) ∧ Below W.heap.size W w')
    (HJ : ∀ W, Below w.heap.size w W → Calls Tryd.prog 19 #[.slice q n cap, .int .i64 4] W fun e w' => e = .returned (.bool r) ∧ W = w')
    (HA : ∀ W, G W → Calls Tryd.prog 12 #[] W fun e w' => e = .returned (.bool true) ∧ Below W.heap.size W w') :
    Calls Tryd.prog 4 #[.int .i64 4, .int .u32 t, .int .u32 nr, .slice q n cap] w fun e w' => e = .returned (.bool true) ∧ Below w.heap.size w w' := by
  have HON := Lib.hid HON
  have HG := Lib.hid hG
  have HT := Lib.hid HT
  have H6 := Lib.hid H6
  have HO := Lib.hid HO
  have HR := Lib.hid HR
  have HI := Lib.hid HI
  have HJ := Lib.hid HJ
  have HA := Lib.hid HA
  have HNS := Lib.hid (fun W => tokens_c W)
  have HNC := Lib.hid (fun (W : World) (k : Nat) (hk : k < 6) => tokens_cell W hk)
  have tt : (ok == ok) = true := by simp
  have rr : (r == r) = true := by simp
  clear hG
  go_enter Tryd.func4, Tryd.ntmps4
  go_wp2_with (first
    | (go_at_call 13; ((with_reducible refine (HT.out _ HG.out).mono ?_); rintro e v1 ⟨rfl, b1⟩))
    | (go_at_call 14; ((with_reducible refine (HNS.out v1).mono ?_); rintro e v2 ⟨rfl, rfl⟩); have W1 := Lib.hid ((Below.refl v1.heap.size v1).alloc (Nat.le_refl _) (.cells #[.int .u32 3221225534, .int .u32 1073741827, .int .u32 3221225534, .int .u32 1073741864, .int .u32 3221225655, .int .u32 3221225715] 32)))
    | (go_at_call 14; ((with_reducible refine (HNS.out _).mono ?_); rintro e v3 ⟨rfl, rfl⟩); have W2 := Lib.hid (W1.out.alloc (by simp) (.cells #[.int .u32 3221225534, .int .u32 1073741827, .int .u32 3221225534, .int .u32 1073741864, .int .u32 3221225655, .int .u32 3221225715] 32)); have c2 := HNC.out (v1.alloc (.cells #[.int .u32 3221225534, .int .u32 1073741827, .int .u32 3221225534, .int .u32 1073741864, .int .u32 3221225655, .int .u32 3221225715] 32)) (k := 4) (by omega); have B2 := thn b1 W2.out; have G2 := HON.out _ _ HG.out B2)
    | (go_at_call 15; ((with_reducible refine (H6.out _ G2).mono ?_); rintro e v4 ⟨rfl, b4⟩); have G4 := HON.out _ _ G2 b4; have B4 := thn B2 b4)
    | (go_at_call 16; ((with_reducible refine (HO.out _ G4).mono ?_); rintro e v5 ⟨rfl, b5⟩); have G5 := HON.out _ _ G4 b5; have B5 := thn B4 b5)
    | (go_at_call 17; ((with_reducible refine (HR.out _).mono ?_); rintro e v6 ⟨rfl, b6⟩); have G6 := HON.out _ _ G5 b6; have B6 := thn B5 b6)
    | (go_at_call 18; ((with_reducible refine (HI.out _ G6 B6).mono ?_); rintro e v7 ⟨rfl, b7⟩); have G7 := HON.out _ _ G6 b7; have B7 := thn B6 b7)
    | (go_at_call 19; ((with_reducible refine (HJ.out _ B7).mono ?_); rintro e v8 ⟨rfl, rfl⟩))
    | (go_at_call 12; ((with_reducible refine (HA.out _ G7).mono ?_); rintro e v9 ⟨rfl, b9⟩); have B9 := thn B7 b9))
  go_ret
  exact ⟨by first | rfl | simp, B9⟩
set_option maxRecDepth 100000 in
set_option maxHeartbeats 8000000 in
theorem core_5 {G : World → Prop} (HON : ∀ (w w' : World), G w → Below w.heap.size w w' → G w') (t nr p : Int) (ok r : Bool) (q : Option Addr) (n cap : Nat) (w : World) (hG : G w) (hn : (n : Int) ≤ 40) 
    (HT : ∀ W, G W → Calls Tryd.prog 13 #[.int .i64 5] W fun e w' => e = .returned (.tuple #[.int .u32 3221225715, .int .i64 0]) ∧ Below W.heap.size W w')
    (H6 : ∀ W, G W → Calls Tryd.prog 15 #[.int .i64 5] W fun e w' => e = .returned (.bool true) ∧ Below W.heap.size W w')
    (HO : ∀ W, G W → Calls Tryd.prog 16 #[.int .u32 t, .int .u32 nr] W fun e w' => e = .returned (.tuple #[.int .i64 p, .bool ok]) ∧ Below W.heap.size W w')
    (HR : ∀ W, Calls Tryd.prog 17 #[.int .u32 t, .int .u32 nr] W fun e w' => e = .returned (.tuple #[.int .i64 p, .bool ok]) ∧ Below W.heap.size W w')
    (HI : ∀ W, G W → Below w.heap.size w W → Calls Tryd.prog 18 #[.slice q n cap, .int .i64 5] W fun e w' => e = .returned (.bool r) ∧ Below W.heap.size W w')
    (HJ : ∀ W, Below w.heap.size w W → Calls Tryd.prog 19 #[.slice q n cap, .int .i64 5] W fun e w' => e = .returned (.bool r) ∧ W = w')
    (HA : ∀ W, G W → Calls Tryd.prog 12 #[] W fun e w' => e = .returned (.bool true) ∧ Below W.heap.size W w') :
    Calls Tryd.prog 4 #[.int .i64 5, .int .u32 t, .int .u32 nr, .slice q n cap] w fun e w' => e = .returned (.bool true) ∧ Below w.heap.size w w' := by
  have HON := Lib.hid HON
  have HG := Lib.hid hG
  have HT := Lib.hid HT
  have H6 := Lib.hid H6
  have HO := Lib.hid HO
  have HR := Lib.hid HR
  have HI := Lib.hid HI
  have HJ := Lib.hid HJ
  have HA := Lib.hid HA
  have HNS := Lib.hid (fun W => tokens_c W)
  have HNC := Lib.hid (fun (W : World) (k : Nat) (hk : k < 6) => tokens_cell W hk)
  have tt : (ok == ok) = true := by simp
  have rr : (r == r) = true := by simp
  clear hG
  go_enter Tryd.func4, Tryd.ntmps4
  go_wp2_with (first
    | (go_at_call 13; ((with_reducible refine (HT.out _ HG.out).mono ?_); rintro e v1 ⟨rfl, b1⟩))
    | (go_at_call 14; ((with_reducible refine (HNS.out v1).mono ?_); rintro e v2 ⟨rfl, rfl⟩); have W1 := Lib.hid ((Below.refl v1.heap.size v1).alloc (Nat.le_refl _) (.cells #[.int .u32 3221225534, .int .u32 1073741827, .int .u32 3221225534, .int .u32 1073741864, .int .u32 3221225655, .int .u32 3221225715] 32)))
    | (go_at_call 14; ((with_reducible refine (HNS.out _).mono ?_); rintro e v3 ⟨rfl, rfl⟩); have W2 := Lib.hid (W1.out.alloc (by simp) (.cells #[.int .u32 3221225534, .int .u32 1073741827, .int .u32 3221225534, .int .u32 1073741864, .int .u32 3221225655, .int .u32 3221225715] 32)); have c2 := HNC.out (v1.alloc (.cells #[.int .u32 3221225534, .int .u32 1073741827, .int .u32 3221225534, .int .u32 1073741864, .int .u32 3221225655, .int .u32 3221225715] 32)) (k := 5) (by omega); have B2 := thn b1 W2.out; have G2 := HON.out _ _ HG.out B2)
    | (go_at_call 15; ((with_reducible refine (H6.out _ G2).mono ?_); rintro e v4 ⟨rfl, b4⟩); have G4 := HON.out _ _ G2 b4; have B4 := thn B2 b4)
    | (go_at_call 16; ((with_reducible refine (HO.out _ G4).mono ?_); rintro e v5 ⟨rfl, b5⟩); have G5 := HON.out _ _ G4 b5; have B5 := thn B4 b5)
    | (go_at_call 17; ((with_reducible refine (HR.out _).mono ?_); rintro e v6 ⟨rfl, b6⟩); have G6 := HON.out _ _ G5 b6; have B6 := thn B5 b6)
    | (go_at_call 18; ((with_reducible refine (HI.out _ G6 B6).mono ?_); rintro e v7 ⟨rfl, b7⟩); have G7 := HON.out _ _ G6 b7; have B7 := thn B6 b7)
    | (go_at_call 19; ((with_reducible refine (HJ.out _ B7).mono ?_); rintro e v8 ⟨rfl, rfl⟩))
    | (go_at_call 12; ((with_reducible refine (HA.out _ G7).mono ?_); rintro e v9 ⟨rfl, b9⟩); have B9 := thn B7 b9))
  go_ret
  exact ⟨by first | rfl | simp, B9⟩
theorem walk {G : World → Prop} (HC : ArchC G) (a0 : Int) (a1 : Int) (a2 : Int) (a3 : Option Addr) (len3 cap3 : Nat) (z3 : List Int) (w : World) (hG : G w) (w0 : (Lit.int .i64 a0).wf = true) (w1 : (Lit.int .u32 a1).wf = true) (w2 : (Lit.int .u32 a2).wf = true) (w3 : IsInts w a3 len3 cap3 z3) :
    Calls Tryd.prog 4 #[.int .i64 a0, .int .u32 a1, .int .u32 a2, .slice a3 len3 cap3] w fun e w' => e = .returned (.bool true) ∧ Below w.heap.size w w' := by
  obtain ⟨l0, l1⟩ := bounds_i64 w0
  obtain ⟨t0, t1⟩ := bounds_u32 w1
  obtain ⟨n0, n1⟩ := bounds_u32 w2
  by_cases hlong : (40 : Int) < len3
  · clear HC hG w0 w1 w2 w3
    go_enter Tryd.func4, Tryd.ntmps4
    go_wp2_with fail
    go_ret
    exact ⟨rfl, Below.refl _ _⟩
  have hs : (len3 : Int) ≤ 40 := by omega
  have HT := fun (W : World) (g : G W) => HC.token a0 W g l0 l1
  have H6 := fun (W : World) (g : G W) => HC.of64 a0 W g l0 l1
  have HO := fun (W : World) (g : G W) => HC.of_ a1 a2 W g t0 (by omega) n0 (by omega)
  have HR := fun (W : World) => refOf8 a1 a2 t0 (by omega) n0 (by omega) W
  have HI := fun (W : World) (g : G W) (b : Below w.heap.size w W) => HC.in_ a3 len3 cap3 z3 a0 W g w3.size w3.rng (by omega) w3.fits w3.most w3.nil l0 l1 (w3.rd.on b)
  have HJ := fun (W : World) (b : Below w.heap.size w W) => refIn8 a3 len3 cap3 z3 a0 W w3.size (by omega) (w3.rd.on b)
  have HA := fun (W : World) (g : G W) => awake8_any HC W g
  have HON := fun (w w' : World) => HC.on (w := w) (w' := w')
  by_cases h0 : a0 < 0
  · rw [show tokR a0 = 0 from by unfold tokR; rw [if_neg (by omega)], show tokE a0 = 80 from by unfold tokE; rw [if_neg (by omega)]] at HT
    rw [show o64R a0 = false from by unfold o64R; rw [beq_eq_false_iff_ne.2 (by omega), beq_eq_false_iff_ne.2 (by omega), beq_eq_false_iff_ne.2 (by omega)]; rfl] at H6
    exact core_neg HON a0 a1 a2 _ _ _ a3 len3 cap3 w hG hs h0 HT H6 HO HR HI HJ HA
  by_cases h6 : 6 ≤ a0
  · rw [show tokR a0 = 0 from by unfold tokR; rw [if_neg (by omega)], show tokE a0 = 80 from by unfold tokE; rw [if_neg (by omega)]] at HT
    rw [show o64R a0 = false from by unfold o64R; rw [beq_eq_false_iff_ne.2 (by omega), beq_eq_false_iff_ne.2 (by omega), beq_eq_false_iff_ne.2 (by omega)]; rfl] at H6
    exact core_big HON a0 a1 a2 _ _ _ a3 len3 cap3 w hG hs h6 HT H6 HO HR HI HJ HA
  rcases (by omega : a0 = 0 ∨ a0 = 1 ∨ a0 = 2 ∨ a0 = 3 ∨ a0 = 4 ∨ a0 = 5) with rfl | rfl | rfl | rfl | rfl | rfl
  · rw [show tokR 0 = 3221225534 from by kernel_rfl, show tokE 0 = 0 from by kernel_rfl] at HT
    rw [show o64R 0 = true from by kernel_rfl] at H6
    exact core_0 HON a1 a2 _ _ _ a3 len3 cap3 w hG hs HT H6 HO HR HI HJ HA
  · rw [show tokR 1 = 1073741827 from by kernel_rfl, show tokE 1 = 0 from by kernel_rfl] at HT
    rw [show o64R 1 = false from by kernel_rfl] at H6
    exact core_1 HON a1 a2 _ _ _ a3 len3 cap3 w hG hs HT H6 HO HR HI HJ HA
  · rw [show tokR 2 = 3221225534 from by kernel_rfl, show tokE 2 = 0 from by kernel_rfl] at HT
    rw [show o64R 2 = false from by kernel_rfl] at H6
    exact core_2 HON a1 a2 _ _ _ a3 len3 cap3 w hG hs HT H6 HO HR HI HJ HA
  · rw [show tokR 3 = 1073741864 from by kernel_rfl, show tokE 3 = 0 from by kernel_rfl] at HT
    rw [show o64R 3 = false from by kernel_rfl] at H6
    exact core_3 HON a1 a2 _ _ _ a3 len3 cap3 w hG hs HT H6 HO HR HI HJ HA
  · rw [show tokR 4 = 3221225655 from by kernel_rfl, show tokE 4 = 0 from by kernel_rfl] at HT
    rw [show o64R 4 = true from by kernel_rfl] at H6
    exact core_4 HON a1 a2 _ _ _ a3 len3 cap3 w hG hs HT H6 HO HR HI HJ HA
  · rw [show tokR 5 = 3221225715 from by kernel_rfl, show tokE 5 = 0 from by kernel_rfl] at HT
    rw [show o64R 5 = true from by kernel_rfl] at H6
    exact core_5 HON a1 a2 _ _ _ a3 len3 cap3 w hG hs HT H6 HO HR HI HJ HA

set_option maxRecDepth 100000 in
theorem lifted (HC : ArchC GA8) (os : Os) (started : os.Started) (H : Type) (enc : TypeId × Value → H) :
    ReturnsInHanded {} Tryd.checked os 4 .any (fun w args => (Rows.archTokensSpec.pre enc Tryd.prog Tryd.f4 [] false w args ∧ laidMetH Tryd.prog listed8 w) ∧ sizedMet enc Tryd.prog Tryd.f4 (OpenSpec.ofChange Rows.archTokensSpec) false w args)
      (Rows.archTokensSpec.post enc Tryd.prog Tryd.f4 false true false false) := by
  refine returnsInHanded_of_change_and (C := Tryd.checked) (X := fun w _ => laidMetH Tryd.prog listed8 w) (fun _ _ _ hh h => h.of_heap hh) ownKnob_none started (by kernel_rfl) Tryd.func4
    (ChangeSpec.witness_shaped (enc := enc) (C := Tryd.checked) (os := os) (X := fun w _ => laidMetH Tryd.prog listed8 w) false (World.doorLaid Tryd.prog 4000 os) #[.int .i64 0, .int .u32 0, .int .u32 0, .slice none 0 0] 8 rfl (World.shaped_of_RefB (by kernel_rfl) (by kernel_rfl)) (by kernel_rfl) (by kernel_rfl) (by kernel_rfl) (door_met8 os _)) ?_
  intro W base args ds gs before hval0 hW _ _ hL _
  have hG : GA8 W := of_laid8 hL
  have hval : ∀ (j : Nat) t v, Tryd.f4.params[j]? = some t → args[j]? = some v → Value.okWide Tryd.prog W .any base t v := hval0
  have hW' := hW
  obtain ⟨p, q, hA0, hV, rfl, hfz, hnd⟩ := hW
  have hA : DataW.TrodAll enc Tryd.prog W 0 (fun _ => true) true Tryd.f4.params.toList args.toList ds p := hA0
  rw [Tryd.params4] at hA hval
  obtain ⟨v0, vs0, d0, ds0, p0, q0, hargs, rfl, rfl, h0, r0⟩ := trodAll_cons hA
  obtain ⟨v1, vs1, d1, ds1, p1, q1, rfl, rfl, rfl, h1, r1⟩ := trodAll_cons r0
  obtain ⟨v2, vs2, d2, ds2, p2, q2, rfl, rfl, rfl, h2, r2⟩ := trodAll_cons r1
  obtain ⟨v3, vs3, d3, ds3, p3, q3, rfl, rfl, rfl, h3, r3⟩ := trodAll_cons r2
  obtain ⟨rfl, rfl, rfl⟩ := trodAll_nil r3
  obtain rfl : args = #[v0, v1, v2, v3] := by cases args; simp_all
  obtain ⟨rfl, rfl⟩ := trodVars_none hV
  obtain ⟨a0, rfl, rfl, rfl, w0⟩ := open_int Tryd.underlying3 (hval 0 3 v0 rfl rfl) h0
  obtain ⟨a1, rfl, rfl, rfl, w1⟩ := open_int Tryd.underlying32 (hval 1 32 v1 rfl rfl) h1
  obtain ⟨a2, rfl, rfl, rfl, w2⟩ := open_int Tryd.underlying32 (hval 2 32 v2 rfl rfl) h2
  obtain ⟨a3, len3, cap3, rfl⟩ := okWide_slice Tryd.underlying33 (hval 3 33 v3 rfl rfl)
  have k3 := h3
  have lt3 : ∀ x ∈ p3, x.block < W.heap.size := by obtain ⟨m, hm⟩ := k3; exact DataW.trod_lt m _ _ _ hm
  obtain ⟨z3, w3⟩ := ints_open h3 lt3
  clear hA0 hval0
  refine (walk HC a0 a1 a2 a3 len3 cap3 z3 W hG w0 w1 w2 w3).mono fun e W' ⟨he, bel⟩ => ?_
  subst he
  exact ⟨_, rfl, _, _, _, [], _, [], hW', trodAll_mk1 (shut_bool Tryd.underlying4 _), (trodAll_cons_mk (shut_int Tryd.underlying3 w0) (trodAll_cons_mk (shut_int Tryd.underlying32 w1) (trodAll_cons_mk (shut_int Tryd.underlying32 w2) (trodAll_cons_mk (Below.trod laidOut (by kernel_rfl) (of_decide_eq_true (by kernel_rfl)) k3 bel lt3) trodAll_mk0)))), rfl, bel.frame _, fun h => by cases h⟩

theorem over (HC : ArchC GA8) : Rows.archTokensRow.holds Tryd.pinned (OpenSpec.ofChange Rows.archTokensSpec) :=
  OpenClaim.holds_of_wide 4 Tryd.f4 rfl rfl rfl rfl rfl rfl rfl ⟨rfl, rfl, rfl, rfl, rfl⟩ rfl rfl rfl rfl rfl (by kernel_rfl) Tryd.func4 (by kernel_rfl)
    (of_decide_eq_true (by kernel_rfl)) (by unfold Func.isWrapper; first | (rw [if_pos (by decide +kernel)]; kernel_rfl) | (rw [if_neg (by decide +kernel)]; exact ⟨rfl, rfl⟩))
    (fun os started H enc _ => lifted HC os started H enc)

/-- The row's statement. -/
theorem row_holds : Rows.ArchTokensSaid := over archC
/-- The statement: the row, its table tied to the program's text. -/
theorem proved : Rows.ArchTokensCardSaid :=
  Claim7.holds_tied_plain_at .later [] [.data] true Rows.archTokensCard.stood.harness Rows.archTokensCard.stood.looks
    row_holds (fun _ h => by cases h) (by kernel_rfl) (fun _ h => by cases h) archTokens_row_tie rfl ⟨rfl, rfl⟩ (by kernel_rfl) rfl
    (fun f fn hf hfn => by
      obtain rfl : f = 4 := Option.some.inj ((show Tryd.prog.funcNamed "vestibule/vestibulelaw08.ArchTokens" = some 4 by kernel_rfl).symm.trans hf) |>.symm
      obtain rfl : fn = Tryd.f4 := (Option.some.inj (Tryd.func4.symm.trans hfn)).symm
      exact ⟨by kernel_rfl, fun j t ht => by
        have hm : t ∈ Tryd.f4.params.toList := by simpa using Array.mem_of_getElem? ht
        have hall : (Tryd.f4.params.toList.all fun u => !Tryd.prog.wantsStandIn u) = true := by kernel_rfl
        exact (show Tryd.prog.wantsStandIn t = false by simpa using List.all_eq_true.1 hall t hm)⟩)
    (by kernel_rfl)
#print axioms proved
end Go.Proofs.YtjfoipjifjblmaaDoor.archTokens
