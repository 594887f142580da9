/- The walk of FilterKeys, over what the calls have to return. -/
import Derived.Test.YtanifiobfbfehaaGreatDoorP8
namespace Go.Proofs.YtanifiobfbfehaaGreatDoor.filterKeys
open Go.RowKit
set_option linter.unusedVariables false
set_option linter.unusedSimpArgs false
attribute [local go_sem ↓] Go.wp_at_zero Go.wp_at_succ

set_option maxRecDepth 100000 in
set_option maxHeartbeats 16000000 in
theorem walk {G : World → Prop} (HC : FilterC G) (HAWK : ∀ (W : World), G W → Calls Tryz.prog 14 #[] W fun e w' => e = .returned (.bool true) ∧ Below W.heap.size W w') (k v : ByteArray) (w : World) (hG : G w) : Calls Tryz.prog 4 #[.string k, .string v] w fun e w' => e = .returned (.bool true) ∧ Below w.heap.size w w' := by
  have HON := Lib.hid (fun (w w' : World) => HC.on (w := w) (w' := w'))
  have HG := Lib.hid hG
  have HAW := Lib.hid (fun (W : World) (g : G W) => HAWK W g)
  by_cases h1 : (200 : Int) < k.size
  · clear HC HAWK hG
    go_enter Tryz.func4, Tryz.ntmps4
    go_wp2
    go_ret
    exact ⟨rfl, Below.refl _ _⟩
  by_cases h2 : (200 : Int) < v.size
  · clear HC HAWK hG
    go_enter Tryz.func4, Tryz.ntmps4
    go_wp2
    go_ret
    exact ⟨rfl, Below.refl _ _⟩
  have HE := Lib.hid (fun (X : World) (g : G X) => HC.errno v X g (by omega))
  have HF := Lib.hid (fun (X : World) => refErrno17 v (by unfold maxLen; omega) X)
  have HK := Lib.hid (fun (X : World) (g : G X) => HC.key k X g (by omega))
  have HL := Lib.hid (fun (X : World) => refKey17 k X)
  obtain ⟨a, ha⟩ : ∃ x : Int, x = ((errnoF v).1 : Nat) := ⟨_, rfl⟩
  obtain ⟨b, hb⟩ : ∃ x : Int, x = (errnoF v).2 := ⟨_, rfl⟩
  obtain ⟨c, hc⟩ : ∃ x : Bool, x = keyF k := ⟨_, rfl⟩
  rw [← ha, ← hb] at HE HF
  rw [← hc] at HK HL
  have ta : (a == a) = true := by simp
  have tb : (b == b) = true := by simp
  have tc : (c == c) = true := by simp
  clear ha hb hc HC HAWK hG
  go_enter Tryz.func4, Tryz.ntmps4
  go_wp2_with (first
    | (go_at_call 15
       (with_reducible refine (HE.out _ HG.out).mono ?_)
       rintro e v1 ⟨rfl, b1⟩
       have B1 := Lib.hid b1
       clear b1)
    | (go_at_call 16
       (with_reducible refine (HF.out _).mono ?_)
       rintro e v2 ⟨rfl, b2⟩
       have B2 := Lib.hid (thn16 B1.out b2)
       clear b2)
    | (go_at_call 17
       (with_reducible refine (HK.out _ (HON.out _ _ HG.out B2.out)).mono ?_)
       rintro e v3 ⟨rfl, b3⟩
       have B3 := Lib.hid (thn16 B2.out b3)
       clear b3)
    | (go_at_call 18
       (with_reducible refine (HL.out _).mono ?_)
       rintro e v4 ⟨rfl, b4⟩
       subst b4)
    | (go_at_call 14
       (with_reducible refine (HAW.out _ (HON.out _ _ HG.out B3.out)).mono ?_)
       rintro e v5 ⟨rfl, b5⟩
       have B5 := Lib.hid (thn16 B3.out b5)
       clear b5))
  go_ret
  exact ⟨by first | rfl | simp, B5.out⟩
end Go.Proofs.YtanifiobfbfehaaGreatDoor.filterKeys
