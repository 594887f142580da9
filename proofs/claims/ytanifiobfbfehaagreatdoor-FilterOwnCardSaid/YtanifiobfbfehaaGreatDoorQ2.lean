/- The landed filter's map of effects, and Key: what stands in it at a key. No condition. -/
import Derived.Test.YtanifiobfbfehaaGreatDoorP8
import Derived.Maps.Ext
import Derived.Maps.OwnSet
namespace Go.Proofs.YtanifiobfbfehaaGreatDoor
open Go.RowKit Go.Maps
set_option linter.unusedVariables false
set_option linter.unusedSimpArgs false
attribute [local go_sem ↓] Go.wp_at_zero Go.wp_at_succ

/-- How an element of the map reads: as itself. -/
def RV17 (v : Value) : Option (DataW Value × List MemPlace) := some (.held v, [])
theorem keyed17 : Keyed Tryz.prog 9 := string_keyed Tryz.underlying9
theorem zero17 (w : World) : (zeroValue 62).run Tryz.prog w = .ok .nilFunc w := by kernel_rfl
/-- An element of a map's literal. -/
theorem wpList_insert17 {H : Type} {P : Program} (w : World) {ops : Array Oper} {rest : List Oper} {o : Oper} {a : Act} {Q : Exit → Act → World → Prop}
    (hg : o.guard = none) (m x v : Operand) (t : TypeId) (hop : o.op = Op.insert t m x v)
    (k e : TypeId) (K : Keyed P k) (ht : P.underlying t = some (.map k e)) (R : Value → Option (DataW H × List MemPlace)) (b n : Nat) (D : DataW H)
    (hm : a.eval m = .map (some b)) (hown : w.ownsMap P k R b n D) (hn : n < maxLen) (key val : Value) (kl : Lit) (hx : a.eval x = key) (hv : a.eval v = val) (hkey : Go.keyOf P k key = some kl)
    (d : DataW H) (ps : List MemPlace) (hval : R val = some (d, ps))
    (hK : ∀ w', w'.ownsMap P k R b (n + 1) (D.put kl d) → w.grownBy w' (some b) → wpList P ops Q rest (a.put o.dst undef) w') :
    wpList P ops Q (o :: rest) a w := by
  refine wpList_plain hg fun K' hK' => ?_
  obtain ⟨w', hrun, r1, r2⟩ := hown.update K ht hn hkey hval
  unfold Oper.wp
  simp [execOp, hop, hm, hx, hv, hrun, Result.andThen]
  exact hK' _ _ (hK w' r1 r2)
/-- A look-up, what stands there being known. -/
theorem lookup17 {P : Program} {w : World} {ops : Array Oper} {rest : List Oper} {o : Oper} {a : Act} {Q : Exit → Act → World → Prop} (hg : o.guard = none) (m x : Operand) (t : TypeId) (hop : o.op = Op.lookup t m x true)
    (k e : TypeId) (K : Keyed P k) (ht : P.underlying t = some (.map k e)) {z : Value} (hz : (zeroValue e).run P w = .ok z w) (b n : Nat) {D : DataW Value}
    (hm : a.eval m = .map (some b)) (hown : w.ownsMap P k RV17 b n D) (key : Value) (kl : Lit) (hx : a.eval x = key) (hkey : Go.keyOf P k key = some kl) (v : Value) (ok : Bool) (hok : has D kl = ok) (hv : D.atKey kl (.held z) = .held v)
    (hK : wpList P ops Q rest (a.put o.dst (.tuple #[v, .bool ok])) w) : wpList P ops Q (o :: rest) a w :=
  wpList_lookup_own_ok w hg m x t hop k e K ht RV17 hz (.held z) [] rfl b n D hm hown key kl hx hkey fun v' ps h => by
    have e1 := congrArg (fun q => q.1) (Option.some.inj h)
    have e2 : DataW.held v' = .held v := (show DataW.held v' = D.atKey kl (.held z) from e1).trans hv
    injection e2 with e2
    rw [e2, hok]; exact hK
def kl17 (s : ByteArray) : Lit := .string s.data.toList
theorem lit17 (s : ByteArray) : WideAt.IsKeyLit (kl17 s) := by unfold kl17; exact trivial
theorem kl_inj {a b : ByteArray} (h : kl17 a = kl17 b) : a = b := list_of_bytes10 (by rw [ByteArray.toList_eq, ByteArray.toList_eq]; exact Lit.string.inj h)
theorem key_of17 (s : ByteArray) (h : s.size ≤ 1000) : Go.keyOf Tryz.prog 9 (.string s) = some (kl17 s) := WideMaps.keyOf_string_mk Tryz.underlying9 (Nat.le_trans h (by unfold maxLen; omega))
/-- The map of effects. -/
def D1 : DataW Value := (DataW.map []).put (kl17 kFil) (.held (.func (.func 36) #[] #[]))
def D2 : DataW Value := D1.put (kl17 kLog) (.held (.func (.func 38) #[] #[]))
def D3 : DataW Value := D2.put (kl17 kErr) (.held (.func (.func 39) #[] #[]))
theorem isMap1 : IsMap D1 := isMap_empty.put _ _
theorem isMap2 : IsMap D2 := isMap1.put _ _
/-- What stands at a key. -/
def atF (s : ByteArray) : Value := if s = kFil then (.func (.func 36) #[] #[]) else if s = kLog then (.func (.func 38) #[] #[]) else if s = kErr then (.func (.func 39) #[] #[]) else .nilFunc
theorem at_fil : has D3 (kl17 kFil) = true ∧ D3.atKey (kl17 kFil) (.held .nilFunc) = .held (.func (.func 36) #[] #[]) := by
  have n1 : kl17 kFil ≠ kl17 kErr := fun e => absurd (kl_inj e) (by decide)
  have n2 : kl17 kFil ≠ kl17 kLog := fun e => absurd (kl_inj e) (by decide)
  unfold D3 D2
  rw [has_put_other n1, has_put_other n2, atKey_put_other n1, atKey_put_other n2]
  exact ⟨has_put_same isMap_empty (lit17 _) _, atKey_put_same isMap_empty (lit17 _) _ _⟩
theorem at_log : has D3 (kl17 kLog) = true ∧ D3.atKey (kl17 kLog) (.held .nilFunc) = .held (.func (.func 38) #[] #[]) := by
  have n1 : kl17 kLog ≠ kl17 kErr := fun e => absurd (kl_inj e) (by decide)
  unfold D3
  rw [has_put_other n1, atKey_put_other n1]
  exact ⟨has_put_same isMap1 (lit17 _) _, atKey_put_same isMap1 (lit17 _) _ _⟩
theorem at_err : has D3 (kl17 kErr) = true ∧ D3.atKey (kl17 kErr) (.held .nilFunc) = .held (.func (.func 39) #[] #[]) := ⟨has_put_same isMap2 (lit17 _) _, atKey_put_same isMap2 (lit17 _) _ _⟩
theorem at_oth {s : ByteArray} (h1 : s ≠ kFil) (h2 : s ≠ kLog) (h3 : s ≠ kErr) : has D3 (kl17 s) = false ∧ D3.atKey (kl17 s) (.held .nilFunc) = .held .nilFunc := by
  have n1 : kl17 s ≠ kl17 kFil := fun e => h1 (kl_inj e)
  have n2 : kl17 s ≠ kl17 kLog := fun e => h2 (kl_inj e)
  have n3 : kl17 s ≠ kl17 kErr := fun e => h3 (kl_inj e)
  have hh : has D3 (kl17 s) = false := by
    unfold D3 D2 D1
    rw [has_put_other n3, has_put_other n2, has_put_other n1]
    rfl
  exact ⟨hh, atKey_of_not_has hh _⟩
theorem at_is (s : ByteArray) : has D3 (kl17 s) = keyF s ∧ D3.atKey (kl17 s) (.held .nilFunc) = .held (atF s) := by
  unfold keyF atF
  by_cases h1 : s = kFil
  · subst h1; rw [if_pos rfl, at_fil.1]; exact ⟨by simp, at_fil.2⟩
  by_cases h2 : s = kLog
  · subst h2; rw [if_neg h1, if_pos rfl, at_log.1]; exact ⟨by simp, at_log.2⟩
  by_cases h3 : s = kErr
  · subst h3; rw [if_neg h1, if_neg h2, if_pos rfl, at_err.1]; exact ⟨by simp, at_err.2⟩
  · rw [if_neg h1, if_neg h2, if_neg h3, (at_oth h1 h2 h3).1]; exact ⟨by simp [h1, h2, h3], (at_oth h1 h2 h3).2⟩
set_option maxRecDepth 100000 in
set_option maxHeartbeats 8000000 in
theorem effects_c17 (w : World) : Calls Tryz.prog 25 #[] w fun e w' => e = .returned (.map (some w.heap.size)) ∧ w'.ownsMap Tryz.prog 9 RV17 w.heap.size 3 D3 ∧ Below w.heap.size w w' := by
  have hmm := @run_makeMap Tryz.prog
  have HK1 := Lib.hid (show Go.keyOf Tryz.prog 9 (.string ⟨#[83, 121, 115, 116, 101, 109, 67, 97, 108, 108, 70, 105, 108, 116, 101, 114]⟩) = some (kl17 kFil) from key_of17 kFil (by decide))
  have HK2 := Lib.hid (show Go.keyOf Tryz.prog 9 (.string ⟨#[83, 121, 115, 116, 101, 109, 67, 97, 108, 108, 76, 111, 103]⟩) = some (kl17 kLog) from key_of17 kLog (by decide))
  have HK3 := Lib.hid (show Go.keyOf Tryz.prog 9 (.string ⟨#[83, 121, 115, 116, 101, 109, 67, 97, 108, 108, 69, 114, 114, 111, 114, 78, 117, 109, 98, 101, 114]⟩) = some (kl17 kErr) from key_of17 kErr (by decide))
  have HO := Lib.hid (World.ownsMap_made (H := Value) w Tryz.prog 9 RV17)
  go_enter Tryz.func25, Tryz.ntmps25
  go_wp2_with (first
    | ((with_reducible show wpList _ _ _ (⟨_, .insert _ _ _ _, _, _, _, _⟩ :: _) _ _)
       refine wpList_insert17 _ rfl _ _ _ 64 rfl 9 62 keyed17 Tryz.underlying64 RV17 w.heap.size 0 _ rfl HO.out (by unfold maxLen; omega) (.string ⟨#[83, 121, 115, 116, 101, 109, 67, 97, 108, 108, 70, 105, 108, 116, 101, 114]⟩) _ (kl17 kFil) rfl rfl HK1.out (.held (.func (.func 36) #[] #[])) [] rfl ?_
       intro w1 hown1 hgrow1)
    | ((with_reducible show wpList _ _ _ (⟨_, .insert _ _ _ _, _, _, _, _⟩ :: _) _ _)
       refine wpList_insert17 _ rfl _ _ _ 64 rfl 9 62 keyed17 Tryz.underlying64 RV17 w.heap.size 1 _ rfl hown1 (by unfold maxLen; omega) (.string ⟨#[83, 121, 115, 116, 101, 109, 67, 97, 108, 108, 76, 111, 103]⟩) _ (kl17 kLog) rfl rfl HK2.out (.held (.func (.func 38) #[] #[])) [] rfl ?_
       intro w2 hown2 hgrow2)
    | ((with_reducible show wpList _ _ _ (⟨_, .insert _ _ _ _, _, _, _, _⟩ :: _) _ _)
       refine wpList_insert17 _ rfl _ _ _ 64 rfl 9 62 keyed17 Tryz.underlying64 RV17 w.heap.size 2 _ rfl hown2 (by unfold maxLen; omega) (.string ⟨#[83, 121, 115, 116, 101, 109, 67, 97, 108, 108, 69, 114, 114, 111, 114, 78, 117, 109, 98, 101, 114]⟩) _ (kl17 kErr) rfl rfl HK3.out (.held (.func (.func 39) #[] #[])) [] rfl ?_
       intro w3 hown3 hgrow3))
  go_ret
  exact ⟨rfl, hown3, (((below16 w _).grown hgrow1 (by rw [World.size_alloc]; exact Nat.le_succ _) (fun k e => Nat.le_of_eq (Option.some.inj e))).grown hgrow2 (by have := hgrow1.size; rw [World.size_alloc] at this; omega) (fun k e => Nat.le_of_eq (Option.some.inj e))).grown hgrow3 (by have := hgrow1.size; have := hgrow2.size; rw [World.size_alloc] at *; omega) (fun k e => Nat.le_of_eq (Option.some.inj e))⟩
set_option maxRecDepth 100000 in
set_option maxHeartbeats 8000000 in
theorem key_c17 (s : ByteArray) (hs : s.size ≤ maxLen) (w : World) : Calls Tryz.prog 17 #[.string s] w fun e w' => e = .returned (.bool (keyF s)) ∧ Below w.heap.size w w' := by
  have HE := Lib.hid (effects_c17 w)
  have HKY := Lib.hid (show Go.keyOf Tryz.prog 9 (.string s) = some (kl17 s) from WideMaps.keyOf_string_mk Tryz.underlying9 hs)
  have HAT := Lib.hid (at_is s)
  clear hs
  go_enter Tryz.func17, Tryz.ntmps17
  go_wp2_with (first
    | (go_at_call 25; ((with_reducible refine (HE.out).mono ?_); rintro e w1 ⟨rfl, o1, b1⟩))
    | (at_lookup; refine lookup17 rfl _ _ 64 rfl 9 62 keyed17 Tryz.underlying64 (zero17 _) w.heap.size 3 rfl o1 _ (kl17 s) rfl HKY.out (atF s) (keyF s) HAT.out.1 HAT.out.2 ?_))
  go_ret
  exact ⟨rfl, b1⟩
end Go.Proofs.YtanifiobfbfehaaGreatDoor
