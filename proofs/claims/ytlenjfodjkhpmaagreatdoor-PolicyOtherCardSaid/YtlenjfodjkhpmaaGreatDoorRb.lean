/- The landed restrict's map of effects, and Key: what stands in it at a key. No condition. -/
import Derived.Test.YtlenjfodjkhpmaaGreatDoorD2
import Derived.Maps.Ext
import Derived.Maps.OwnSet
namespace Go.Proofs.YtlenjfodjkhpmaaGreatDoor
set_option maxRecDepth 100000
open Go.Lib (hid)
open Go.RowKit Go.Maps
set_option linter.unusedVariables false
set_option linter.unusedSimpArgs false
attribute [local go_sem ↓] Go.wp_at_zero Go.wp_at_succ

def RV17r (v : Value) : Option (DataW Value × List MemPlace) := some (.held v, [])
theorem keyed17r : Keyed Tryz.prog 9 := string_keyed Tryz.underlying9
theorem zero17r (w : World) : (zeroValue 131).run Tryz.prog w = .ok .nilFunc w := by kernel_rfl
theorem wpList_insert17r {H : Type} {P : Program} (w : World) {ops : Array Oper} {rest : List Oper} {o : Oper} {a : Act} {Q : Exit → Act → World → Prop}
 (hg : o.guard = none) (m x v : Operand) (t : TypeId) (hop : o.op = Op.insert t m x v)
 (k e : TypeId) (K : Keyed P k) (ht : P.underlying t = some (.map k e)) (R : Value → Option (DataW H × List MemPlace)) (b n : Nat) (D : DataW H)
 (hm : a.eval m = .map (some b)) (hown : w.ownsMap P k R b n D) (hn : n < maxLen) (key val : Value) (kl : Lit) (hx : a.eval x = key) (hv : a.eval v = val) (hkey : Go.keyOf P k key = some kl)
 (d : DataW H) (ps : List MemPlace) (hval : R val = some (d, ps))
 (hK : ∀ w', w'.ownsMap P k R b (n + 1) (D.put kl d) → w.grownBy w' (some b) → wpList P ops Q rest (a.put o.dst undef) w') :
 wpList P ops Q (o :: rest) a w := by
 refine wpList_plain hg fun K' hK' => ?_
 obtain ⟨w', hrun, r1, r2⟩ := hown.update K ht hn hkey hval
 unfold Oper.wp
 simp [execOp, hop, hm, hx, hv, hrun, Result.andThen]
 exact hK' _ _ (hK w' r1 r2)
theorem lookup17r {P : Program} {w : World} {ops : Array Oper} {rest : List Oper} {o : Oper} {a : Act} {Q : Exit → Act → World → Prop} (hg : o.guard = none) (m x : Operand) (t : TypeId) (hop : o.op = Op.lookup t m x true)
 (k e : TypeId) (K : Keyed P k) (ht : P.underlying t = some (.map k e)) {z : Value} (hz : (zeroValue e).run P w = .ok z w) (b n : Nat) {D : DataW Value}
 (hm : a.eval m = .map (some b)) (hown : w.ownsMap P k RV17r b n D) (key : Value) (kl : Lit) (hx : a.eval x = key) (hkey : Go.keyOf P k key = some kl) (v : Value) (ok : Bool) (hok : has D kl = ok) (hv : D.atKey kl (.held z) = .held v)
 (hK : wpList P ops Q rest (a.put o.dst (.tuple #[v, .bool ok])) w) : wpList P ops Q (o :: rest) a w :=
 wpList_lookup_own_ok w hg m x t hop k e K ht RV17r hz (.held z) [] rfl b n D hm hown key kl hx hkey fun v' ps h => by
  have e1 := congrArg (fun q => q.1) (Option.some.inj h)
  have e2 : DataW.held v' = .held v := (show DataW.held v' = D.atKey kl (.held z) from e1).trans hv
  injection e2 with e2
  rw [e2, hok]; exact hK
def kl17r (s : ByteArray) : Lit := .string s.data.toList
theorem lit17r (s : ByteArray) : WideAt.IsKeyLit (kl17r s) := by unfold kl17r; exact trivial
theorem kl_injr {a b : ByteArray} (h : kl17r a = kl17r b) : a = b := list_of_bytes10 (by rw [ByteArray.toList_eq, ByteArray.toList_eq]; exact Lit.string.inj h)
theorem key_of17r (s : ByteArray) (h : s.size ≤ 1000) : Go.keyOf Tryz.prog 9 (.string s) = some (kl17r s) := WideMaps.keyOf_string_mk Tryz.underlying9 (Nat.le_trans h (by unfold maxLen; omega))
def M1 : DataW Value := (DataW.map []).put (kl17r kArc) (.held (.func (.func 128) #[] #[]))
def M2 : DataW Value := M1.put (kl17r kFam) (.held (.func (.func 129) #[] #[]))
def M3 : DataW Value := M2.put (kl17r kSpa) (.held (.func (.func 130) #[] #[]))
def M4 : DataW Value := M3.put (kl17r kWri) (.held (.func (.func 131) #[] #[]))
def M5 : DataW Value := M4.put (kl17r kPer) (.held (.func (.func 132) #[] #[]))
def M6 : DataW Value := M5.put (kl17r kRea) (.held (.func (.func 133) #[] #[]))
def M7 : DataW Value := M6.put (kl17r kNop) (.held (.func (.func 134) #[] #[]))
theorem isM1 : IsMap M1 := isMap_empty.put _ _
theorem isM2 : IsMap M2 := isM1.put _ _
theorem isM3 : IsMap M3 := isM2.put _ _
theorem isM4 : IsMap M4 := isM3.put _ _
theorem isM5 : IsMap M5 := isM4.put _ _
theorem isM6 : IsMap M6 := isM5.put _ _
def atR18 (s : ByteArray) : Value := if s = kArc then (.func (.func 128) #[] #[]) else if s = kFam then (.func (.func 129) #[] #[]) else if s = kSpa then (.func (.func 130) #[] #[]) else if s = kWri then (.func (.func 131) #[] #[]) else if s = kPer then (.func (.func 132) #[] #[]) else if s = kRea then (.func (.func 133) #[] #[]) else if s = kNop then (.func (.func 134) #[] #[]) else .nilFunc
theorem at_kArc : has M7 (kl17r kArc) = true ∧ M7.atKey (kl17r kArc) (.held .nilFunc) = .held (.func (.func 128) #[] #[]) := by
 have n6 : kl17r kArc ≠ kl17r kNop := fun e => absurd (kl_injr e) (by decide)
 have n5 : kl17r kArc ≠ kl17r kRea := fun e => absurd (kl_injr e) (by decide)
 have n4 : kl17r kArc ≠ kl17r kPer := fun e => absurd (kl_injr e) (by decide)
 have n3 : kl17r kArc ≠ kl17r kWri := fun e => absurd (kl_injr e) (by decide)
 have n2 : kl17r kArc ≠ kl17r kSpa := fun e => absurd (kl_injr e) (by decide)
 have n1 : kl17r kArc ≠ kl17r kFam := fun e => absurd (kl_injr e) (by decide)
 unfold M7 M6 M5 M4 M3 M2
 rw [has_put_other n6, has_put_other n5, has_put_other n4, has_put_other n3, has_put_other n2, has_put_other n1, atKey_put_other n6, atKey_put_other n5, atKey_put_other n4, atKey_put_other n3, atKey_put_other n2, atKey_put_other n1]
 exact ⟨has_put_same isMap_empty (lit17r _) _, atKey_put_same isMap_empty (lit17r _) _ _⟩
theorem at_kFam : has M7 (kl17r kFam) = true ∧ M7.atKey (kl17r kFam) (.held .nilFunc) = .held (.func (.func 129) #[] #[]) := by
 have n6 : kl17r kFam ≠ kl17r kNop := fun e => absurd (kl_injr e) (by decide)
 have n5 : kl17r kFam ≠ kl17r kRea := fun e => absurd (kl_injr e) (by decide)
 have n4 : kl17r kFam ≠ kl17r kPer := fun e => absurd (kl_injr e) (by decide)
 have n3 : kl17r kFam ≠ kl17r kWri := fun e => absurd (kl_injr e) (by decide)
 have n2 : kl17r kFam ≠ kl17r kSpa := fun e => absurd (kl_injr e) (by decide)
 unfold M7 M6 M5 M4 M3
 rw [has_put_other n6, has_put_other n5, has_put_other n4, has_put_other n3, has_put_other n2, atKey_put_other n6, atKey_put_other n5, atKey_put_other n4, atKey_put_other n3, atKey_put_other n2]
 exact ⟨has_put_same isM1 (lit17r _) _, atKey_put_same isM1 (lit17r _) _ _⟩
theorem at_kSpa : has M7 (kl17r kSpa) = true ∧ M7.atKey (kl17r kSpa) (.held .nilFunc) = .held (.func (.func 130) #[] #[]) := by
 have n6 : kl17r kSpa ≠ kl17r kNop := fun e => absurd (kl_injr e) (by decide)
 have n5 : kl17r kSpa ≠ kl17r kRea := fun e => absurd (kl_injr e) (by decide)
 have n4 : kl17r kSpa ≠ kl17r kPer := fun e => absurd (kl_injr e) (by decide)
 have n3 : kl17r kSpa ≠ kl17r kWri := fun e => absurd (kl_injr e) (by decide)
 unfold M7 M6 M5 M4
 rw [has_put_other n6, has_put_other n5, has_put_other n4, has_put_other n3, atKey_put_other n6, atKey_put_other n5, atKey_put_other n4, atKey_put_other n3]
 exact ⟨has_put_same isM2 (lit17r _) _, atKey_put_same isM2 (lit17r _) _ _⟩
theorem at_kWri : has M7 (kl17r kWri) = true ∧ M7.atKey (kl17r kWri) (.held .nilFunc) = .held (.func (.func 131) #[] #[]) := by
 have n6 : kl17r kWri ≠ kl17r kNop := fun e => absurd (kl_injr e) (by decide)
 have n5 : kl17r kWri ≠ kl17r kRea := fun e => absurd (kl_injr e) (by decide)
 have n4 : kl17r kWri ≠ kl17r kPer := fun e => absurd (kl_injr e) (by decide)
 unfold M7 M6 M5
 rw [has_put_other n6, has_put_other n5, has_put_other n4, atKey_put_other n6, atKey_put_other n5, atKey_put_other n4]
 exact ⟨has_put_same isM3 (lit17r _) _, atKey_put_same isM3 (lit17r _) _ _⟩
theorem at_kPer : has M7 (kl17r kPer) = true ∧ M7.atKey (kl17r kPer) (.held .nilFunc) = .held (.func (.func 132) #[] #[]) := by
 have n6 : kl17r kPer ≠ kl17r kNop := fun e => absurd (kl_injr e) (by decide)
 have n5 : kl17r kPer ≠ kl17r kRea := fun e => absurd (kl_injr e) (by decide)
 unfold M7 M6
 rw [has_put_other n6, has_put_other n5, atKey_put_other n6, atKey_put_other n5]
 exact ⟨has_put_same isM4 (lit17r _) _, atKey_put_same isM4 (lit17r _) _ _⟩
theorem at_kRea : has M7 (kl17r kRea) = true ∧ M7.atKey (kl17r kRea) (.held .nilFunc) = .held (.func (.func 133) #[] #[]) := by
 have n6 : kl17r kRea ≠ kl17r kNop := fun e => absurd (kl_injr e) (by decide)
 unfold M7
 rw [has_put_other n6, atKey_put_other n6]
 exact ⟨has_put_same isM5 (lit17r _) _, atKey_put_same isM5 (lit17r _) _ _⟩
theorem at_kNop : has M7 (kl17r kNop) = true ∧ M7.atKey (kl17r kNop) (.held .nilFunc) = .held (.func (.func 134) #[] #[]) := by
 exact ⟨has_put_same isM6 (lit17r _) _, atKey_put_same isM6 (lit17r _) _ _⟩
theorem at_oth18 {s : ByteArray} (h0 : s ≠ kArc) (h1 : s ≠ kFam) (h2 : s ≠ kSpa) (h3 : s ≠ kWri) (h4 : s ≠ kPer) (h5 : s ≠ kRea) (h6 : s ≠ kNop) : has M7 (kl17r s) = false ∧ M7.atKey (kl17r s) (.held .nilFunc) = .held .nilFunc := by
 have n0 : kl17r s ≠ kl17r kArc := fun e => h0 (kl_injr e)
 have n1 : kl17r s ≠ kl17r kFam := fun e => h1 (kl_injr e)
 have n2 : kl17r s ≠ kl17r kSpa := fun e => h2 (kl_injr e)
 have n3 : kl17r s ≠ kl17r kWri := fun e => h3 (kl_injr e)
 have n4 : kl17r s ≠ kl17r kPer := fun e => h4 (kl_injr e)
 have n5 : kl17r s ≠ kl17r kRea := fun e => h5 (kl_injr e)
 have n6 : kl17r s ≠ kl17r kNop := fun e => h6 (kl_injr e)
 have hh : has M7 (kl17r s) = false := by
  unfold M7 M6 M5 M4 M3 M2 M1
  rw [has_put_other n6, has_put_other n5, has_put_other n4, has_put_other n3, has_put_other n2, has_put_other n1, has_put_other n0]
  rfl
 exact ⟨hh, atKey_of_not_has hh _⟩
theorem at_is18 (s : ByteArray) : has M7 (kl17r s) = keyR18 s ∧ M7.atKey (kl17r s) (.held .nilFunc) = .held (atR18 s) := by
 unfold keyR18 atR18
 by_cases h0 : s = kArc
 ·subst h0; rw [if_pos rfl, at_kArc.1]; exact ⟨by simp, at_kArc.2⟩
 by_cases h1 : s = kFam
 ·subst h1; rw [if_neg h0]; rw [if_pos rfl, at_kFam.1]; exact ⟨by simp, at_kFam.2⟩
 by_cases h2 : s = kSpa
 ·subst h2; rw [if_neg h0]; rw [if_neg h1]; rw [if_pos rfl, at_kSpa.1]; exact ⟨by simp, at_kSpa.2⟩
 by_cases h3 : s = kWri
 ·subst h3; rw [if_neg h0]; rw [if_neg h1]; rw [if_neg h2]; rw [if_pos rfl, at_kWri.1]; exact ⟨by simp, at_kWri.2⟩
 by_cases h4 : s = kPer
 ·subst h4; rw [if_neg h0]; rw [if_neg h1]; rw [if_neg h2]; rw [if_neg h3]; rw [if_pos rfl, at_kPer.1]; exact ⟨by simp, at_kPer.2⟩
 by_cases h5 : s = kRea
 ·subst h5; rw [if_neg h0]; rw [if_neg h1]; rw [if_neg h2]; rw [if_neg h3]; rw [if_neg h4]; rw [if_pos rfl, at_kRea.1]; exact ⟨by simp, at_kRea.2⟩
 by_cases h6 : s = kNop
 ·subst h6; rw [if_neg h0]; rw [if_neg h1]; rw [if_neg h2]; rw [if_neg h3]; rw [if_neg h4]; rw [if_neg h5]; rw [if_pos rfl, at_kNop.1]; exact ⟨by simp, at_kNop.2⟩
 ·rw [if_neg h0, if_neg h1, if_neg h2, if_neg h3, if_neg h4, if_neg h5, if_neg h6, (at_oth18 h0 h1 h2 h3 h4 h5 h6).1]; exact ⟨by simp [h0, h1, h2, h3, h4, h5, h6], (at_oth18 h0 h1 h2 h3 h4 h5 h6).2⟩
set_option maxHeartbeats 8000000 in
theorem effects_c18 (w : World) : Calls Tryz.prog 100 #[] w fun e w' => e = .returned (.map (some w.heap.size)) ∧ w'.ownsMap Tryz.prog 9 RV17r w.heap.size 7 M7 ∧ Below w.heap.size w w' := by
 have hmm := @run_makeMap Tryz.prog
 have HK0 := hid (show Go.keyOf Tryz.prog 9 (.string ⟨#[83, 121, 115, 116, 101, 109, 67, 97, 108, 108, 65, 114, 99, 104, 105, 116, 101, 99, 116, 117, 114, 101, 115]⟩) = some (kl17r kArc) from key_of17r kArc (by decide))
 have HK1 := hid (show Go.keyOf Tryz.prog 9 (.string ⟨#[82, 101, 115, 116, 114, 105, 99, 116, 65, 100, 100, 114, 101, 115, 115, 70, 97, 109, 105, 108, 105, 101, 115]⟩) = some (kl17r kFam) from key_of17r kFam (by decide))
 have HK2 := hid (show Go.keyOf Tryz.prog 9 (.string ⟨#[82, 101, 115, 116, 114, 105, 99, 116, 78, 97, 109, 101, 115, 112, 97, 99, 101, 115]⟩) = some (kl17r kSpa) from key_of17r kSpa (by decide))
 have HK3 := hid (show Go.keyOf Tryz.prog 9 (.string ⟨#[77, 101, 109, 111, 114, 121, 68, 101, 110, 121, 87, 114, 105, 116, 101, 69, 120, 101, 99, 117, 116, 101]⟩) = some (kl17r kWri) from key_of17r kWri (by decide))
 have HK4 := hid (show Go.keyOf Tryz.prog 9 (.string ⟨#[76, 111, 99, 107, 80, 101, 114, 115, 111, 110, 97, 108, 105, 116, 121]⟩) = some (kl17r kPer) from key_of17r kPer (by decide))
 have HK5 := hid (show Go.keyOf Tryz.prog 9 (.string ⟨#[82, 101, 115, 116, 114, 105, 99, 116, 82, 101, 97, 108, 116, 105, 109, 101]⟩) = some (kl17r kRea) from key_of17r kRea (by decide))
 have HK6 := hid (show Go.keyOf Tryz.prog 9 (.string ⟨#[78, 111, 78, 101, 119, 80, 114, 105, 118, 105, 108, 101, 103, 101, 115]⟩) = some (kl17r kNop) from key_of17r kNop (by decide))
 have HO := hid (World.ownsMap_made (H := Value) w Tryz.prog 9 RV17r)
 go_enter Tryz.func100, Tryz.ntmps100
 go_wp2_with (first
  | ((with_reducible show wpList _ _ _ (⟨_, .insert _ _ _ _, _, _, _, _⟩ :: _) _ _)
     refine wpList_insert17r _ rfl _ _ _ 133 rfl 9 131 keyed17r Tryz.underlying133 RV17r w.heap.size 0 _ rfl HO.out (by unfold maxLen; omega) (.string ⟨#[83, 121, 115, 116, 101, 109, 67, 97, 108, 108, 65, 114, 99, 104, 105, 116, 101, 99, 116, 117, 114, 101, 115]⟩) _ (kl17r kArc) rfl rfl HK0.out (.held (.func (.func 128) #[] #[])) [] rfl ?_
     intro w1 hown1 hgrow1)
  | ((with_reducible show wpList _ _ _ (⟨_, .insert _ _ _ _, _, _, _, _⟩ :: _) _ _)
     refine wpList_insert17r _ rfl _ _ _ 133 rfl 9 131 keyed17r Tryz.underlying133 RV17r w.heap.size 1 _ rfl hown1 (by unfold maxLen; omega) (.string ⟨#[82, 101, 115, 116, 114, 105, 99, 116, 65, 100, 100, 114, 101, 115, 115, 70, 97, 109, 105, 108, 105, 101, 115]⟩) _ (kl17r kFam) rfl rfl HK1.out (.held (.func (.func 129) #[] #[])) [] rfl ?_
     intro w2 hown2 hgrow2)
  | ((with_reducible show wpList _ _ _ (⟨_, .insert _ _ _ _, _, _, _, _⟩ :: _) _ _)
     refine wpList_insert17r _ rfl _ _ _ 133 rfl 9 131 keyed17r Tryz.underlying133 RV17r w.heap.size 2 _ rfl hown2 (by unfold maxLen; omega) (.string ⟨#[82, 101, 115, 116, 114, 105, 99, 116, 78, 97, 109, 101, 115, 112, 97, 99, 101, 115]⟩) _ (kl17r kSpa) rfl rfl HK2.out (.held (.func (.func 130) #[] #[])) [] rfl ?_
     intro w3 hown3 hgrow3)
  | ((with_reducible show wpList _ _ _ (⟨_, .insert _ _ _ _, _, _, _, _⟩ :: _) _ _)
     refine wpList_insert17r _ rfl _ _ _ 133 rfl 9 131 keyed17r Tryz.underlying133 RV17r w.heap.size 3 _ rfl hown3 (by unfold maxLen; omega) (.string ⟨#[77, 101, 109, 111, 114, 121, 68, 101, 110, 121, 87, 114, 105, 116, 101, 69, 120, 101, 99, 117, 116, 101]⟩) _ (kl17r kWri) rfl rfl HK3.out (.held (.func (.func 131) #[] #[])) [] rfl ?_
     intro w4 hown4 hgrow4)
  | ((with_reducible show wpList _ _ _ (⟨_, .insert _ _ _ _, _, _, _, _⟩ :: _) _ _)
     refine wpList_insert17r _ rfl _ _ _ 133 rfl 9 131 keyed17r Tryz.underlying133 RV17r w.heap.size 4 _ rfl hown4 (by unfold maxLen; omega) (.string ⟨#[76, 111, 99, 107, 80, 101, 114, 115, 111, 110, 97, 108, 105, 116, 121]⟩) _ (kl17r kPer) rfl rfl HK4.out (.held (.func (.func 132) #[] #[])) [] rfl ?_
     intro w5 hown5 hgrow5)
  | ((with_reducible show wpList _ _ _ (⟨_, .insert _ _ _ _, _, _, _, _⟩ :: _) _ _)
     refine wpList_insert17r _ rfl _ _ _ 133 rfl 9 131 keyed17r Tryz.underlying133 RV17r w.heap.size 5 _ rfl hown5 (by unfold maxLen; omega) (.string ⟨#[82, 101, 115, 116, 114, 105, 99, 116, 82, 101, 97, 108, 116, 105, 109, 101]⟩) _ (kl17r kRea) rfl rfl HK5.out (.held (.func (.func 133) #[] #[])) [] rfl ?_
     intro w6 hown6 hgrow6)
  | ((with_reducible show wpList _ _ _ (⟨_, .insert _ _ _ _, _, _, _, _⟩ :: _) _ _)
     refine wpList_insert17r _ rfl _ _ _ 133 rfl 9 131 keyed17r Tryz.underlying133 RV17r w.heap.size 6 _ rfl hown6 (by unfold maxLen; omega) (.string ⟨#[78, 111, 78, 101, 119, 80, 114, 105, 118, 105, 108, 101, 103, 101, 115]⟩) _ (kl17r kNop) rfl rfl HK6.out (.held (.func (.func 134) #[] #[])) [] rfl ?_
     intro w7 hown7 hgrow7))
 go_ret
 exact ⟨rfl, hown7, ((((((((below16 w _).grown hgrow1 (by rw [World.size_alloc]; exact Nat.le_succ _) (fun k e => Nat.le_of_eq (Option.some.inj e))).grown hgrow2 (by have := hgrow1.size; rw [World.size_alloc] at *; omega) (fun k e => Nat.le_of_eq (Option.some.inj e))).grown hgrow3 (by have := hgrow1.size; have := hgrow2.size; rw [World.size_alloc] at *; omega) (fun k e => Nat.le_of_eq (Option.some.inj e))).grown hgrow4 (by have := hgrow1.size; have := hgrow2.size; have := hgrow3.size; rw [World.size_alloc] at *; omega) (fun k e => Nat.le_of_eq (Option.some.inj e))).grown hgrow5 (by have := hgrow1.size; have := hgrow2.size; have := hgrow3.size; have := hgrow4.size; rw [World.size_alloc] at *; omega) (fun k e => Nat.le_of_eq (Option.some.inj e))).grown hgrow6 (by have := hgrow1.size; have := hgrow2.size; have := hgrow3.size; have := hgrow4.size; have := hgrow5.size; rw [World.size_alloc] at *; omega) (fun k e => Nat.le_of_eq (Option.some.inj e))).grown hgrow7 (by have := hgrow1.size; have := hgrow2.size; have := hgrow3.size; have := hgrow4.size; have := hgrow5.size; have := hgrow6.size; rw [World.size_alloc] at *; omega) (fun k e => Nat.le_of_eq (Option.some.inj e)))⟩
set_option maxHeartbeats 8000000 in
theorem key_c18 (s : ByteArray) (hs : s.size ≤ maxLen) (w : World) : Calls Tryz.prog 70 #[.string s] w fun e w' => e = .returned (.bool (keyR18 s)) ∧ Below w.heap.size w w' := by
 have HE := hid (effects_c18 w)
 have HKY := hid (show Go.keyOf Tryz.prog 9 (.string s) = some (kl17r s) from WideMaps.keyOf_string_mk Tryz.underlying9 hs)
 have HAT := hid (at_is18 s)
 clear hs
 go_enter Tryz.func70, Tryz.ntmps70
 go_wp2_with (first
  | (go_at_call 100; ((with_reducible refine (HE.out).mono ?_); rintro e w1 ⟨rfl, o1, b1⟩))
  | (at_lookup; refine lookup17r rfl _ _ 133 rfl 9 131 keyed17r Tryz.underlying133 (zero17r _) w.heap.size 7 rfl o1 _ (kl17r s) rfl HKY.out (atR18 s) (keyR18 s) HAT.out.1 HAT.out.2 ?_))
 go_ret
 exact ⟨rfl, b1⟩
end Go.Proofs.YtlenjfodjkhpmaaGreatDoor
