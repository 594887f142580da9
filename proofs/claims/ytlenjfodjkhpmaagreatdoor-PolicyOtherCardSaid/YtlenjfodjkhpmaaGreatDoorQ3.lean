/- The landed filter's policy with lists of its own; the library's Clone at numbers. Condition: lists of at most 1,000. -/
import Derived.Test.YtlenjfodjkhpmaaGreatDoorD2
import Derived.Maps.Ext
import Derived.Maps.OwnSet
import Derived.Test.YtlenjfodjkhpmaaGreatDoorF2
namespace Go.Proofs.YtlenjfodjkhpmaaGreatDoor
set_option maxRecDepth 100000
open Go.Lib (hid)
open Go.RowKit Go.Maps
set_option linter.unusedVariables false
set_option linter.unusedSimpArgs false
attribute [local go_sem ↓] Go.wp_at_zero Go.wp_at_succ

def RV17 (v : Value) : Option (DataW Value × List MemPlace) := some (.held v, [])
theorem keyed17 : Keyed Tryz.prog 9 := string_keyed Tryz.underlying9
theorem zero17 (w : World) : (zeroValue 126).run Tryz.prog w = .ok .nilFunc w := by kernel_rfl
theorem wpList_insert17 {H : Type} {P : Program} (w : World) {ops : Array Oper} {rest : List Oper} {o : Oper} {a : Act} {Q : Exit → Act → World → Prop}
 (hg : o.guard = none) (m x v : Operand) (t : TypeId) (hop : o.op = Op.insert t m x v)
 (k e : TypeId) (K : Keyed P k) (ht : P.underlying t = some (.map k e)) (R : Value → Option (DataW H × List MemPlace)) (b n : Nat) (D : DataW H)
 (hm : a.eval m = .map (some b)) (hown : w.ownsMap P k R b n D) (hn : n < maxLen) (key val : Value) (kl : Lit) (hx : a.eval x = key) (hv : a.eval v = val) (hkey : Go.keyOf P k key = some kl)
 (d : DataW H) (ps : List MemPlace) (hval : R val = some (d, ps))
 (hK : ∀ w', w'.ownsMap P k R b (n + 1) (D.put kl d) → w.grownBy w' (some b) → wpList P ops Q rest (a.put o.dst undef) w') :
 wpList P ops Q (o :: rest) a w := by
 refine wpList_plain hg fun K' hK' => ?_
 obtain ⟨w', hrun, r1, r2⟩ := hown.update K ht hn hkey hval
 unfold Oper.wp
 simp [execOp, hop, hm, hx, hv, hrun, Result.andThen]
 exact hK' _ _ (hK w' r1 r2)
theorem lookup17 {P : Program} {w : World} {ops : Array Oper} {rest : List Oper} {o : Oper} {a : Act} {Q : Exit → Act → World → Prop} (hg : o.guard = none) (m x : Operand) (t : TypeId) (hop : o.op = Op.lookup t m x true)
 (k e : TypeId) (K : Keyed P k) (ht : P.underlying t = some (.map k e)) {z : Value} (hz : (zeroValue e).run P w = .ok z w) (b n : Nat) {D : DataW Value}
 (hm : a.eval m = .map (some b)) (hown : w.ownsMap P k RV17 b n D) (key : Value) (kl : Lit) (hx : a.eval x = key) (hkey : Go.keyOf P k key = some kl) (v : Value) (ok : Bool) (hok : has D kl = ok) (hv : D.atKey kl (.held z) = .held v)
 (hK : wpList P ops Q rest (a.put o.dst (.tuple #[v, .bool ok])) w) : wpList P ops Q (o :: rest) a w :=
 wpList_lookup_own_ok w hg m x t hop k e K ht RV17 hz (.held z) [] rfl b n D hm hown key kl hx hkey fun v' ps h => by
  have e1 := congrArg (fun q => q.1) (Option.some.inj h)
  have e2 : DataW.held v' = .held v := (show DataW.held v' = D.atKey kl (.held z) from e1).trans hv
  injection e2 with e2
  rw [e2, hok]; exact hK
def kl17 (s : ByteArray) : Lit := .string s.data.toList
theorem lit17 (s : ByteArray) : WideAt.IsKeyLit (kl17 s) := by unfold kl17; exact trivial
theorem kl_inj {a b : ByteArray} (h : kl17 a = kl17 b) : a = b := list_of_bytes10 (by rw [ByteArray.toList_eq, ByteArray.toList_eq]; exact Lit.string.inj h)
theorem key_of17 (s : ByteArray) (h : s.size ≤ 1000) : Go.keyOf Tryz.prog 9 (.string s) = some (kl17 s) := WideMaps.keyOf_string_mk Tryz.underlying9 (Nat.le_trans h (by unfold maxLen; omega))
def D1 : DataW Value := (DataW.map []).put (kl17 kFil) (.held (.func (.func 120) #[] #[]))
def D2 : DataW Value := D1.put (kl17 kLog) (.held (.func (.func 122) #[] #[]))
def D3 : DataW Value := D2.put (kl17 kErr) (.held (.func (.func 123) #[] #[]))
theorem isMap1 : IsMap D1 := isMap_empty.put _ _
theorem isMap2 : IsMap D2 := isMap1.put _ _
def atF (s : ByteArray) : Value := if s = kFil then (.func (.func 120) #[] #[]) else if s = kLog then (.func (.func 122) #[] #[]) else if s = kErr then (.func (.func 123) #[] #[]) else .nilFunc
theorem at_fil : has D3 (kl17 kFil) = true ∧ D3.atKey (kl17 kFil) (.held .nilFunc) = .held (.func (.func 120) #[] #[]) := by
 have n1 : kl17 kFil ≠ kl17 kErr := fun e => absurd (kl_inj e) (by decide)
 have n2 : kl17 kFil ≠ kl17 kLog := fun e => absurd (kl_inj e) (by decide)
 unfold D3 D2
 rw [has_put_other n1, has_put_other n2, atKey_put_other n1, atKey_put_other n2]
 exact ⟨has_put_same isMap_empty (lit17 _) _, atKey_put_same isMap_empty (lit17 _) _ _⟩
theorem at_log : has D3 (kl17 kLog) = true ∧ D3.atKey (kl17 kLog) (.held .nilFunc) = .held (.func (.func 122) #[] #[]) := by
 have n1 : kl17 kLog ≠ kl17 kErr := fun e => absurd (kl_inj e) (by decide)
 unfold D3
 rw [has_put_other n1, atKey_put_other n1]
 exact ⟨has_put_same isMap1 (lit17 _) _, atKey_put_same isMap1 (lit17 _) _ _⟩
theorem at_err : has D3 (kl17 kErr) = true ∧ D3.atKey (kl17 kErr) (.held .nilFunc) = .held (.func (.func 123) #[] #[]) := ⟨has_put_same isMap2 (lit17 _) _, atKey_put_same isMap2 (lit17 _) _ _⟩
theorem at_oth {s : ByteArray} (h1 : s ≠ kFil) (h2 : s ≠ kLog) (h3 : s ≠ kErr) : has D3 (kl17 s) = false ∧ D3.atKey (kl17 s) (.held .nilFunc) = .held .nilFunc := by
 have n1 : kl17 s ≠ kl17 kFil := fun e => h1 (kl_inj e)
 have n2 : kl17 s ≠ kl17 kLog := fun e => h2 (kl_inj e)
 have n3 : kl17 s ≠ kl17 kErr := fun e => h3 (kl_inj e)
 have hh : has D3 (kl17 s) = false := by
  unfold D3 D2 D1
  rw [has_put_other n3, has_put_other n2, has_put_other n1]
  rfl
 exact ⟨hh, atKey_of_not_has hh _⟩
theorem at_is (s : ByteArray) : has D3 (kl17 s) = keyF s ∧ D3.atKey (kl17 s) (.held .nilFunc) = .held (atF s) := by
 unfold keyF atF
 by_cases h1 : s = kFil
 ·subst h1; rw [if_pos rfl, at_fil.1]; exact ⟨by simp, at_fil.2⟩
 by_cases h2 : s = kLog
 ·subst h2; rw [if_neg h1, if_pos rfl, at_log.1]; exact ⟨by simp, at_log.2⟩
 by_cases h3 : s = kErr
 ·subst h3; rw [if_neg h1, if_neg h2, if_pos rfl, at_err.1]; exact ⟨by simp, at_err.2⟩
 ·rw [if_neg h1, if_neg h2, if_neg h3, (at_oth h1 h2 h3).1]; exact ⟨by simp [h1, h2, h3], (at_oth h1 h2 h3).2⟩
set_option maxHeartbeats 8000000 in
theorem effects_c17 (w : World) : Calls Tryz.prog 98 #[] w fun e w' => e = .returned (.map (some w.heap.size)) ∧ w'.ownsMap Tryz.prog 9 RV17 w.heap.size 3 D3 ∧ Below w.heap.size w w' := by
 have hmm := @run_makeMap Tryz.prog
 have HK1 := hid (show Go.keyOf Tryz.prog 9 (.string ⟨#[83, 121, 115, 116, 101, 109, 67, 97, 108, 108, 70, 105, 108, 116, 101, 114]⟩) = some (kl17 kFil) from key_of17 kFil (by decide))
 have HK2 := hid (show Go.keyOf Tryz.prog 9 (.string ⟨#[83, 121, 115, 116, 101, 109, 67, 97, 108, 108, 76, 111, 103]⟩) = some (kl17 kLog) from key_of17 kLog (by decide))
 have HK3 := hid (show Go.keyOf Tryz.prog 9 (.string ⟨#[83, 121, 115, 116, 101, 109, 67, 97, 108, 108, 69, 114, 114, 111, 114, 78, 117, 109, 98, 101, 114]⟩) = some (kl17 kErr) from key_of17 kErr (by decide))
 have HO := hid (World.ownsMap_made (H := Value) w Tryz.prog 9 RV17)
 go_enter Tryz.func98, Tryz.ntmps98
 go_wp2_with (first
  | ((with_reducible show wpList _ _ _ (⟨_, .insert _ _ _ _, _, _, _, _⟩ :: _) _ _)
     refine wpList_insert17 _ rfl _ _ _ 128 rfl 9 126 keyed17 Tryz.underlying128 RV17 w.heap.size 0 _ rfl HO.out (by unfold maxLen; omega) (.string ⟨#[83, 121, 115, 116, 101, 109, 67, 97, 108, 108, 70, 105, 108, 116, 101, 114]⟩) _ (kl17 kFil) rfl rfl HK1.out (.held (.func (.func 120) #[] #[])) [] rfl ?_
     intro w1 hown1 hgrow1)
  | ((with_reducible show wpList _ _ _ (⟨_, .insert _ _ _ _, _, _, _, _⟩ :: _) _ _)
     refine wpList_insert17 _ rfl _ _ _ 128 rfl 9 126 keyed17 Tryz.underlying128 RV17 w.heap.size 1 _ rfl hown1 (by unfold maxLen; omega) (.string ⟨#[83, 121, 115, 116, 101, 109, 67, 97, 108, 108, 76, 111, 103]⟩) _ (kl17 kLog) rfl rfl HK2.out (.held (.func (.func 122) #[] #[])) [] rfl ?_
     intro w2 hown2 hgrow2)
  | ((with_reducible show wpList _ _ _ (⟨_, .insert _ _ _ _, _, _, _, _⟩ :: _) _ _)
     refine wpList_insert17 _ rfl _ _ _ 128 rfl 9 126 keyed17 Tryz.underlying128 RV17 w.heap.size 2 _ rfl hown2 (by unfold maxLen; omega) (.string ⟨#[83, 121, 115, 116, 101, 109, 67, 97, 108, 108, 69, 114, 114, 111, 114, 78, 117, 109, 98, 101, 114]⟩) _ (kl17 kErr) rfl rfl HK3.out (.held (.func (.func 123) #[] #[])) [] rfl ?_
     intro w3 hown3 hgrow3))
 go_ret
 exact ⟨rfl, hown3, (((below16 w _).grown hgrow1 (by rw [World.size_alloc]; exact Nat.le_succ _) (fun k e => Nat.le_of_eq (Option.some.inj e))).grown hgrow2 (by have := hgrow1.size; rw [World.size_alloc] at this; omega) (fun k e => Nat.le_of_eq (Option.some.inj e))).grown hgrow3 (by have := hgrow1.size; have := hgrow2.size; rw [World.size_alloc] at *; omega) (fun k e => Nat.le_of_eq (Option.some.inj e))⟩
set_option maxHeartbeats 8000000 in
theorem key_c17 (s : ByteArray) (hs : s.size ≤ maxLen) (w : World) : Calls Tryz.prog 68 #[.string s] w fun e w' => e = .returned (.bool (keyF s)) ∧ Below w.heap.size w w' := by
 have HE := hid (effects_c17 w)
 have HKY := hid (show Go.keyOf Tryz.prog 9 (.string s) = some (kl17 s) from WideMaps.keyOf_string_mk Tryz.underlying9 hs)
 have HAT := hid (at_is s)
 clear hs
 go_enter Tryz.func68, Tryz.ntmps68
 go_wp2_with (first
  | (go_at_call 98; ((with_reducible refine (HE.out).mono ?_); rintro e w1 ⟨rfl, o1, b1⟩))
  | (at_lookup; refine lookup17 rfl _ _ 128 rfl 9 126 keyed17 Tryz.underlying128 (zero17 _) w.heap.size 3 rfl o1 _ (kl17 s) rfl HKY.out (atF s) (keyF s) HAT.out.1 HAT.out.2 ?_))
 go_ret
 exact ⟨rfl, b1⟩
set_option maxRecDepth 100000
open Go.Lib (hid)
open Go.RowKit
set_option linter.unusedVariables false
set_option linter.unusedSimpArgs false
attribute [local go_sem ↓] Go.wp_at_zero Go.wp_at_succ

set_option maxHeartbeats 4000000 in
theorem clone_i17 (q : Option Addr) (n c : Nat) (L : List Int) (w : World) (hl : n = L.length) (hn : n ≤ 100000) (h : NumsAt .i64 w q L) : Calls Tryz.prog 125 #[.slice q n c] w fun e w' => ∃ q' c', e = .returned (.slice q' n c') ∧ w'.ownsRow w.heap.size 3 1 (.slice q' n c') n (L.map (Value.int .i64)) ∧ Below w.heap.size w w' := by
 have q22 : ∀ (w : World) (a : Option Addr) (n c n' c' : Nat), (binOp .eql 24 (.slice a n c) (.slice none n' c')).run Tryz.prog w = .ok (.bool a.isNone) w := fun w a n c n' c' => Lib.run_eql_slice_nil w _ _ a n c n' c' Tryz.underlying24
 cases q with
 | none =>
  obtain rfl : L = [] := by
   cases L with
   | nil => rfl
   | cons x r => obtain ⟨g, o, e, _⟩ := h 0 x rfl; cases e
  obtain rfl : n = 0 := hl
  clear h hn
  go_enter Tryz.func125, Tryz.ntmps125
  go_wp2
  go_ret
  exact ⟨none, 0, rfl, World.ownsRow_nil _ _ _ _, Below.refl _ _⟩
 | some ad =>
  obtain ⟨i0, hi0, hz0, hz1, hz2⟩ := info_parts (show (Tryz.prog.info? 3).map (fun i => (i.zero, i.size, i.bytes)) = some (some (.int .i64 0), 1, 8) by kernel_rfl)
  have HI := hid hi0
  have HZ0 := hid hz0
  have HZ1 := hid hz1
  have HZ2 := hid hz2
  have HN := hid (show ∀ j u, (L.map (Value.int .i64))[j]? = some u → w.cell? (ad.add j) = some u from fun j u hu => by
   have h0 : 0 < L.length := by
    rcases Nat.eq_zero_or_pos L.length with e | e
    ·rw [List.eq_nil_of_length_eq_zero e] at hu; simp at hu
    ·exact e
   obtain ⟨ad', e, hc⟩ := nums_flat17 h h0
   injection e with e
   subst e
   exact hc j u hu)
  have HL := hid hl
  have HM := hid hn
  clear hi0 hz0 hz1 hz2 h hl hn
  go_enter Tryz.func125, Tryz.ntmps125
  go_wp2_with (at_builtin
               go_loud (refine wpList_append_own _ rfl _ _ 24 rfl w.heap.size 3 i0 _ 1 8 Tryz.underlying24 HI.out HZ0.out HZ1.out HZ2.out rfl (by decide) _ _ _ rfl (World.ownsRow_made w #[] 0 (Nat.le_refl _) (Nat.zero_le _) rfl) ad n c (L.map (Value.int .i64)) rfl ?qc1 ?qc2 ?qc3 ?qc4 ?qc5 ?qc6 ?_))
  case qc1 => rw [List.length_map, HL.out, Nat.mul_one]
  case qc2 => exact fun j u hu => cell_alloc16 (HN.out j u hu)
  case qc3 => exact nums_one17 _ _
  case qc4 => have := HM.out; unfold maxLen; omega
  case qc5 => have := HM.out; omega
  case qc6 => rw [World.size_alloc]; exact Nat.le_succ _
  intro v' w' h1 h2 h3
  obtain ⟨q', c', rfl⟩ := own16 h1
  go_wp2
  go_ret
  exact ⟨q', c', rfl, by simpa using h1, (below16 w _).grown h2 (by rw [World.size_alloc]; exact Nat.le_succ _) (fun k e => Nat.le_of_eq (Option.some.inj e))⟩
set_option maxHeartbeats 4000000 in
theorem clone_u17 (q : Option Addr) (n c : Nat) (L : List Int) (w : World) (hl : n = L.length) (hn : n ≤ 100000) (h : NumsAt .u32 w q L) : Calls Tryz.prog 127 #[.slice q n c] w fun e w' => ∃ q' c', e = .returned (.slice q' n c') ∧ w'.ownsRow w.heap.size 28 1 (.slice q' n c') n (L.map (Value.int .u32)) ∧ Below w.heap.size w w' := by
 have q22 : ∀ (w : World) (a : Option Addr) (n c n' c' : Nat), (binOp .eql 29 (.slice a n c) (.slice none n' c')).run Tryz.prog w = .ok (.bool a.isNone) w := fun w a n c n' c' => Lib.run_eql_slice_nil w _ _ a n c n' c' Tryz.underlying29
 cases q with
 | none =>
  obtain rfl : L = [] := by
   cases L with
   | nil => rfl
   | cons x r => obtain ⟨g, o, e, _⟩ := h 0 x rfl; cases e
  obtain rfl : n = 0 := hl
  clear h hn
  go_enter Tryz.func127, Tryz.ntmps127
  go_wp2
  go_ret
  exact ⟨none, 0, rfl, World.ownsRow_nil _ _ _ _, Below.refl _ _⟩
 | some ad =>
  obtain ⟨i0, hi0, hz0, hz1, hz2⟩ := info_parts (show (Tryz.prog.info? 28).map (fun i => (i.zero, i.size, i.bytes)) = some (some (.int .u32 0), 1, 4) by kernel_rfl)
  have HI := hid hi0
  have HZ0 := hid hz0
  have HZ1 := hid hz1
  have HZ2 := hid hz2
  have HN := hid (show ∀ j u, (L.map (Value.int .u32))[j]? = some u → w.cell? (ad.add j) = some u from fun j u hu => by
   have h0 : 0 < L.length := by
    rcases Nat.eq_zero_or_pos L.length with e | e
    ·rw [List.eq_nil_of_length_eq_zero e] at hu; simp at hu
    ·exact e
   obtain ⟨ad', e, hc⟩ := nums_flat17 h h0
   injection e with e
   subst e
   exact hc j u hu)
  have HL := hid hl
  have HM := hid hn
  clear hi0 hz0 hz1 hz2 h hl hn
  go_enter Tryz.func127, Tryz.ntmps127
  go_wp2_with (at_builtin
               go_loud (refine wpList_append_own _ rfl _ _ 29 rfl w.heap.size 28 i0 _ 1 4 Tryz.underlying29 HI.out HZ0.out HZ1.out HZ2.out rfl (by decide) _ _ _ rfl (World.ownsRow_made w #[] 0 (Nat.le_refl _) (Nat.zero_le _) rfl) ad n c (L.map (Value.int .u32)) rfl ?qc1 ?qc2 ?qc3 ?qc4 ?qc5 ?qc6 ?_))
  case qc1 => rw [List.length_map, HL.out, Nat.mul_one]
  case qc2 => exact fun j u hu => cell_alloc16 (HN.out j u hu)
  case qc3 => exact nums_one17 _ _
  case qc4 => have := HM.out; unfold maxLen; omega
  case qc5 => have := HM.out; omega
  case qc6 => rw [World.size_alloc]; exact Nat.le_succ _
  intro v' w' h1 h2 h3
  obtain ⟨q', c', rfl⟩ := own16 h1
  go_wp2
  go_ret
  exact ⟨q', c', rfl, by simpa using h1, (below16 w _).grown h2 (by rw [World.size_alloc]; exact Nat.le_succ _) (fun k e => Nat.le_of_eq (Option.some.inj e))⟩
set_option maxHeartbeats 16000000 in
theorem own_c17 (p : Pls) (P : Pol) (w : World) (hP : PolAt w p P) (ha : p.an ≤ 1000) (hfl : p.fn ≤ 1000) (hll : p.ln ≤ 1000) (hm : p.mn ≤ 1000) : Calls Tryz.prog 99 #[plV p P] w fun e w' => ∃ p', e = .returned (plV p' P) ∧ OwnP w.heap.size w' p' P ∧ Below w.heap.size w w' := by
 obtain ⟨aq, an, ac, fq, fn, fc, lq, ln, lc, mq, mn, mc⟩ := p
 simp only at ha hfl hll hm
 obtain ⟨NM, hNM⟩ : ∃ l : List Int, l = P.fa.map fun (x : Nat) => (x : Int) := ⟨_, rfl⟩
 have HNM := hid hNM
 have HL0 := hid (show an = P.ar.length from hP.al)
 have HL1 := hid (show mn = NM.length by rw [hNM, List.length_map]; exact hP.ml)
 have HF := hid (show fn = P.fl.2.length from hP.fl)
 have HG := hid (show ln = P.lg.2.length from hP.ll)
 have HC0 := hid (fun (X : World) (b : Below w.heap.size w X) => clone_i17 aq an ac P.ar X hP.al (by omega) (hP.ar.on b))
 have HC1 := hid (fun (X : World) (b : Below w.heap.size w X) => clone_l fq fn fc P.fl.2 X hP.fl (by omega) (hP.fi.on b))
 have HC2 := hid (fun (X : World) (b : Below w.heap.size w X) => clone_l lq ln lc P.lg.2 X hP.ll (by omega) (hP.lo.on b))
 have HC3 := hid (fun (X : World) (b : Below w.heap.size w X) => clone_u17 mq mn mc NM X HL1.out (by omega) (by rw [hNM]; exact hP.fa.on b))
 obtain ⟨W, hW⟩ : ∃ W, W = (w.alloc (.cells #[.slice aq an ac, .int .u8 (P.fl.1 : Nat), .slice fq fn fc, .int .u32 (P.dn : Nat), .int .u8 (P.lg.1 : Nat), .slice lq ln lc, .slice mq mn mc, .int .u8 (P.fm : Nat), .int .u64 (P.sp : Nat), .bool P.b1, .bool P.b2, .bool P.b3, .bool P.b4] 32)).alloc (.cells #[.slice none 0 0, .int .u8 0, .slice none 0 0, .int .u32 0, .int .u8 0, .slice none 0 0, .slice none 0 0, .int .u8 0, .int .u64 0, .bool false, .bool false, .bool false, .bool false] 32) := ⟨_, rfl⟩
 have CWW := hid (show C17 w ⟨aq, an, ac, fq, fn, fc, lq, ln, lc, mq, mn, mc⟩ P W from
  ⟨hW ▸ ((Below.refl _ _).alloc (Nat.le_refl _) _).alloc (by rw [World.size_alloc]; exact Nat.le_succ _) _, by rw [hW]; exact (Below.heap_alloc _ _ _ (by rw [World.size_alloc]; exact Nat.lt_succ_self _)).trans (heap_alloc_new w _), by rw [hW, ← World.size_alloc w]; exact heap_alloc_new _ _⟩)
 have HWW := hid hW
 rw [show plV ⟨aq, an, ac, fq, fn, fc, lq, ln, lc, mq, mn, mc⟩ P = .agg #[.slice aq an ac, .int .u8 (P.fl.1 : Nat), .slice fq fn fc, .int .u32 (P.dn : Nat), .int .u8 (P.lg.1 : Nat), .slice lq ln lc, .slice mq mn mc, .int .u8 (P.fm : Nat), .int .u64 (P.sp : Nat), .bool P.b1, .bool P.b2, .bool P.b3, .bool P.b4] from rfl]
 clear hP hNM hW
 go_enter Tryz.func99, Tryz.ntmps99
 go_wp2_with (first
 | (go_at_call 125
    rw [← HWW.out]
    ((with_reducible refine (HC0.out W CWW.out.bel).mono ?_); rintro e w1 ⟨qA, cA, rfl, o6, b⟩)
    have CWw1 := hid (CWW.out.on b)
    have RAw1 := hid (owns_low16 o6 CWW.out.bel.size)
    clear o6 b)
 | ((with_reducible show wpList _ _ _ (⟨none, .store 24 (.tmp 6) (.tmp 5), _, _, _, _⟩ :: _) _ _)
    refine wpList_store_cell17 rfl 24 (.tmp 6) (.tmp 5) rfl w.heap.size 0 (.slice qA an cA) (by rfl) (by rfl) rfl (there_row17 CWw1.out.pol (show 0 + 1 ≤ 13 by decide)) (by kernel_rfl) ?_
    have CWY1 := hid (CWw1.out.store (p' := ⟨qA, an, cA, fq, fn, fc, lq, ln, lc, mq, mn, mc⟩) 0 [.slice qA an cA] (show 0 + 1 ≤ 13 by decide) rfl)
    have RAY1 := hid (rows_box17 (i := 0) CWw1.out.pol (by decide) RAw1.out [.slice qA an cA])
    generalize w1.setCells w.heap.size 0 [.slice qA an cA] = Y1 at CWY1 RAY1 ⊢
    obtain ⟨f0, f1, f2, f3, f4, f5, f6, f7, f8, f9, f10, f11, f12⟩ := (show Y1.cell? ⟨w.heap.size, 0, none⟩ = some (.slice qA an cA) ∧ Y1.cell? ⟨w.heap.size, 1, none⟩ = some (.int .u8 (P.fl.1 : Nat)) ∧ Y1.cell? ⟨w.heap.size, 2, none⟩ = some (.slice fq fn fc) ∧ Y1.cell? ⟨w.heap.size, 3, none⟩ = some (.int .u32 (P.dn : Nat)) ∧ Y1.cell? ⟨w.heap.size, 4, none⟩ = some (.int .u8 (P.lg.1 : Nat)) ∧ Y1.cell? ⟨w.heap.size, 5, none⟩ = some (.slice lq ln lc) ∧ Y1.cell? ⟨w.heap.size, 6, none⟩ = some (.slice mq mn mc) ∧ Y1.cell? ⟨w.heap.size, 7, none⟩ = some (.int .u8 (P.fm : Nat)) ∧ Y1.cell? ⟨w.heap.size, 8, none⟩ = some (.int .u64 (P.sp : Nat)) ∧ Y1.cell? ⟨w.heap.size, 9, none⟩ = some (.bool P.b1) ∧ Y1.cell? ⟨w.heap.size, 10, none⟩ = some (.bool P.b2) ∧ Y1.cell? ⟨w.heap.size, 11, none⟩ = some (.bool P.b3) ∧ Y1.cell? ⟨w.heap.size, 12, none⟩ = some (.bool P.b4) from pcells17 CWY1.out.pol)
    clear CWw1 RAw1)
 | (go_at_call 126
    skip
    ((with_reducible refine (HC1.out Y1 CWY1.out.bel).mono ?_); rintro e w2 ⟨qF, cF, rfl, o6, b⟩)
    have CWw2 := hid (CWY1.out.on b)
    have RFw2 := hid (owns_low16 o6 CWY1.out.bel.size)
    have RAw2 := hid (owns_on16 RAY1.out b)
    clear o6 b)
 | ((with_reducible show wpList _ _ _ (⟨none, .store 25 (.tmp 12) (.tmp 10), _, _, _, _⟩ :: _) _ _)
    refine wpList_store_cell17 rfl 25 (.tmp 12) (.tmp 10) rfl w.heap.size 2 (.slice qF fn cF) (by rfl) (by rfl) rfl (there_row17 CWw2.out.pol (show 2 + 1 ≤ 13 by decide)) (by kernel_rfl) ?_
    have CWY2 := hid (CWw2.out.store (p' := ⟨qA, an, cA, qF, fn, cF, lq, ln, lc, mq, mn, mc⟩) 2 [.slice qF fn cF] (show 2 + 1 ≤ 13 by decide) rfl)
    have RAY2 := hid (rows_box17 (i := 2) CWw2.out.pol (by decide) RAw2.out [.slice qF fn cF])
    have RFY2 := hid (rows_box17 (i := 2) CWw2.out.pol (by decide) RFw2.out [.slice qF fn cF])
    generalize w2.setCells w.heap.size 2 [.slice qF fn cF] = Y2 at CWY2 RAY2 RFY2 ⊢
    obtain ⟨f0, f1, f2, f3, f4, f5, f6, f7, f8, f9, f10, f11, f12⟩ := (show Y2.cell? ⟨w.heap.size, 0, none⟩ = some (.slice qA an cA) ∧ Y2.cell? ⟨w.heap.size, 1, none⟩ = some (.int .u8 (P.fl.1 : Nat)) ∧ Y2.cell? ⟨w.heap.size, 2, none⟩ = some (.slice qF fn cF) ∧ Y2.cell? ⟨w.heap.size, 3, none⟩ = some (.int .u32 (P.dn : Nat)) ∧ Y2.cell? ⟨w.heap.size, 4, none⟩ = some (.int .u8 (P.lg.1 : Nat)) ∧ Y2.cell? ⟨w.heap.size, 5, none⟩ = some (.slice lq ln lc) ∧ Y2.cell? ⟨w.heap.size, 6, none⟩ = some (.slice mq mn mc) ∧ Y2.cell? ⟨w.heap.size, 7, none⟩ = some (.int .u8 (P.fm : Nat)) ∧ Y2.cell? ⟨w.heap.size, 8, none⟩ = some (.int .u64 (P.sp : Nat)) ∧ Y2.cell? ⟨w.heap.size, 9, none⟩ = some (.bool P.b1) ∧ Y2.cell? ⟨w.heap.size, 10, none⟩ = some (.bool P.b2) ∧ Y2.cell? ⟨w.heap.size, 11, none⟩ = some (.bool P.b3) ∧ Y2.cell? ⟨w.heap.size, 12, none⟩ = some (.bool P.b4) from pcells17 CWY2.out.pol)
    clear CWw2 RAw2 RFw2)
 | (go_at_call 126
    skip
    ((with_reducible refine (HC2.out Y2 CWY2.out.bel).mono ?_); rintro e w3 ⟨qG, cG, rfl, o6, b⟩)
    have CWw3 := hid (CWY2.out.on b)
    have RGw3 := hid (owns_low16 o6 CWY2.out.bel.size)
    have RAw3 := hid (owns_on16 RAY2.out b)
    have RFw3 := hid (owns_on16 RFY2.out b)
    clear o6 b)
 | ((with_reducible show wpList _ _ _ (⟨none, .store 25 (.tmp 18) (.tmp 16), _, _, _, _⟩ :: _) _ _)
    refine wpList_store_cell17 rfl 25 (.tmp 18) (.tmp 16) rfl w.heap.size 5 (.slice qG ln cG) (by rfl) (by rfl) rfl (there_row17 CWw3.out.pol (show 5 + 1 ≤ 13 by decide)) (by kernel_rfl) ?_
    have CWY3 := hid (CWw3.out.store (p' := ⟨qA, an, cA, qF, fn, cF, qG, ln, cG, mq, mn, mc⟩) 5 [.slice qG ln cG] (show 5 + 1 ≤ 13 by decide) rfl)
    have RAY3 := hid (rows_box17 (i := 5) CWw3.out.pol (by decide) RAw3.out [.slice qG ln cG])
    have RFY3 := hid (rows_box17 (i := 5) CWw3.out.pol (by decide) RFw3.out [.slice qG ln cG])
    have RGY3 := hid (rows_box17 (i := 5) CWw3.out.pol (by decide) RGw3.out [.slice qG ln cG])
    generalize w3.setCells w.heap.size 5 [.slice qG ln cG] = Y3 at CWY3 RAY3 RFY3 RGY3 ⊢
    obtain ⟨f0, f1, f2, f3, f4, f5, f6, f7, f8, f9, f10, f11, f12⟩ := (show Y3.cell? ⟨w.heap.size, 0, none⟩ = some (.slice qA an cA) ∧ Y3.cell? ⟨w.heap.size, 1, none⟩ = some (.int .u8 (P.fl.1 : Nat)) ∧ Y3.cell? ⟨w.heap.size, 2, none⟩ = some (.slice qF fn cF) ∧ Y3.cell? ⟨w.heap.size, 3, none⟩ = some (.int .u32 (P.dn : Nat)) ∧ Y3.cell? ⟨w.heap.size, 4, none⟩ = some (.int .u8 (P.lg.1 : Nat)) ∧ Y3.cell? ⟨w.heap.size, 5, none⟩ = some (.slice qG ln cG) ∧ Y3.cell? ⟨w.heap.size, 6, none⟩ = some (.slice mq mn mc) ∧ Y3.cell? ⟨w.heap.size, 7, none⟩ = some (.int .u8 (P.fm : Nat)) ∧ Y3.cell? ⟨w.heap.size, 8, none⟩ = some (.int .u64 (P.sp : Nat)) ∧ Y3.cell? ⟨w.heap.size, 9, none⟩ = some (.bool P.b1) ∧ Y3.cell? ⟨w.heap.size, 10, none⟩ = some (.bool P.b2) ∧ Y3.cell? ⟨w.heap.size, 11, none⟩ = some (.bool P.b3) ∧ Y3.cell? ⟨w.heap.size, 12, none⟩ = some (.bool P.b4) from pcells17 CWY3.out.pol)
    clear CWw3 RAw3 RFw3 RGw3)
 | (go_at_call 127
    skip
    ((with_reducible refine (HC3.out Y3 CWY3.out.bel).mono ?_); rintro e w4 ⟨qM, cM, rfl, o6, b⟩)
    have CWw4 := hid (CWY3.out.on b)
    have RMw4 := hid (owns_low16 o6 CWY3.out.bel.size)
    have RAw4 := hid (owns_on16 RAY3.out b)
    have RFw4 := hid (owns_on16 RFY3.out b)
    have RGw4 := hid (owns_on16 RGY3.out b)
    clear o6 b)
 | ((with_reducible show wpList _ _ _ (⟨none, .store 29 (.tmp 22) (.tmp 21), _, _, _, _⟩ :: _) _ _)
    refine wpList_store_cell17 rfl 29 (.tmp 22) (.tmp 21) rfl w.heap.size 6 (.slice qM mn cM) (by rfl) (by rfl) rfl (there_row17 CWw4.out.pol (show 6 + 1 ≤ 13 by decide)) (by kernel_rfl) ?_
    have CWY4 := hid (CWw4.out.store (p' := ⟨qA, an, cA, qF, fn, cF, qG, ln, cG, qM, mn, cM⟩) 6 [.slice qM mn cM] (show 6 + 1 ≤ 13 by decide) rfl)
    have RAY4 := hid (rows_box17 (i := 6) CWw4.out.pol (by decide) RAw4.out [.slice qM mn cM])
    have RFY4 := hid (rows_box17 (i := 6) CWw4.out.pol (by decide) RFw4.out [.slice qM mn cM])
    have RGY4 := hid (rows_box17 (i := 6) CWw4.out.pol (by decide) RGw4.out [.slice qM mn cM])
    have RMY4 := hid (rows_box17 (i := 6) CWw4.out.pol (by decide) RMw4.out [.slice qM mn cM])
    generalize w4.setCells w.heap.size 6 [.slice qM mn cM] = Y4 at CWY4 RAY4 RFY4 RGY4 RMY4 ⊢
    obtain ⟨f0, f1, f2, f3, f4, f5, f6, f7, f8, f9, f10, f11, f12⟩ := (show Y4.cell? ⟨w.heap.size, 0, none⟩ = some (.slice qA an cA) ∧ Y4.cell? ⟨w.heap.size, 1, none⟩ = some (.int .u8 (P.fl.1 : Nat)) ∧ Y4.cell? ⟨w.heap.size, 2, none⟩ = some (.slice qF fn cF) ∧ Y4.cell? ⟨w.heap.size, 3, none⟩ = some (.int .u32 (P.dn : Nat)) ∧ Y4.cell? ⟨w.heap.size, 4, none⟩ = some (.int .u8 (P.lg.1 : Nat)) ∧ Y4.cell? ⟨w.heap.size, 5, none⟩ = some (.slice qG ln cG) ∧ Y4.cell? ⟨w.heap.size, 6, none⟩ = some (.slice qM mn cM) ∧ Y4.cell? ⟨w.heap.size, 7, none⟩ = some (.int .u8 (P.fm : Nat)) ∧ Y4.cell? ⟨w.heap.size, 8, none⟩ = some (.int .u64 (P.sp : Nat)) ∧ Y4.cell? ⟨w.heap.size, 9, none⟩ = some (.bool P.b1) ∧ Y4.cell? ⟨w.heap.size, 10, none⟩ = some (.bool P.b2) ∧ Y4.cell? ⟨w.heap.size, 11, none⟩ = some (.bool P.b3) ∧ Y4.cell? ⟨w.heap.size, 12, none⟩ = some (.bool P.b4) from pcells17 CWY4.out.pol)
    clear CWw4 RAw4 RFw4 RGw4 RMw4)
 | ((with_reducible show wpList _ _ _ (⟨none, .store 32 (.tmp 2) (.tmp 23), _, _, _, _⟩ :: _) _ _)
    refine wpList_store_mid rfl 32 (.tmp 2) (.tmp 23) rfl (w.heap.size + 1) 0 (plC ⟨qA, an, cA, qF, fn, cF, qG, ln, cG, qM, mn, cM⟩ P).toArray (by rfl) (by rfl) (there_row17 CWY4.out.res (show 0 + 13 ≤ 13 by decide)) pl_info (plC_one _ _) ?_
    show wpList _ _ _ _ _ (Y4.setCells (w.heap.size + 1) 0 (plC ⟨qA, an, cA, qF, fn, cF, qG, ln, cG, qM, mn, cM⟩ P))
    have hl := run_loadVar_mid (P := Tryz.prog) (Y4.setCells (w.heap.size + 1) 0 (plC ⟨qA, an, cA, qF, fn, cF, qG, ln, cG, qM, mn, cM⟩ P)) (w.heap.size + 1) 0 32 (plC ⟨qA, an, cA, qF, fn, cF, qG, ln, cG, qM, mn, cM⟩ P) _ (World.rangeAt_setCells_same Y4 _ 0 _ (there_row17 CWY4.out.res (show 0 + 13 ≤ 13 by decide))) Tryz.underlying32 rfl pl_info
    have HB := hid (below_setCells16 (show w.heap.size ≤ w.heap.size + 1 by omega) (plC ⟨qA, an, cA, qF, fn, cF, qG, ln, cG, qM, mn, cM⟩ P) 0 _ CWY4.out.bel)
    have RAZ := hid (rows_box17 (i := 0) CWY4.out.res (by decide) RAY4.out (plC ⟨qA, an, cA, qF, fn, cF, qG, ln, cG, qM, mn, cM⟩ P))
    have RFZ := hid (rows_box17 (i := 0) CWY4.out.res (by decide) RFY4.out (plC ⟨qA, an, cA, qF, fn, cF, qG, ln, cG, qM, mn, cM⟩ P))
    have RGZ := hid (rows_box17 (i := 0) CWY4.out.res (by decide) RGY4.out (plC ⟨qA, an, cA, qF, fn, cF, qG, ln, cG, qM, mn, cM⟩ P))
    have RMZ := hid (rows_box17 (i := 0) CWY4.out.res (by decide) RMY4.out (plC ⟨qA, an, cA, qF, fn, cF, qG, ln, cG, qM, mn, cM⟩ P))
    generalize Y4.setCells (w.heap.size + 1) 0 (plC ⟨qA, an, cA, qF, fn, cF, qG, ln, cG, qM, mn, cM⟩ P) = Z at hl HB RAZ RFZ RGZ RMZ ⊢)
 | fail)
 (try simp only [Exit.inBlock, Exit.then])
 refine bodyPost_ret (v := .agg (plC ⟨qA, an, cA, qF, fn, cF, qG, ln, cG, qM, mn, cM⟩ P).toArray) (results_one16 Tryz.results99 ?_ hl) rfl ⟨⟨qA, an, cA, qF, fn, cF, qG, ln, cG, qM, mn, cM⟩, rfl, ⟨HL0.out, HF.out, HG.out, ?_, RAZ.out, RFZ.out, RGZ.out, ?_⟩, HB.out⟩
 ·rfl
 ·exact HL1.out.trans (by rw [HNM.out, List.length_map])
 ·rw [← HNM.out]
  exact RMZ.out
end Go.Proofs.YtlenjfodjkhpmaaGreatDoor
