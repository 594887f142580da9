/- A policy, an assignment that came in. No condition. A row of assignments: what it comes to, a value at a time. No condition. The chapter's rows that awake looks at. No condition. -/
import Derived.Test.YtanifiobfbfehaaGreatDoorP8
namespace Go.Proofs.YtanifiobfbfehaaGreatDoor
open Go.ChangeShapes Go.WideShapes Go.ChangeAt Go.RowKit
set_option linter.unusedVariables false
set_option linter.unusedSimpArgs false

end Go.Proofs.YtanifiobfbfehaaGreatDoor
namespace Go.Proofs.YtanifiobfbfehaaGreatDoor
open Go.RowKit
set_option linter.unusedVariables false
set_option linter.unusedSimpArgs false

abbrev kOth : ByteArray := bs [79, 116, 104, 101, 114]
def keyAt (n : Nat) : ByteArray := if n = 0 then kFil else if n = 1 then kLog else if n = 2 then kErr else kOth
def P0 : Pol := ⟨[], (0, []), 2147483648, (0, []), [], 0, 0, false, false, false, false⟩
/-- What k assignments make of the first policy, and what is noted. -/
def runK (l : List (Nat × ByteArray)) (k : Nat) : Pol × List (Int × ByteArray) := (l.take k).foldl (fun r x => ((setF r.1 (keyAt x.1) x.2).1, r.2 ++ (setF r.1 (keyAt x.1) x.2).2)) (P0, [])
def valsK (j : Nat) (l : List (Nat × ByteArray)) (k : Nat) : List ByteArray := ((l.take k).filter fun x => x.1 == j).map (·.2)
def denyK (l : List (Nat × ByteArray)) (k : Nat) : Nat := (l.take k).foldl (fun d x => if x.1 = 2 ∧ (errnoF x.2).2 = 0 then (errnoF x.2).1 else d) 2147483648
def badK (l : List (Nat × ByteArray)) (k : Nat) : Nat := ((l.take k).filter fun x => x.1 == 2 && (errnoF x.2).2 != 0).length
/-- What all values come to. -/
def foldT (sfx : Bool) (V : List ByteArray) : (Nat × List Cl) × List (Int × ByteArray) := foldK sfx V V.length
theorem foldT_app (sfx : Bool) (V : List ByteArray) (x : ByteArray) : foldT sfx (V ++ [x]) = ((stepA sfx x (foldT sfx V).1).1, (foldT sfx V).2 ++ (stepA sfx x (foldT sfx V).1).2) := by
  have h1 : foldK sfx (V ++ [x]) V.length = foldK sfx V V.length := by
    unfold foldK
    rw [List.take_left', List.take_length]
    rfl
  have h2 := foldK_step (sfx := sfx) (V := V ++ [x]) (k := V.length) (x := x) (by simp)
  have h3 := stepA_ok (sfx := sfx) (v := x) (foldK_ok sfx V V.length)
  unfold foldT
  rw [List.length_append, List.length_singleton, h2, h1, h3]
theorem runK_step {l : List (Nat × ByteArray)} {k : Nat} {x : Nat × ByteArray} (h : l[k]? = some x) : runK l (k + 1) = ((setF (runK l k).1 (keyAt x.1) x.2).1, (runK l k).2 ++ (setF (runK l k).1 (keyAt x.1) x.2).2) := by
  unfold runK
  rw [List.take_add_one, h, List.foldl_append]; rfl
theorem valsK_step {j : Nat} {l : List (Nat × ByteArray)} {k : Nat} {x : Nat × ByteArray} (h : l[k]? = some x) : valsK j l (k + 1) = valsK j l k ++ (if x.1 = j then [x.2] else []) := by
  unfold valsK
  rw [List.take_add_one, h, List.filter_append, List.map_append]
  by_cases e : x.1 = j <;> simp [e]
theorem denyK_step {l : List (Nat × ByteArray)} {k : Nat} {x : Nat × ByteArray} (h : l[k]? = some x) : denyK l (k + 1) = if x.1 = 2 ∧ (errnoF x.2).2 = 0 then (errnoF x.2).1 else denyK l k := by
  unfold denyK
  rw [List.take_add_one, h, List.foldl_append]; rfl
theorem badK_step {l : List (Nat × ByteArray)} {k : Nat} {x : Nat × ByteArray} (h : l[k]? = some x) : badK l (k + 1) = badK l k + if x.1 = 2 ∧ (errnoF x.2).2 ≠ 0 then 1 else 0 := by
  unfold badK
  rw [List.take_add_one, h, List.filter_append, List.length_append]
  by_cases e : x.1 = 2 <;> by_cases f : (errnoF x.2).2 = 0 <;> simp [e, f]
theorem setF_0 (P : Pol) (v : ByteArray) : setF P (keyAt 0) v = ({ P with fl := (stepA true v P.fl).1 }, (stepA true v P.fl).2) := if_pos rfl
theorem setF_1 (P : Pol) (v : ByteArray) : setF P (keyAt 1) v = ({ P with lg := (stepA false v P.lg).1 }, (stepA false v P.lg).2) := (if_neg (by decide)).trans (if_pos rfl)
theorem setF_2 (P : Pol) (v : ByteArray) : setF P (keyAt 2) v = if (errnoF v).2 = 0 then ({ P with dn := (errnoF v).1 }, []) else (P, [((errnoF v).2, bs (v.data.toList.take 60))]) := (if_neg (by decide)).trans ((if_neg (by decide)).trans (if_pos rfl))
theorem setF_3 (P : Pol) (v : ByteArray) : setF P (keyAt 3) v = (P, []) := (if_neg (by decide)).trans ((if_neg (by decide)).trans (if_neg (by decide)))
/-- P17.4: a row of assignments comes to what the folds of the values of each list's key come to, and what the last error number says. -/
theorem run_is (l : List (Nat × ByteArray)) (hl : ∀ x ∈ l, x.1 < 4) : ∀ k, (runK l k).1 = { P0 with fl := (foldT true (valsK 0 l k)).1, lg := (foldT false (valsK 1 l k)).1, dn := denyK l k } ∧ (runK l k).2.length = (foldT true (valsK 0 l k)).2.length + (foldT false (valsK 1 l k)).2.length + badK l k
  | 0 => ⟨rfl, rfl⟩
  | k + 1 => by
    obtain ⟨ih1, ih2⟩ := run_is l hl k
    cases hx : l[k]? with
    | none =>
      have ht : l.take (k + 1) = l.take k := by rw [List.take_add_one, hx]; simp
      unfold runK valsK denyK badK at *
      rw [ht]
      exact ⟨ih1, ih2⟩
    | some x =>
      obtain ⟨j, v⟩ := x
      have hj := hl _ (List.mem_of_getElem? hx)
      simp only at hj
      rw [runK_step hx, valsK_step hx, valsK_step hx, denyK_step hx, badK_step hx]
      simp only
      match j, hj with
      | 0, _ =>
        rw [setF_0, ih1]
        simp [foldT_app, ih2]
        try omega
      | 1, _ =>
        rw [setF_1, ih1]
        simp [foldT_app, ih2]
        try omega
      | 2, _ =>
        rw [setF_2, ih1]
        by_cases f : (errnoF v).2 = 0 <;> simp [f, ih2]
        try omega
      | 3, _ =>
        rw [setF_3, ih1]
        simp [ih2]
end Go.Proofs.YtanifiobfbfehaaGreatDoor
namespace Go.Proofs.YtanifiobfbfehaaGreatDoor
open Go.RowKit
set_option linter.unusedVariables false
set_option linter.unusedSimpArgs false

def PZ : Pol := ⟨[], (0, []), 0, (0, []), [], 0, 0, false, false, false, false⟩
def PA1 : Pol := { PZ with fl := (2, [(⟨#[107, 105, 108, 108]⟩, 327681)]) }
def PA2 : Pol := { PA1 with dn := 327718 }
def PA3 : Pol := { PA2 with lg := (1, [(⟨#[114, 101, 97, 100]⟩, 0)]) }
def PA4 : Pol := { PA3 with dn := 2147483648 }
set_option maxRecDepth 100000 in
theorem row17_1 : setF PZ kFil (⟨#[126, 107, 105, 108, 108, 58, 69, 80, 69, 82, 77]⟩) = (PA1, []) := by kernel_rfl
set_option maxRecDepth 100000 in
theorem row17_2 : setF PA1 kErr (⟨#[69, 78, 79, 83, 89, 83]⟩) = (PA2, []) := by kernel_rfl
set_option maxRecDepth 100000 in
theorem row17_3 : setF PA2 kLog (⟨#[114, 101, 97, 100, 58, 53]⟩) = (PA3, [(161, ⟨#[114, 101, 97, 100, 58, 53]⟩)]) := by kernel_rfl
set_option maxRecDepth 100000 in
theorem row17_4 : setF PA3 kErr (⟨#[]⟩) = (PA4, []) := by kernel_rfl
set_option maxRecDepth 100000 in
theorem row17_5 : setF PA4 kErr (⟨#[53, 48, 48, 48]⟩) = (PA4, [(160, ⟨#[53, 48, 48, 48]⟩)]) := by kernel_rfl
theorem row17_6 : keyF (⟨#[79, 116, 104, 101, 114]⟩) = false := by kernel_rfl
end Go.Proofs.YtanifiobfbfehaaGreatDoor
