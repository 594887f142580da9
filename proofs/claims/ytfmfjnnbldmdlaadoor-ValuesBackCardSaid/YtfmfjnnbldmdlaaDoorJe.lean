/- What the calls of the package names have to return, as the chapter says it; the chapter's rows. -/
import Derived.Test.YtfmfjnnbldmdlaaDoorJd
namespace Go.Proofs.YtfmfjnnbldmdlaaDoor
open Go.RowKit
set_option linter.unusedVariables false
set_option linter.unusedSimpArgs false
attribute [local go_sem ↓] Go.wp_at_zero Go.wp_at_succ

def errE (o : Option Nat) (e : Int) : Int := if o.isSome = true then 0 else e
def nmS (o : Option ByteArray) : ByteArray := o.getD ⟨#[]⟩
theorem u64N_get {l : List Nat} {k x : Nat} (h : l[k]? = some x) : (u64N l)[k]? = some (.int .u64 (x : Nat)) := by
  unfold u64N; rw [List.getElem?_map, h]; rfl
theorem er10_0 : (((errnoR ⟨#[69, 80, 69, 82, 77]⟩).getD 0 : Nat) : Int) = 1 ∧ errE (errnoR ⟨#[69, 80, 69, 82, 77]⟩) 160 = 0 := by constructor <;> kernel_rfl
theorem er10_1 : (((errnoR ⟨#[52, 48, 57, 53]⟩).getD 0 : Nat) : Int) = 4095 ∧ errE (errnoR ⟨#[52, 48, 57, 53]⟩) 160 = 0 := by constructor <;> kernel_rfl
theorem er10_2 : (((errnoR ⟨#[48]⟩).getD 0 : Nat) : Int) = 0 ∧ errE (errnoR ⟨#[48]⟩) 160 = 0 := by constructor <;> kernel_rfl
theorem er10_3 : (((errnoR ⟨#[52, 48, 57, 54]⟩).getD 0 : Nat) : Int) = 0 ∧ errE (errnoR ⟨#[52, 48, 57, 54]⟩) 160 = 160 := by constructor <;> kernel_rfl
theorem er10_4 : (((errnoR ⟨#[48, 48, 48, 48, 49]⟩).getD 0 : Nat) : Int) = 0 ∧ errE (errnoR ⟨#[48, 48, 48, 48, 49]⟩) 160 = 160 := by constructor <;> kernel_rfl
theorem er10_5 : (((errnoR ⟨#[101, 112, 101, 114, 109]⟩).getD 0 : Nat) : Int) = 0 ∧ errE (errnoR ⟨#[101, 112, 101, 114, 109]⟩) 160 = 160 := by constructor <;> kernel_rfl
theorem fa10_0 : (((findR famT ⟨#[65, 70, 95, 73, 78, 69, 84, 54]⟩).getD 0 : Nat) : Int) = 10 ∧ errE (findR famT ⟨#[65, 70, 95, 73, 78, 69, 84, 54]⟩) 180 = 0 := by constructor <;> kernel_rfl
theorem fa10_1 : (((findR famT ⟨#[73, 78, 69, 84, 54]⟩).getD 0 : Nat) : Int) = 0 ∧ errE (findR famT ⟨#[73, 78, 69, 84, 54]⟩) 180 = 180 := by constructor <;> kernel_rfl
theorem sp10_0 : (((findR spcT ⟨#[110, 101, 116]⟩).getD 0 : Nat) : Int) = 1073741824 ∧ errE (findR spcT ⟨#[110, 101, 116]⟩) 181 = 0 := by constructor <;> kernel_rfl
theorem sp10_1 : (((findR spcT ⟨#[78, 101, 116]⟩).getD 0 : Nat) : Int) = 0 ∧ errE (findR spcT ⟨#[78, 101, 116]⟩) 181 = 181 := by constructor <;> kernel_rfl
theorem en10_0 : errnoNameR 38 = ⟨#[69, 78, 79, 83, 89, 83]⟩ := by kernel_rfl
theorem en10_1 : errnoNameR 39 = ⟨#[51, 57]⟩ := by kernel_rfl
theorem en10_2 : errnoNameR 4096 = ⟨#[]⟩ := by kernel_rfl
theorem fl10 : flagsR 131201 = [128, 131072] := by kernel_rfl
end Go.Proofs.YtfmfjnnbldmdlaaDoor
