/- What the calls of the package filter have to return, as the chapter says it. -/
import Derived.Test.YtanifiobfbfehaaGreatDoorP6
namespace Go.Proofs.YtanifiobfbfehaaGreatDoor
open Go.RowKit
set_option linter.unusedVariables false
set_option linter.unusedSimpArgs false
attribute [local go_sem ↓] Go.wp_at_zero Go.wp_at_succ

/-- A policy in rows of its own, from B on. -/
structure OwnP (B : Nat) (w : World) (p : Pls) (P : Pol) : Prop where
  al : p.an = P.ar.length
  fl : p.fn = P.fl.2.length
  ll : p.ln = P.lg.2.length
  ml : p.mn = P.fa.length
  ar : w.ownsRow B 3 1 (.slice p.aq p.an p.ac) p.an (P.ar.map (Value.int .i64))
  fi : w.ownsRow B 71 2 (.slice p.fq p.fn p.fc) p.fn (rowC encC P.fl.2)
  lo : w.ownsRow B 71 2 (.slice p.lq p.ln p.lc) p.ln (rowC encC P.lg.2)
  fa : w.ownsRow B 26 1 (.slice p.mq p.mn p.mc) p.mn ((P.fa.map fun (x : Nat) => (x : Int)).map (Value.int .u32))
theorem OwnP.pol {B : Nat} {w : World} {p : Pls} {P : Pol} (h : OwnP B w p P) : PolAt w p P := ⟨h.al, h.fl, h.ll, h.ml, nums_own17 h.ar h.al, LsAt.of_own h.fi h.fl, LsAt.of_own h.lo h.ll, nums_own17 h.fa (by rw [List.length_map]; exact h.ml)⟩
theorem OwnP.on {B : Nat} {w w' : World} {p : Pls} {P : Pol} (h : OwnP B w p P) (b : Below w.heap.size w w') : OwnP B w' p P := ⟨h.al, h.fl, h.ll, h.ml, owns_on16 h.ar b, owns_on16 h.fi b, owns_on16 h.lo b, owns_on16 h.fa b⟩
/-- What filter.Set and so on have to return, over what must lie in memory. -/
structure FilterC (G : World → Prop) : Prop where
  on : ∀ {w w' : World}, G w → Below w.heap.size w w' → G w'
  key : ∀ (s : ByteArray) (w : World), G w → s.size ≤ 200 → Calls Tryz.prog 17 #[.string s] w fun e w' => e = .returned (.bool (keyF s)) ∧ Below w.heap.size w w'
  errno : ∀ (s : ByteArray) (w : World), G w → s.size ≤ 1000 → Calls Tryz.prog 15 #[.string s] w fun e w' => e = .returned (.tuple #[.int .u32 ((errnoF s).1 : Nat), .int .i64 (errnoF s).2]) ∧ Below w.heap.size w w'
  set : ∀ (p : Pls) (P : Pol) (a : As) (w : World), G w → P.Ok → PolAt w p P → p.an ≤ 20 → p.mn ≤ 20 → p.fn ≤ 100 → p.ln ≤ 100 → a.val.size ≤ 1000 → a.key.size ≤ 200 → Calls Tryz.prog 9 #[plV p P, asV a] w fun e w' => ∃ p' v, e = .returned (.tuple #[plV p' (setF P a.key a.val).1, v]) ∧ OwnP w.heap.size w' p' (setF P a.key a.val).1 ∧ w'.ownsRow w.heap.size 51 4 v ((setF P a.key a.val).2.map (nteP a)).length (rowC encN ((setF P a.key a.val).2.map (nteP a))) ∧ Below w.heap.size w w'
  fold : ∀ (u : Value) (V : List ByteArray) (sfx : Bool) (w : World), G w → StrsAt w u V → V.length ≤ 100 → (∀ x ∈ V, x.size ≤ 1000) → Calls Tryz.prog 21 #[u, .bool sfx] w fun e w' => ∃ q' n' c' vN, e = .returned (.tuple #[lsV (foldK sfx V V.length).1.1 q' n' c', vN]) ∧ n' = (foldK sfx V V.length).1.2.length ∧ LsAt w' q' (foldK sfx V V.length).1.2 ∧ RowsAt 4 encN w' vN ((foldK sfx V V.length).2.map nteS) ∧ Below w.heap.size w w'
theorem errnoF_ok (s : ByteArray) : (errnoF s).1 < 4294967296 := by
  unfold errnoF
  split
  · show 2147483648 < _; decide
  · split
    · rename_i n h
      have := errnoR_lt h
      show 327680 + n < 4294967296
      omega
    · show 0 < _; decide
/-- What an assignment leaves within its bounds. -/
theorem setF_len (P : Pol) (k v : ByteArray) (hv : v.size ≤ 1000) (hf : P.fl.2.length ≤ 100) (hl : P.lg.2.length ≤ 100) : (setF P k v).1.ar = P.ar ∧ (setF P k v).1.fa = P.fa ∧ (setF P k v).1.fl.2.length ≤ 100 ∧ (setF P k v).1.lg.2.length ≤ 100 ∧ (setF P k v).2.length ≤ 1000 := by
  unfold setF
  split
  · exact ⟨rfl, rfl, (step_bound true v P.fl.1 P.fl.2 hv hf).1, hl, (step_bound true v P.fl.1 P.fl.2 hv hf).2⟩
  · split
    · exact ⟨rfl, rfl, hf, (step_bound false v P.lg.1 P.lg.2 hv hl).1, (step_bound false v P.lg.1 P.lg.2 hv hl).2⟩
    · split
      · split
        · exact ⟨rfl, rfl, hf, hl, Nat.zero_le _⟩
        · exact ⟨rfl, rfl, hf, hl, by show 1 ≤ 1000; decide⟩
      · exact ⟨rfl, rfl, hf, hl, Nat.zero_le _⟩
theorem of17 (k v : ByteArray) (w : World) : Calls Tryz.prog 20 #[.string k, .string v] w fun e w' => e = .returned (asV ⟨⟨#[102]⟩, 3, ⟨#[83, 101, 114, 118, 105, 99, 101]⟩, k, v⟩) ∧ Below w.heap.size w w' := by
  go_enter Tryz.func20, Tryz.ntmps20
  go_wp2
  refine bodyPost_ret (v := .agg #[.string ⟨#[102]⟩, .int .i64 3, .string ⟨#[83, 101, 114, 118, 105, 99, 101]⟩, .string k, .string v]) (by simp [results, Tryz.results20, go_sem]) rfl ⟨rfl, (Below.refl _ _).alloc (Nat.le_refl _) _⟩
end Go.Proofs.YtanifiobfbfehaaGreatDoor
