/- What the document's machine makes of any instruction: as the plain function says. Condition: numbers below 2 to the 32nd. -/
import Derived.Test.YtinfbmfmmbibbaaDoorVf
namespace Go.Proofs.YtinfbmfmmbibbaaDoor
open Go.RowKit
set_option linter.unusedVariables false

def vmCodes : List Int := [32, 128, 0, 96, 129, 1, 97, 2, 3, 132, 5, 6, 22, 7, 135, 4, 12, 20, 28, 36, 44, 52, 60, 68, 76, 84, 92, 100, 108, 116, 124, 164, 172, 21, 29, 37, 45, 53, 61, 69, 77]
theorem ofL_in : ∀ (l : List One) (c : Int), ofL l c = noOne ∨ (∃ o ∈ l, o.code = c ∧ ofL l c = o)
  | [], _ => Or.inl rfl
  | o :: r, c => by
    by_cases h : o.code = c
    · exact Or.inr ⟨o, List.mem_cons_self .., h, by show (if o.code = c then o else ofL r c) = o; rw [if_pos h]⟩
    · have e : ofL (o :: r) c = ofL r c := by show (if o.code = c then o else ofL r c) = _; rw [if_neg h]
      rw [e]
      rcases ofL_in r c with h1 | ⟨p, h1, h2, h3⟩
      · exact Or.inl h1
      · exact Or.inr ⟨p, List.mem_cons_of_mem _ h1, h2, h3⟩
theorem known_code {c : Int} (h : knownB c = true) : c ∈ vmCodes := by
  rcases ofL_in allL c with h1 | ⟨o, h1, h2, _⟩
  · unfold knownB at h; rw [h1] at h; exact absurd h (by decide)
  · have e : allL.map One.code = vmCodes := by kernel_rfl
    rw [← e, ← h2]
    exact List.mem_map.2 ⟨o, h1, rfl⟩
theorem code_known {c : Int} (h : c ∈ vmCodes) : knownB c = true := by
  have e : vmCodes.all knownB = true := by decide +kernel
  exact List.all_eq_true.1 e c h
theorem op_code {c : Int} (h0 : 0 ≤ c) (h : isOp c = true) : c ∈ vmCodes := by
  unfold isOp at h
  simp at h
  have : c = 4 ∨ c = 20 ∨ c = 36 ∨ c = 52 ∨ c = 68 ∨ c = 84 ∨ c = 100 ∨ c = 116 ∨ c = 164 := by omega
  rcases this with rfl | rfl | rfl | rfl | rfl | rfl | rfl | rfl | rfl <;> decide
theorem opx_code {c : Int} (h0 : 0 ≤ c) (h : isOpX c = true) : c ∈ vmCodes := by
  unfold isOpX at h
  simp at h
  have : c = 12 ∨ c = 28 ∨ c = 44 ∨ c = 60 ∨ c = 76 ∨ c = 92 ∨ c = 108 ∨ c = 124 ∨ c = 172 := by omega
  rcases this with rfl | rfl | rfl | rfl | rfl | rfl | rfl | rfl | rfl <;> decide
theorem cmp_code {c : Int} (h0 : 0 ≤ c) (h : isCmp c = true) : c ∈ vmCodes := by
  unfold isCmp at h
  simp at h
  have : c = 21 ∨ c = 37 ∨ c = 53 ∨ c = 69 := by omega
  rcases this with rfl | rfl | rfl | rfl <;> decide
theorem cmpx_code {c : Int} (h0 : 0 ≤ c) (h : isCmpX c = true) : c ∈ vmCodes := by
  unfold isCmpX at h
  simp at h
  have : c = 29 ∨ c = 45 ∨ c = 61 ∨ c = 77 := by omega
  rcases this with rfl | rfl | rfl | rfl <;> decide
theorem doI_unknown {i : Ins} (hi : i.Ok) (h : knownB i.c = false) (d : Dat) (a x : Int) (c : Nat → Int) : doI i d a x c = .bad 40 := by
  have hn : i.c ∉ vmCodes := fun hm => by rw [code_known hm] at h; cases h
  have h0 := hi.c0
  have q1 : isOp i.c = false := Bool.eq_false_iff.2 fun e => hn (op_code h0 e)
  have q2 : isOpX i.c = false := Bool.eq_false_iff.2 fun e => hn (opx_code h0 e)
  have q3 : isCmp i.c = false := Bool.eq_false_iff.2 fun e => hn (cmp_code h0 e)
  have q4 : isCmpX i.c = false := Bool.eq_false_iff.2 fun e => hn (cmpx_code h0 e)
  unfold doI
  rw [if_neg (fun e => hn (by rw [e]; decide) : ¬ i.c = 0x20)]
  rw [if_neg (fun e => hn (by rw [e]; decide) : ¬ i.c = 0x80)]
  rw [if_neg (fun e => hn (by rw [e]; decide) : ¬ i.c = 0)]
  rw [if_neg (fun e => hn (by rw [e]; decide) : ¬ i.c = 0x60)]
  rw [if_neg (fun e => hn (by rw [e]; decide) : ¬ i.c = 0x81)]
  rw [if_neg (fun e => hn (by rw [e]; decide) : ¬ i.c = 1)]
  rw [if_neg (fun e => hn (by rw [e]; decide) : ¬ i.c = 0x61)]
  rw [if_neg (fun e => hn (by rw [e]; decide) : ¬ i.c = 2)]
  rw [if_neg (fun e => hn (by rw [e]; decide) : ¬ i.c = 3)]
  rw [if_neg (fun e => hn (by rw [e]; decide) : ¬ i.c = 0x84)]
  rw [if_neg (fun e => hn (by rw [e]; decide) : ¬ i.c = 5)]
  rw [if_neg (fun e => hn (by rw [e]; decide) : ¬ i.c = 6)]
  rw [if_neg (fun e => hn (by rw [e]; decide) : ¬ i.c = 0x16)]
  rw [if_neg (fun e => hn (by rw [e]; decide) : ¬ i.c = 7)]
  rw [if_neg (fun e => hn (by rw [e]; decide) : ¬ i.c = 0x87)]
  rw [q1, q2, q3, q4]; rfl
theorem do_c32 (jt jf k a x : Int) (c : Nat → Int) (M : Nat) (w : World) (d : Dat) (hd : d.Ok) (hm : MachAt w M a x 0 c false) (a0 : 0 ≤ a) (a1 : a < 4294967296) (x0 : 0 ≤ x) (x1 : x < 4294967296) (j0 : 0 ≤ jt) (j1 : jt < 256) (f0 : 0 ≤ jf) (f1 : jf < 256) (k0 : 0 ≤ k) (k1 : k < 4294967296) : Calls Tryd.prog 18 #[.pointer (some ⟨M, 0, none⟩), .agg #[.int .u16 32, .int .u8 jt, .int .u8 jf, .int .u32 k], datV d] w (DoTo M (doI ⟨32, jt, jf, k⟩ d a x c) w) := by
    have h0 : doI ⟨32, jt, jf, k⟩ d a x c = if wordB k then .go (wordV d k) x c 0 else .bad 41 := by kernel_rfl
    cases hk : wordB k with
    | true =>
      rw [h0, hk]
      exact (do_load1 jt jf k a x 0 c M w d 32 ⟨#[108, 100, 97, 98, 115]⟩ (by decide +kernel : knownB 32 = true) hm (by kernel_rfl : ofL allL 32 = ⟨32, ⟨#[108, 100, 97, 98, 115]⟩, 1⟩) 0 (wordV d k) x c (fun W hm => ld_abs d jt jf k a x 0 c M W hm a0 a1 x0 x1 k0 k1 hd hk)).mono fun e w' h => ⟨h.2.2, h.1, h.2.1⟩
    | false =>
      rw [h0, hk]
      exact (do_load1 jt jf k a x 0 c M w d 32 ⟨#[108, 100, 97, 98, 115]⟩ (by decide +kernel : knownB 32 = true) hm (by kernel_rfl : ofL allL 32 = ⟨32, ⟨#[108, 100, 97, 98, 115]⟩, 1⟩) 41 a x c (fun W hm => ld_abs_bad d jt jf k a x 0 c M W hm a0 a1 x0 x1 k0 k1 hd hk)).mono fun e w' h => ⟨h.2.2, h.1⟩
theorem do_c128 (jt jf k a x : Int) (c : Nat → Int) (M : Nat) (w : World) (d : Dat) (hd : d.Ok) (hm : MachAt w M a x 0 c false) (a0 : 0 ≤ a) (a1 : a < 4294967296) (x0 : 0 ≤ x) (x1 : x < 4294967296) (j0 : 0 ≤ jt) (j1 : jt < 256) (f0 : 0 ≤ jf) (f1 : jf < 256) (k0 : 0 ≤ k) (k1 : k < 4294967296) : Calls Tryd.prog 18 #[.pointer (some ⟨M, 0, none⟩), .agg #[.int .u16 128, .int .u8 jt, .int .u8 jf, .int .u32 k], datV d] w (DoTo M (doI ⟨128, jt, jf, k⟩ d a x c) w) := by
    have hdo : doI ⟨128, jt, jf, k⟩ d a x c = .go 64 x c 0 := by kernel_rfl
    rw [hdo]
    exact (do_load1 jt jf k a x 0 c M w d 128 ⟨#[108, 100, 108, 101, 110]⟩ (by decide +kernel : knownB 128 = true) hm (by kernel_rfl : ofL allL 128 = ⟨128, ⟨#[108, 100, 108, 101, 110]⟩, 1⟩) 0 64 x c (fun W hm => ld_len d jt jf k a x 0 c M W hm a0 a1 x0 x1 k0 k1)).mono fun e w' h => ⟨h.2.2, h.1, h.2.1⟩
theorem do_c0 (jt jf k a x : Int) (c : Nat → Int) (M : Nat) (w : World) (d : Dat) (hd : d.Ok) (hm : MachAt w M a x 0 c false) (a0 : 0 ≤ a) (a1 : a < 4294967296) (x0 : 0 ≤ x) (x1 : x < 4294967296) (j0 : 0 ≤ jt) (j1 : jt < 256) (f0 : 0 ≤ jf) (f1 : jf < 256) (k0 : 0 ≤ k) (k1 : k < 4294967296) : Calls Tryd.prog 18 #[.pointer (some ⟨M, 0, none⟩), .agg #[.int .u16 0, .int .u8 jt, .int .u8 jf, .int .u32 k], datV d] w (DoTo M (doI ⟨0, jt, jf, k⟩ d a x c) w) := by
    have hdo : doI ⟨0, jt, jf, k⟩ d a x c = .go k x c 0 := by kernel_rfl
    rw [hdo]
    exact (do_load1 jt jf k a x 0 c M w d 0 ⟨#[108, 100, 105]⟩ (by decide +kernel : knownB 0 = true) hm (by kernel_rfl : ofL allL 0 = ⟨0, ⟨#[108, 100, 105]⟩, 1⟩) 0 k x c (fun W hm => ld_i d jt jf k a x 0 c M W hm a0 a1 x0 x1 k0 k1)).mono fun e w' h => ⟨h.2.2, h.1, h.2.1⟩
theorem do_c96 (jt jf k a x : Int) (c : Nat → Int) (M : Nat) (w : World) (d : Dat) (hd : d.Ok) (hm : MachAt w M a x 0 c false) (a0 : 0 ≤ a) (a1 : a < 4294967296) (x0 : 0 ≤ x) (x1 : x < 4294967296) (j0 : 0 ≤ jt) (j1 : jt < 256) (f0 : 0 ≤ jf) (f1 : jf < 256) (k0 : 0 ≤ k) (k1 : k < 4294967296) : Calls Tryd.prog 18 #[.pointer (some ⟨M, 0, none⟩), .agg #[.int .u16 96, .int .u8 jt, .int .u8 jf, .int .u32 k], datV d] w (DoTo M (doI ⟨96, jt, jf, k⟩ d a x c) w) := by
    have h0 : doI ⟨96, jt, jf, k⟩ d a x c = if k < 16 then .go (c k.toNat) x c 0 else .bad 43 := by kernel_rfl
    by_cases hk : k < 16
    · rw [h0, if_pos hk]
      exact (do_load1 jt jf k a x 0 c M w d 96 ⟨#[108, 100, 109]⟩ (by decide +kernel : knownB 96 = true) hm (by kernel_rfl : ofL allL 96 = ⟨96, ⟨#[108, 100, 109]⟩, 1⟩) 0 (c k.toNat) x c (fun W hm => ldm_ok d jt jf k a x 0 c M W hm a0 a1 x0 x1 k0 k1 k.toNat (by omega) (by omega))).mono fun e w' h => ⟨h.2.2, h.1, h.2.1⟩
    · rw [h0, if_neg hk]
      exact (do_load1 jt jf k a x 0 c M w d 96 ⟨#[108, 100, 109]⟩ (by decide +kernel : knownB 96 = true) hm (by kernel_rfl : ofL allL 96 = ⟨96, ⟨#[108, 100, 109]⟩, 1⟩) 43 a x c (fun W hm => ldm_bad d jt jf k a x 0 c M W hm a0 a1 x0 x1 k0 k1 (by omega))).mono fun e w' h => ⟨h.2.2, h.1⟩
theorem do_c129 (jt jf k a x : Int) (c : Nat → Int) (M : Nat) (w : World) (d : Dat) (hd : d.Ok) (hm : MachAt w M a x 0 c false) (a0 : 0 ≤ a) (a1 : a < 4294967296) (x0 : 0 ≤ x) (x1 : x < 4294967296) (j0 : 0 ≤ jt) (j1 : jt < 256) (f0 : 0 ≤ jf) (f1 : jf < 256) (k0 : 0 ≤ k) (k1 : k < 4294967296) : Calls Tryd.prog 18 #[.pointer (some ⟨M, 0, none⟩), .agg #[.int .u16 129, .int .u8 jt, .int .u8 jf, .int .u32 k], datV d] w (DoTo M (doI ⟨129, jt, jf, k⟩ d a x c) w) := by
    have hdo : doI ⟨129, jt, jf, k⟩ d a x c = .go a 64 c 0 := by kernel_rfl
    rw [hdo]
    exact (do_load1 jt jf k a x 0 c M w d 129 ⟨#[108, 100, 120, 108, 101, 110]⟩ (by decide +kernel : knownB 129 = true) hm (by kernel_rfl : ofL allL 129 = ⟨129, ⟨#[108, 100, 120, 108, 101, 110]⟩, 1⟩) 0 a 64 c (fun W hm => ldx_len d jt jf k a x 0 c M W hm a0 a1 x0 x1 k0 k1)).mono fun e w' h => ⟨h.2.2, h.1, h.2.1⟩
theorem do_c1 (jt jf k a x : Int) (c : Nat → Int) (M : Nat) (w : World) (d : Dat) (hd : d.Ok) (hm : MachAt w M a x 0 c false) (a0 : 0 ≤ a) (a1 : a < 4294967296) (x0 : 0 ≤ x) (x1 : x < 4294967296) (j0 : 0 ≤ jt) (j1 : jt < 256) (f0 : 0 ≤ jf) (f1 : jf < 256) (k0 : 0 ≤ k) (k1 : k < 4294967296) : Calls Tryd.prog 18 #[.pointer (some ⟨M, 0, none⟩), .agg #[.int .u16 1, .int .u8 jt, .int .u8 jf, .int .u32 k], datV d] w (DoTo M (doI ⟨1, jt, jf, k⟩ d a x c) w) := by
    have hdo : doI ⟨1, jt, jf, k⟩ d a x c = .go a k c 0 := by kernel_rfl
    rw [hdo]
    exact (do_load1 jt jf k a x 0 c M w d 1 ⟨#[108, 100, 120, 105]⟩ (by decide +kernel : knownB 1 = true) hm (by kernel_rfl : ofL allL 1 = ⟨1, ⟨#[108, 100, 120, 105]⟩, 1⟩) 0 a k c (fun W hm => ldx_i d jt jf k a x 0 c M W hm a0 a1 x0 x1 k0 k1)).mono fun e w' h => ⟨h.2.2, h.1, h.2.1⟩
theorem do_c97 (jt jf k a x : Int) (c : Nat → Int) (M : Nat) (w : World) (d : Dat) (hd : d.Ok) (hm : MachAt w M a x 0 c false) (a0 : 0 ≤ a) (a1 : a < 4294967296) (x0 : 0 ≤ x) (x1 : x < 4294967296) (j0 : 0 ≤ jt) (j1 : jt < 256) (f0 : 0 ≤ jf) (f1 : jf < 256) (k0 : 0 ≤ k) (k1 : k < 4294967296) : Calls Tryd.prog 18 #[.pointer (some ⟨M, 0, none⟩), .agg #[.int .u16 97, .int .u8 jt, .int .u8 jf, .int .u32 k], datV d] w (DoTo M (doI ⟨97, jt, jf, k⟩ d a x c) w) := by
    have h0 : doI ⟨97, jt, jf, k⟩ d a x c = if k < 16 then .go a (c k.toNat) c 0 else .bad 43 := by kernel_rfl
    by_cases hk : k < 16
    · rw [h0, if_pos hk]
      exact (do_load1 jt jf k a x 0 c M w d 97 ⟨#[108, 100, 120, 109]⟩ (by decide +kernel : knownB 97 = true) hm (by kernel_rfl : ofL allL 97 = ⟨97, ⟨#[108, 100, 120, 109]⟩, 1⟩) 0 a (c k.toNat) c (fun W hm => ldxm_ok d jt jf k a x 0 c M W hm a0 a1 x0 x1 k0 k1 k.toNat (by omega) (by omega))).mono fun e w' h => ⟨h.2.2, h.1, h.2.1⟩
    · rw [h0, if_neg hk]
      exact (do_load1 jt jf k a x 0 c M w d 97 ⟨#[108, 100, 120, 109]⟩ (by decide +kernel : knownB 97 = true) hm (by kernel_rfl : ofL allL 97 = ⟨97, ⟨#[108, 100, 120, 109]⟩, 1⟩) 43 a x c (fun W hm => ldxm_bad d jt jf k a x 0 c M W hm a0 a1 x0 x1 k0 k1 (by omega))).mono fun e w' h => ⟨h.2.2, h.1⟩
theorem do_c2 (jt jf k a x : Int) (c : Nat → Int) (M : Nat) (w : World) (d : Dat) (hd : d.Ok) (hm : MachAt w M a x 0 c false) (a0 : 0 ≤ a) (a1 : a < 4294967296) (x0 : 0 ≤ x) (x1 : x < 4294967296) (j0 : 0 ≤ jt) (j1 : jt < 256) (f0 : 0 ≤ jf) (f1 : jf < 256) (k0 : 0 ≤ k) (k1 : k < 4294967296) : Calls Tryd.prog 18 #[.pointer (some ⟨M, 0, none⟩), .agg #[.int .u16 2, .int .u8 jt, .int .u8 jf, .int .u32 k], datV d] w (DoTo M (doI ⟨2, jt, jf, k⟩ d a x c) w) := by
    have h0 : doI ⟨2, jt, jf, k⟩ d a x c = if k < 16 then .go a x (fun j => if j = k.toNat then a else c j) 0 else .bad 43 := by kernel_rfl
    by_cases hk : k < 16
    · rw [h0, if_pos hk]
      exact (do_load2 jt jf k a x 0 c M w d 2 ⟨#[115, 116]⟩ (by decide +kernel : knownB 2 = true) hm (by kernel_rfl : ofL allL 2 = ⟨2, ⟨#[115, 116]⟩, 2⟩) 0 a x (fun j => if j = k.toNat then a else c j) (fun W hm => st_ok d jt jf k a x 0 c M W hm a0 a1 x0 x1 k0 k1 k.toNat (by omega) (by omega))).mono fun e w' h => ⟨h.2.2, h.1, h.2.1⟩
    · rw [h0, if_neg hk]
      exact (do_load2 jt jf k a x 0 c M w d 2 ⟨#[115, 116]⟩ (by decide +kernel : knownB 2 = true) hm (by kernel_rfl : ofL allL 2 = ⟨2, ⟨#[115, 116]⟩, 2⟩) 43 a x c (fun W hm => st_bad d jt jf k a x 0 c M W hm a0 a1 x0 x1 k0 k1 (by omega))).mono fun e w' h => ⟨h.2.2, h.1⟩
theorem do_c3 (jt jf k a x : Int) (c : Nat → Int) (M : Nat) (w : World) (d : Dat) (hd : d.Ok) (hm : MachAt w M a x 0 c false) (a0 : 0 ≤ a) (a1 : a < 4294967296) (x0 : 0 ≤ x) (x1 : x < 4294967296) (j0 : 0 ≤ jt) (j1 : jt < 256) (f0 : 0 ≤ jf) (f1 : jf < 256) (k0 : 0 ≤ k) (k1 : k < 4294967296) : Calls Tryd.prog 18 #[.pointer (some ⟨M, 0, none⟩), .agg #[.int .u16 3, .int .u8 jt, .int .u8 jf, .int .u32 k], datV d] w (DoTo M (doI ⟨3, jt, jf, k⟩ d a x c) w) := by
    have h0 : doI ⟨3, jt, jf, k⟩ d a x c = if k < 16 then .go a x (fun j => if j = k.toNat then x else c j) 0 else .bad 43 := by kernel_rfl
    by_cases hk : k < 16
    · rw [h0, if_pos hk]
      exact (do_load2 jt jf k a x 0 c M w d 3 ⟨#[115, 116, 120]⟩ (by decide +kernel : knownB 3 = true) hm (by kernel_rfl : ofL allL 3 = ⟨3, ⟨#[115, 116, 120]⟩, 2⟩) 0 a x (fun j => if j = k.toNat then x else c j) (fun W hm => stx_ok d jt jf k a x 0 c M W hm a0 a1 x0 x1 k0 k1 k.toNat (by omega) (by omega))).mono fun e w' h => ⟨h.2.2, h.1, h.2.1⟩
    · rw [h0, if_neg hk]
      exact (do_load2 jt jf k a x 0 c M w d 3 ⟨#[115, 116, 120]⟩ (by decide +kernel : knownB 3 = true) hm (by kernel_rfl : ofL allL 3 = ⟨3, ⟨#[115, 116, 120]⟩, 2⟩) 43 a x c (fun W hm => stx_bad d jt jf k a x 0 c M W hm a0 a1 x0 x1 k0 k1 (by omega))).mono fun e w' h => ⟨h.2.2, h.1⟩
theorem do_c132 (jt jf k a x : Int) (c : Nat → Int) (M : Nat) (w : World) (d : Dat) (hd : d.Ok) (hm : MachAt w M a x 0 c false) (a0 : 0 ≤ a) (a1 : a < 4294967296) (x0 : 0 ≤ x) (x1 : x < 4294967296) (j0 : 0 ≤ jt) (j1 : jt < 256) (f0 : 0 ≤ jf) (f1 : jf < 256) (k0 : 0 ≤ k) (k1 : k < 4294967296) : Calls Tryd.prog 18 #[.pointer (some ⟨M, 0, none⟩), .agg #[.int .u16 132, .int .u8 jt, .int .u8 jf, .int .u32 k], datV d] w (DoTo M (doI ⟨132, jt, jf, k⟩ d a x c) w) := by
    have hdo : doI ⟨132, jt, jf, k⟩ d a x c = .go ((0 - a) % 4294967296) x c 0 := by kernel_rfl
    rw [hdo]
    exact (do_num jt jf k a x 0 c M w d 132 ⟨#[110, 101, 103]⟩ (by decide +kernel : knownB 132 = true) hm (by kernel_rfl : ofL allL 132 = ⟨132, ⟨#[110, 101, 103]⟩, 3⟩) 0 ((0 - a) % 4294967296) x c false (fun W hm => num_neg jt jf k a x 0 c M W hm a0 a1 x0 x1 k0 k1)).mono fun e w' h => ⟨h.2.2, h.1, h.2.1⟩
theorem do_c5 (jt jf k a x : Int) (c : Nat → Int) (M : Nat) (w : World) (d : Dat) (hd : d.Ok) (hm : MachAt w M a x 0 c false) (a0 : 0 ≤ a) (a1 : a < 4294967296) (x0 : 0 ≤ x) (x1 : x < 4294967296) (j0 : 0 ≤ jt) (j1 : jt < 256) (f0 : 0 ≤ jf) (f1 : jf < 256) (k0 : 0 ≤ k) (k1 : k < 4294967296) : Calls Tryd.prog 18 #[.pointer (some ⟨M, 0, none⟩), .agg #[.int .u16 5, .int .u8 jt, .int .u8 jf, .int .u32 k], datV d] w (DoTo M (doI ⟨5, jt, jf, k⟩ d a x c) w) := by
    have hdo : doI ⟨5, jt, jf, k⟩ d a x c = .go a x c k.toNat := by kernel_rfl
    rw [hdo]
    obtain ⟨n, rfl⟩ := Int.eq_ofNat_of_zero_le k0
    exact (do_jump jt jf (n : Int) a x 0 c M w d 5 ⟨#[106, 97]⟩ (by decide +kernel : knownB 5 = true) hm (by kernel_rfl : ofL allL 5 = ⟨5, ⟨#[106, 97]⟩, 4⟩) n (fun W hm => ja_ jt jf a x 0 n c M W (by omega))).mono fun e w' h => ⟨h.2.2, h.1, h.2.1⟩
theorem do_c6 (jt jf k a x : Int) (c : Nat → Int) (M : Nat) (w : World) (d : Dat) (hd : d.Ok) (hm : MachAt w M a x 0 c false) (a0 : 0 ≤ a) (a1 : a < 4294967296) (x0 : 0 ≤ x) (x1 : x < 4294967296) (j0 : 0 ≤ jt) (j1 : jt < 256) (f0 : 0 ≤ jf) (f1 : jf < 256) (k0 : 0 ≤ k) (k1 : k < 4294967296) : Calls Tryd.prog 18 #[.pointer (some ⟨M, 0, none⟩), .agg #[.int .u16 6, .int .u8 jt, .int .u8 jf, .int .u32 k], datV d] w (DoTo M (doI ⟨6, jt, jf, k⟩ d a x c) w) := by
    have hdo : doI ⟨6, jt, jf, k⟩ d a x c = .fin k := by kernel_rfl
    rw [hdo]
    exact (do_ret6 jt jf k a x 0 c M w d 6 ⟨#[114, 101, 116]⟩ (by decide +kernel : knownB 6 = true) hm (by kernel_rfl : ofL allL 6 = ⟨6, ⟨#[114, 101, 116]⟩, 5⟩) rfl).mono fun e w' h => ⟨h.2.2, h.1, _, _, _, h.2.1⟩
theorem do_c22 (jt jf k a x : Int) (c : Nat → Int) (M : Nat) (w : World) (d : Dat) (hd : d.Ok) (hm : MachAt w M a x 0 c false) (a0 : 0 ≤ a) (a1 : a < 4294967296) (x0 : 0 ≤ x) (x1 : x < 4294967296) (j0 : 0 ≤ jt) (j1 : jt < 256) (f0 : 0 ≤ jf) (f1 : jf < 256) (k0 : 0 ≤ k) (k1 : k < 4294967296) : Calls Tryd.prog 18 #[.pointer (some ⟨M, 0, none⟩), .agg #[.int .u16 22, .int .u8 jt, .int .u8 jf, .int .u32 k], datV d] w (DoTo M (doI ⟨22, jt, jf, k⟩ d a x c) w) := by
    have hdo : doI ⟨22, jt, jf, k⟩ d a x c = .fin a := by kernel_rfl
    rw [hdo]
    exact (do_ret22 jt jf k a x 0 c M w d 22 ⟨#[114, 101, 116, 97]⟩ (by decide +kernel : knownB 22 = true) hm (by kernel_rfl : ofL allL 22 = ⟨22, ⟨#[114, 101, 116, 97]⟩, 5⟩) rfl).mono fun e w' h => ⟨h.2.2, h.1, _, _, _, h.2.1⟩
theorem do_c7 (jt jf k a x : Int) (c : Nat → Int) (M : Nat) (w : World) (d : Dat) (hd : d.Ok) (hm : MachAt w M a x 0 c false) (a0 : 0 ≤ a) (a1 : a < 4294967296) (x0 : 0 ≤ x) (x1 : x < 4294967296) (j0 : 0 ≤ jt) (j1 : jt < 256) (f0 : 0 ≤ jf) (f1 : jf < 256) (k0 : 0 ≤ k) (k1 : k < 4294967296) : Calls Tryd.prog 18 #[.pointer (some ⟨M, 0, none⟩), .agg #[.int .u16 7, .int .u8 jt, .int .u8 jf, .int .u32 k], datV d] w (DoTo M (doI ⟨7, jt, jf, k⟩ d a x c) w) := by
    have hdo : doI ⟨7, jt, jf, k⟩ d a x c = .go a a c 0 := by kernel_rfl
    rw [hdo]
    exact (do_load6 jt jf k a x 0 c M w d 7 ⟨#[116, 97, 120]⟩ (by decide +kernel : knownB 7 = true) hm (by kernel_rfl : ofL allL 7 = ⟨7, ⟨#[116, 97, 120]⟩, 6⟩) 0 a a c (fun W hm => tax_ d jt jf k a x 0 c M W hm a0 a1 x0 x1 k0 k1)).mono fun e w' h => ⟨h.2.2, h.1, h.2.1⟩
theorem do_c135 (jt jf k a x : Int) (c : Nat → Int) (M : Nat) (w : World) (d : Dat) (hd : d.Ok) (hm : MachAt w M a x 0 c false) (a0 : 0 ≤ a) (a1 : a < 4294967296) (x0 : 0 ≤ x) (x1 : x < 4294967296) (j0 : 0 ≤ jt) (j1 : jt < 256) (f0 : 0 ≤ jf) (f1 : jf < 256) (k0 : 0 ≤ k) (k1 : k < 4294967296) : Calls Tryd.prog 18 #[.pointer (some ⟨M, 0, none⟩), .agg #[.int .u16 135, .int .u8 jt, .int .u8 jf, .int .u32 k], datV d] w (DoTo M (doI ⟨135, jt, jf, k⟩ d a x c) w) := by
    have hdo : doI ⟨135, jt, jf, k⟩ d a x c = .go x x c 0 := by kernel_rfl
    rw [hdo]
    exact (do_load6 jt jf k a x 0 c M w d 135 ⟨#[116, 120, 97]⟩ (by decide +kernel : knownB 135 = true) hm (by kernel_rfl : ofL allL 135 = ⟨135, ⟨#[116, 120, 97]⟩, 6⟩) 0 x x c (fun W hm => txa_ d jt jf k a x 0 c M W hm a0 a1 x0 x1 k0 k1)).mono fun e w' h => ⟨h.2.2, h.1, h.2.1⟩
theorem do_c4 (jt jf k a x : Int) (c : Nat → Int) (M : Nat) (w : World) (d : Dat) (hd : d.Ok) (hm : MachAt w M a x 0 c false) (a0 : 0 ≤ a) (a1 : a < 4294967296) (x0 : 0 ≤ x) (x1 : x < 4294967296) (j0 : 0 ≤ jt) (j1 : jt < 256) (f0 : 0 ≤ jf) (f1 : jf < 256) (k0 : 0 ≤ k) (k1 : k < 4294967296) : Calls Tryd.prog 18 #[.pointer (some ⟨M, 0, none⟩), .agg #[.int .u16 4, .int .u8 jt, .int .u8 jf, .int .u32 k], datV d] w (DoTo M (doI ⟨4, jt, jf, k⟩ d a x c) w) := by
    have hdo : doI ⟨4, jt, jf, k⟩ d a x c = .go ((a + k) % 4294967296) x c 0 := by kernel_rfl
    rw [hdo]
    exact (do_num jt jf k a x 0 c M w d 4 ⟨#[97, 100, 100]⟩ (by decide +kernel : knownB 4 = true) hm (by kernel_rfl : ofL allL 4 = ⟨4, ⟨#[97, 100, 100]⟩, 3⟩) 0 ((a + k) % 4294967296) x c false (fun W hm => num_add jt jf k a x 0 c M W hm a0 a1 x0 x1 k0 k1)).mono fun e w' h => ⟨h.2.2, h.1, h.2.1⟩
theorem do_c12 (jt jf k a x : Int) (c : Nat → Int) (M : Nat) (w : World) (d : Dat) (hd : d.Ok) (hm : MachAt w M a x 0 c false) (a0 : 0 ≤ a) (a1 : a < 4294967296) (x0 : 0 ≤ x) (x1 : x < 4294967296) (j0 : 0 ≤ jt) (j1 : jt < 256) (f0 : 0 ≤ jf) (f1 : jf < 256) (k0 : 0 ≤ k) (k1 : k < 4294967296) : Calls Tryd.prog 18 #[.pointer (some ⟨M, 0, none⟩), .agg #[.int .u16 12, .int .u8 jt, .int .u8 jf, .int .u32 k], datV d] w (DoTo M (doI ⟨12, jt, jf, k⟩ d a x c) w) := by
    have hdo : doI ⟨12, jt, jf, k⟩ d a x c = .go ((a + x) % 4294967296) x c 0 := by kernel_rfl
    rw [hdo]
    exact (do_num jt jf k a x 0 c M w d 12 ⟨#[97, 100, 100, 120]⟩ (by decide +kernel : knownB 12 = true) hm (by kernel_rfl : ofL allL 12 = ⟨12, ⟨#[97, 100, 100, 120]⟩, 3⟩) 0 ((a + x) % 4294967296) x c false (fun W hm => num_addx jt jf k a x 0 c M W hm a0 a1 x0 x1 k0 k1)).mono fun e w' h => ⟨h.2.2, h.1, h.2.1⟩
theorem do_c20 (jt jf k a x : Int) (c : Nat → Int) (M : Nat) (w : World) (d : Dat) (hd : d.Ok) (hm : MachAt w M a x 0 c false) (a0 : 0 ≤ a) (a1 : a < 4294967296) (x0 : 0 ≤ x) (x1 : x < 4294967296) (j0 : 0 ≤ jt) (j1 : jt < 256) (f0 : 0 ≤ jf) (f1 : jf < 256) (k0 : 0 ≤ k) (k1 : k < 4294967296) : Calls Tryd.prog 18 #[.pointer (some ⟨M, 0, none⟩), .agg #[.int .u16 20, .int .u8 jt, .int .u8 jf, .int .u32 k], datV d] w (DoTo M (doI ⟨20, jt, jf, k⟩ d a x c) w) := by
    have hdo : doI ⟨20, jt, jf, k⟩ d a x c = .go ((a - k) % 4294967296) x c 0 := by kernel_rfl
    rw [hdo]
    exact (do_num jt jf k a x 0 c M w d 20 ⟨#[115, 117, 98]⟩ (by decide +kernel : knownB 20 = true) hm (by kernel_rfl : ofL allL 20 = ⟨20, ⟨#[115, 117, 98]⟩, 3⟩) 0 ((a - k) % 4294967296) x c false (fun W hm => num_sub jt jf k a x 0 c M W hm a0 a1 x0 x1 k0 k1)).mono fun e w' h => ⟨h.2.2, h.1, h.2.1⟩
theorem do_c28 (jt jf k a x : Int) (c : Nat → Int) (M : Nat) (w : World) (d : Dat) (hd : d.Ok) (hm : MachAt w M a x 0 c false) (a0 : 0 ≤ a) (a1 : a < 4294967296) (x0 : 0 ≤ x) (x1 : x < 4294967296) (j0 : 0 ≤ jt) (j1 : jt < 256) (f0 : 0 ≤ jf) (f1 : jf < 256) (k0 : 0 ≤ k) (k1 : k < 4294967296) : Calls Tryd.prog 18 #[.pointer (some ⟨M, 0, none⟩), .agg #[.int .u16 28, .int .u8 jt, .int .u8 jf, .int .u32 k], datV d] w (DoTo M (doI ⟨28, jt, jf, k⟩ d a x c) w) := by
    have hdo : doI ⟨28, jt, jf, k⟩ d a x c = .go ((a - x) % 4294967296) x c 0 := by kernel_rfl
    rw [hdo]
    exact (do_num jt jf k a x 0 c M w d 28 ⟨#[115, 117, 98, 120]⟩ (by decide +kernel : knownB 28 = true) hm (by kernel_rfl : ofL allL 28 = ⟨28, ⟨#[115, 117, 98, 120]⟩, 3⟩) 0 ((a - x) % 4294967296) x c false (fun W hm => num_subx jt jf k a x 0 c M W hm a0 a1 x0 x1 k0 k1)).mono fun e w' h => ⟨h.2.2, h.1, h.2.1⟩
theorem do_c36 (jt jf k a x : Int) (c : Nat → Int) (M : Nat) (w : World) (d : Dat) (hd : d.Ok) (hm : MachAt w M a x 0 c false) (a0 : 0 ≤ a) (a1 : a < 4294967296) (x0 : 0 ≤ x) (x1 : x < 4294967296) (j0 : 0 ≤ jt) (j1 : jt < 256) (f0 : 0 ≤ jf) (f1 : jf < 256) (k0 : 0 ≤ k) (k1 : k < 4294967296) : Calls Tryd.prog 18 #[.pointer (some ⟨M, 0, none⟩), .agg #[.int .u16 36, .int .u8 jt, .int .u8 jf, .int .u32 k], datV d] w (DoTo M (doI ⟨36, jt, jf, k⟩ d a x c) w) := by
    have hdo : doI ⟨36, jt, jf, k⟩ d a x c = .go ((a * k) % 4294967296) x c 0 := by kernel_rfl
    rw [hdo]
    exact (do_num jt jf k a x 0 c M w d 36 ⟨#[109, 117, 108]⟩ (by decide +kernel : knownB 36 = true) hm (by kernel_rfl : ofL allL 36 = ⟨36, ⟨#[109, 117, 108]⟩, 3⟩) 0 ((a * k) % 4294967296) x c false (fun W hm => num_mul jt jf k a x 0 c M W hm a0 a1 x0 x1 k0 k1)).mono fun e w' h => ⟨h.2.2, h.1, h.2.1⟩
theorem do_c44 (jt jf k a x : Int) (c : Nat → Int) (M : Nat) (w : World) (d : Dat) (hd : d.Ok) (hm : MachAt w M a x 0 c false) (a0 : 0 ≤ a) (a1 : a < 4294967296) (x0 : 0 ≤ x) (x1 : x < 4294967296) (j0 : 0 ≤ jt) (j1 : jt < 256) (f0 : 0 ≤ jf) (f1 : jf < 256) (k0 : 0 ≤ k) (k1 : k < 4294967296) : Calls Tryd.prog 18 #[.pointer (some ⟨M, 0, none⟩), .agg #[.int .u16 44, .int .u8 jt, .int .u8 jf, .int .u32 k], datV d] w (DoTo M (doI ⟨44, jt, jf, k⟩ d a x c) w) := by
    have hdo : doI ⟨44, jt, jf, k⟩ d a x c = .go ((a * x) % 4294967296) x c 0 := by kernel_rfl
    rw [hdo]
    exact (do_num jt jf k a x 0 c M w d 44 ⟨#[109, 117, 108, 120]⟩ (by decide +kernel : knownB 44 = true) hm (by kernel_rfl : ofL allL 44 = ⟨44, ⟨#[109, 117, 108, 120]⟩, 3⟩) 0 ((a * x) % 4294967296) x c false (fun W hm => num_mulx jt jf k a x 0 c M W hm a0 a1 x0 x1 k0 k1)).mono fun e w' h => ⟨h.2.2, h.1, h.2.1⟩
theorem do_c52 (jt jf k a x : Int) (c : Nat → Int) (M : Nat) (w : World) (d : Dat) (hd : d.Ok) (hm : MachAt w M a x 0 c false) (a0 : 0 ≤ a) (a1 : a < 4294967296) (x0 : 0 ≤ x) (x1 : x < 4294967296) (j0 : 0 ≤ jt) (j1 : jt < 256) (f0 : 0 ≤ jf) (f1 : jf < 256) (k0 : 0 ≤ k) (k1 : k < 4294967296) : Calls Tryd.prog 18 #[.pointer (some ⟨M, 0, none⟩), .agg #[.int .u16 52, .int .u8 jt, .int .u8 jf, .int .u32 k], datV d] w (DoTo M (doI ⟨52, jt, jf, k⟩ d a x c) w) := by
    have h0 : doI ⟨52, jt, jf, k⟩ d a x c = if (3 : Int) = 3 ∧ k = 0 then .bad 44 else (if ((3 : Int) = 6 ∨ (3 : Int) = 7) ∧ k > 31 then .bad 45 else .go (a / k) x c 0) := by kernel_rfl
    by_cases hb : k = 0
    · rw [h0, if_pos ⟨rfl, hb⟩]
      exact (do_num jt jf k a x 0 c M w d 52 ⟨#[100, 105, 118]⟩ (by decide +kernel : knownB 52 = true) hm (by kernel_rfl : ofL allL 52 = ⟨52, ⟨#[100, 105, 118]⟩, 3⟩) 44 a x c false (fun W hm => num_div_0 jt jf k a x 0 c M W hm a0 a1 x0 x1 k0 k1 hb)).mono fun e w' h => ⟨h.2.2, h.1⟩
    · rw [h0, if_neg (fun e => hb e.2)]
      rw [if_neg (fun e => by rcases e.1 with h | h <;> exact absurd h (by decide))]
      exact (do_num jt jf k a x 0 c M w d 52 ⟨#[100, 105, 118]⟩ (by decide +kernel : knownB 52 = true) hm (by kernel_rfl : ofL allL 52 = ⟨52, ⟨#[100, 105, 118]⟩, 3⟩) 0 (a / k) x c false (fun W hm => num_div jt jf k a x 0 c M W hm a0 a1 x0 x1 k0 k1 (by omega))).mono fun e w' h => ⟨h.2.2, h.1, h.2.1⟩
theorem do_c60 (jt jf k a x : Int) (c : Nat → Int) (M : Nat) (w : World) (d : Dat) (hd : d.Ok) (hm : MachAt w M a x 0 c false) (a0 : 0 ≤ a) (a1 : a < 4294967296) (x0 : 0 ≤ x) (x1 : x < 4294967296) (j0 : 0 ≤ jt) (j1 : jt < 256) (f0 : 0 ≤ jf) (f1 : jf < 256) (k0 : 0 ≤ k) (k1 : k < 4294967296) : Calls Tryd.prog 18 #[.pointer (some ⟨M, 0, none⟩), .agg #[.int .u16 60, .int .u8 jt, .int .u8 jf, .int .u32 k], datV d] w (DoTo M (doI ⟨60, jt, jf, k⟩ d a x c) w) := by
    have h0 : doI ⟨60, jt, jf, k⟩ d a x c = if (3 : Int) = 3 ∧ x = 0 then .fin 0 else .go (a / x) x c 0 := by kernel_rfl
    by_cases hb : x = 0
    · rw [h0, if_pos ⟨rfl, hb⟩]
      exact (do_num jt jf k a x 0 c M w d 60 ⟨#[100, 105, 118, 120]⟩ (by decide +kernel : knownB 60 = true) hm (by kernel_rfl : ofL allL 60 = ⟨60, ⟨#[100, 105, 118, 120]⟩, 3⟩) 0 a 0 c true (fun W hm => num_divx_0 jt jf k a x 0 c M W hm a0 a1 x0 x1 k0 k1 hb)).mono fun e w' h => ⟨h.2.2, h.1, _, _, _, h.2.1⟩
    · rw [h0, if_neg (fun e => hb e.2)]
      exact (do_num jt jf k a x 0 c M w d 60 ⟨#[100, 105, 118, 120]⟩ (by decide +kernel : knownB 60 = true) hm (by kernel_rfl : ofL allL 60 = ⟨60, ⟨#[100, 105, 118, 120]⟩, 3⟩) 0 (a / x) x c false (fun W hm => num_divx jt jf k a x 0 c M W hm a0 a1 x0 x1 k0 k1 (by omega))).mono fun e w' h => ⟨h.2.2, h.1, h.2.1⟩
theorem do_c68 (jt jf k a x : Int) (c : Nat → Int) (M : Nat) (w : World) (d : Dat) (hd : d.Ok) (hm : MachAt w M a x 0 c false) (a0 : 0 ≤ a) (a1 : a < 4294967296) (x0 : 0 ≤ x) (x1 : x < 4294967296) (j0 : 0 ≤ jt) (j1 : jt < 256) (f0 : 0 ≤ jf) (f1 : jf < 256) (k0 : 0 ≤ k) (k1 : k < 4294967296) : Calls Tryd.prog 18 #[.pointer (some ⟨M, 0, none⟩), .agg #[.int .u16 68, .int .u8 jt, .int .u8 jf, .int .u32 k], datV d] w (DoTo M (doI ⟨68, jt, jf, k⟩ d a x c) w) := by
    have hdo : doI ⟨68, jt, jf, k⟩ d a x c = .go (bitsV (· ||| ·) a k) x c 0 := by kernel_rfl
    rw [hdo]
    exact (do_num jt jf k a x 0 c M w d 68 ⟨#[111, 114]⟩ (by decide +kernel : knownB 68 = true) hm (by kernel_rfl : ofL allL 68 = ⟨68, ⟨#[111, 114]⟩, 3⟩) 0 (bitsV (· ||| ·) a k) x c false (fun W hm => num_or jt jf k a x 0 c M W hm a0 a1 x0 x1 k0 k1)).mono fun e w' h => ⟨h.2.2, h.1, h.2.1⟩
theorem do_c76 (jt jf k a x : Int) (c : Nat → Int) (M : Nat) (w : World) (d : Dat) (hd : d.Ok) (hm : MachAt w M a x 0 c false) (a0 : 0 ≤ a) (a1 : a < 4294967296) (x0 : 0 ≤ x) (x1 : x < 4294967296) (j0 : 0 ≤ jt) (j1 : jt < 256) (f0 : 0 ≤ jf) (f1 : jf < 256) (k0 : 0 ≤ k) (k1 : k < 4294967296) : Calls Tryd.prog 18 #[.pointer (some ⟨M, 0, none⟩), .agg #[.int .u16 76, .int .u8 jt, .int .u8 jf, .int .u32 k], datV d] w (DoTo M (doI ⟨76, jt, jf, k⟩ d a x c) w) := by
    have hdo : doI ⟨76, jt, jf, k⟩ d a x c = .go (bitsV (· ||| ·) a x) x c 0 := by kernel_rfl
    rw [hdo]
    exact (do_num jt jf k a x 0 c M w d 76 ⟨#[111, 114, 120]⟩ (by decide +kernel : knownB 76 = true) hm (by kernel_rfl : ofL allL 76 = ⟨76, ⟨#[111, 114, 120]⟩, 3⟩) 0 (bitsV (· ||| ·) a x) x c false (fun W hm => num_orx jt jf k a x 0 c M W hm a0 a1 x0 x1 k0 k1)).mono fun e w' h => ⟨h.2.2, h.1, h.2.1⟩
theorem do_c84 (jt jf k a x : Int) (c : Nat → Int) (M : Nat) (w : World) (d : Dat) (hd : d.Ok) (hm : MachAt w M a x 0 c false) (a0 : 0 ≤ a) (a1 : a < 4294967296) (x0 : 0 ≤ x) (x1 : x < 4294967296) (j0 : 0 ≤ jt) (j1 : jt < 256) (f0 : 0 ≤ jf) (f1 : jf < 256) (k0 : 0 ≤ k) (k1 : k < 4294967296) : Calls Tryd.prog 18 #[.pointer (some ⟨M, 0, none⟩), .agg #[.int .u16 84, .int .u8 jt, .int .u8 jf, .int .u32 k], datV d] w (DoTo M (doI ⟨84, jt, jf, k⟩ d a x c) w) := by
    have hdo : doI ⟨84, jt, jf, k⟩ d a x c = .go (bitsV (· &&& ·) a k) x c 0 := by kernel_rfl
    rw [hdo]
    exact (do_num jt jf k a x 0 c M w d 84 ⟨#[97, 110, 100]⟩ (by decide +kernel : knownB 84 = true) hm (by kernel_rfl : ofL allL 84 = ⟨84, ⟨#[97, 110, 100]⟩, 3⟩) 0 (bitsV (· &&& ·) a k) x c false (fun W hm => num_and jt jf k a x 0 c M W hm a0 a1 x0 x1 k0 k1)).mono fun e w' h => ⟨h.2.2, h.1, h.2.1⟩
theorem do_c92 (jt jf k a x : Int) (c : Nat → Int) (M : Nat) (w : World) (d : Dat) (hd : d.Ok) (hm : MachAt w M a x 0 c false) (a0 : 0 ≤ a) (a1 : a < 4294967296) (x0 : 0 ≤ x) (x1 : x < 4294967296) (j0 : 0 ≤ jt) (j1 : jt < 256) (f0 : 0 ≤ jf) (f1 : jf < 256) (k0 : 0 ≤ k) (k1 : k < 4294967296) : Calls Tryd.prog 18 #[.pointer (some ⟨M, 0, none⟩), .agg #[.int .u16 92, .int .u8 jt, .int .u8 jf, .int .u32 k], datV d] w (DoTo M (doI ⟨92, jt, jf, k⟩ d a x c) w) := by
    have hdo : doI ⟨92, jt, jf, k⟩ d a x c = .go (bitsV (· &&& ·) a x) x c 0 := by kernel_rfl
    rw [hdo]
    exact (do_num jt jf k a x 0 c M w d 92 ⟨#[97, 110, 100, 120]⟩ (by decide +kernel : knownB 92 = true) hm (by kernel_rfl : ofL allL 92 = ⟨92, ⟨#[97, 110, 100, 120]⟩, 3⟩) 0 (bitsV (· &&& ·) a x) x c false (fun W hm => num_andx jt jf k a x 0 c M W hm a0 a1 x0 x1 k0 k1)).mono fun e w' h => ⟨h.2.2, h.1, h.2.1⟩
theorem do_c100 (jt jf k a x : Int) (c : Nat → Int) (M : Nat) (w : World) (d : Dat) (hd : d.Ok) (hm : MachAt w M a x 0 c false) (a0 : 0 ≤ a) (a1 : a < 4294967296) (x0 : 0 ≤ x) (x1 : x < 4294967296) (j0 : 0 ≤ jt) (j1 : jt < 256) (f0 : 0 ≤ jf) (f1 : jf < 256) (k0 : 0 ≤ k) (k1 : k < 4294967296) : Calls Tryd.prog 18 #[.pointer (some ⟨M, 0, none⟩), .agg #[.int .u16 100, .int .u8 jt, .int .u8 jf, .int .u32 k], datV d] w (DoTo M (doI ⟨100, jt, jf, k⟩ d a x c) w) := by
    have h0 : doI ⟨100, jt, jf, k⟩ d a x c = if (((6 : Int) = 6 ∨ (6 : Int) = 7) ∧ k > 31) then .bad 45 else .go ((a * 2 ^ (k % 32).toNat) % 4294967296) x c 0 := by kernel_rfl
    by_cases hb : 31 < k
    · rw [h0, if_pos ⟨by decide, hb⟩]
      exact (do_num jt jf k a x 0 c M w d 100 ⟨#[108, 115, 104]⟩ (by decide +kernel : knownB 100 = true) hm (by kernel_rfl : ofL allL 100 = ⟨100, ⟨#[108, 115, 104]⟩, 3⟩) 45 a x c false (fun W hm => num_lsh_bad jt jf k a x 0 c M W hm a0 a1 x0 x1 k0 k1 hb)).mono fun e w' h => ⟨h.2.2, h.1⟩
    · rw [h0, if_neg (fun e => hb e.2)]
      exact (do_num jt jf k a x 0 c M w d 100 ⟨#[108, 115, 104]⟩ (by decide +kernel : knownB 100 = true) hm (by kernel_rfl : ofL allL 100 = ⟨100, ⟨#[108, 115, 104]⟩, 3⟩) 0 ((a * 2 ^ (k % 32).toNat) % 4294967296) x c false (fun W hm => num_lsh jt jf k a x 0 c M W hm a0 a1 x0 x1 k0 k1 hb)).mono fun e w' h => ⟨h.2.2, h.1, h.2.1⟩
theorem do_c108 (jt jf k a x : Int) (c : Nat → Int) (M : Nat) (w : World) (d : Dat) (hd : d.Ok) (hm : MachAt w M a x 0 c false) (a0 : 0 ≤ a) (a1 : a < 4294967296) (x0 : 0 ≤ x) (x1 : x < 4294967296) (j0 : 0 ≤ jt) (j1 : jt < 256) (f0 : 0 ≤ jf) (f1 : jf < 256) (k0 : 0 ≤ k) (k1 : k < 4294967296) : Calls Tryd.prog 18 #[.pointer (some ⟨M, 0, none⟩), .agg #[.int .u16 108, .int .u8 jt, .int .u8 jf, .int .u32 k], datV d] w (DoTo M (doI ⟨108, jt, jf, k⟩ d a x c) w) := by
    have hdo : doI ⟨108, jt, jf, k⟩ d a x c = .go ((a * 2 ^ (x % 32).toNat) % 4294967296) x c 0 := by kernel_rfl
    rw [hdo]
    exact (do_num jt jf k a x 0 c M w d 108 ⟨#[108, 115, 104, 120]⟩ (by decide +kernel : knownB 108 = true) hm (by kernel_rfl : ofL allL 108 = ⟨108, ⟨#[108, 115, 104, 120]⟩, 3⟩) 0 ((a * 2 ^ (x % 32).toNat) % 4294967296) x c false (fun W hm => num_lshx jt jf k a x 0 c M W hm a0 a1 x0 x1 k0 k1)).mono fun e w' h => ⟨h.2.2, h.1, h.2.1⟩
theorem do_c116 (jt jf k a x : Int) (c : Nat → Int) (M : Nat) (w : World) (d : Dat) (hd : d.Ok) (hm : MachAt w M a x 0 c false) (a0 : 0 ≤ a) (a1 : a < 4294967296) (x0 : 0 ≤ x) (x1 : x < 4294967296) (j0 : 0 ≤ jt) (j1 : jt < 256) (f0 : 0 ≤ jf) (f1 : jf < 256) (k0 : 0 ≤ k) (k1 : k < 4294967296) : Calls Tryd.prog 18 #[.pointer (some ⟨M, 0, none⟩), .agg #[.int .u16 116, .int .u8 jt, .int .u8 jf, .int .u32 k], datV d] w (DoTo M (doI ⟨116, jt, jf, k⟩ d a x c) w) := by
    have h0 : doI ⟨116, jt, jf, k⟩ d a x c = if (((7 : Int) = 6 ∨ (7 : Int) = 7) ∧ k > 31) then .bad 45 else .go (a / 2 ^ (k % 32).toNat) x c 0 := by kernel_rfl
    by_cases hb : 31 < k
    · rw [h0, if_pos ⟨by decide, hb⟩]
      exact (do_num jt jf k a x 0 c M w d 116 ⟨#[114, 115, 104]⟩ (by decide +kernel : knownB 116 = true) hm (by kernel_rfl : ofL allL 116 = ⟨116, ⟨#[114, 115, 104]⟩, 3⟩) 45 a x c false (fun W hm => num_rsh_bad jt jf k a x 0 c M W hm a0 a1 x0 x1 k0 k1 hb)).mono fun e w' h => ⟨h.2.2, h.1⟩
    · rw [h0, if_neg (fun e => hb e.2)]
      exact (do_num jt jf k a x 0 c M w d 116 ⟨#[114, 115, 104]⟩ (by decide +kernel : knownB 116 = true) hm (by kernel_rfl : ofL allL 116 = ⟨116, ⟨#[114, 115, 104]⟩, 3⟩) 0 (a / 2 ^ (k % 32).toNat) x c false (fun W hm => num_rsh jt jf k a x 0 c M W hm a0 a1 x0 x1 k0 k1 hb)).mono fun e w' h => ⟨h.2.2, h.1, h.2.1⟩
theorem do_c124 (jt jf k a x : Int) (c : Nat → Int) (M : Nat) (w : World) (d : Dat) (hd : d.Ok) (hm : MachAt w M a x 0 c false) (a0 : 0 ≤ a) (a1 : a < 4294967296) (x0 : 0 ≤ x) (x1 : x < 4294967296) (j0 : 0 ≤ jt) (j1 : jt < 256) (f0 : 0 ≤ jf) (f1 : jf < 256) (k0 : 0 ≤ k) (k1 : k < 4294967296) : Calls Tryd.prog 18 #[.pointer (some ⟨M, 0, none⟩), .agg #[.int .u16 124, .int .u8 jt, .int .u8 jf, .int .u32 k], datV d] w (DoTo M (doI ⟨124, jt, jf, k⟩ d a x c) w) := by
    have hdo : doI ⟨124, jt, jf, k⟩ d a x c = .go (a / 2 ^ (x % 32).toNat) x c 0 := by kernel_rfl
    rw [hdo]
    exact (do_num jt jf k a x 0 c M w d 124 ⟨#[114, 115, 104, 120]⟩ (by decide +kernel : knownB 124 = true) hm (by kernel_rfl : ofL allL 124 = ⟨124, ⟨#[114, 115, 104, 120]⟩, 3⟩) 0 (a / 2 ^ (x % 32).toNat) x c false (fun W hm => num_rshx jt jf k a x 0 c M W hm a0 a1 x0 x1 k0 k1)).mono fun e w' h => ⟨h.2.2, h.1, h.2.1⟩
theorem do_c164 (jt jf k a x : Int) (c : Nat → Int) (M : Nat) (w : World) (d : Dat) (hd : d.Ok) (hm : MachAt w M a x 0 c false) (a0 : 0 ≤ a) (a1 : a < 4294967296) (x0 : 0 ≤ x) (x1 : x < 4294967296) (j0 : 0 ≤ jt) (j1 : jt < 256) (f0 : 0 ≤ jf) (f1 : jf < 256) (k0 : 0 ≤ k) (k1 : k < 4294967296) : Calls Tryd.prog 18 #[.pointer (some ⟨M, 0, none⟩), .agg #[.int .u16 164, .int .u8 jt, .int .u8 jf, .int .u32 k], datV d] w (DoTo M (doI ⟨164, jt, jf, k⟩ d a x c) w) := by
    have hdo : doI ⟨164, jt, jf, k⟩ d a x c = .go (bitsV (· ^^^ ·) a k) x c 0 := by kernel_rfl
    rw [hdo]
    exact (do_num jt jf k a x 0 c M w d 164 ⟨#[120, 111, 114]⟩ (by decide +kernel : knownB 164 = true) hm (by kernel_rfl : ofL allL 164 = ⟨164, ⟨#[120, 111, 114]⟩, 3⟩) 0 (bitsV (· ^^^ ·) a k) x c false (fun W hm => num_xor jt jf k a x 0 c M W hm a0 a1 x0 x1 k0 k1)).mono fun e w' h => ⟨h.2.2, h.1, h.2.1⟩
theorem do_c172 (jt jf k a x : Int) (c : Nat → Int) (M : Nat) (w : World) (d : Dat) (hd : d.Ok) (hm : MachAt w M a x 0 c false) (a0 : 0 ≤ a) (a1 : a < 4294967296) (x0 : 0 ≤ x) (x1 : x < 4294967296) (j0 : 0 ≤ jt) (j1 : jt < 256) (f0 : 0 ≤ jf) (f1 : jf < 256) (k0 : 0 ≤ k) (k1 : k < 4294967296) : Calls Tryd.prog 18 #[.pointer (some ⟨M, 0, none⟩), .agg #[.int .u16 172, .int .u8 jt, .int .u8 jf, .int .u32 k], datV d] w (DoTo M (doI ⟨172, jt, jf, k⟩ d a x c) w) := by
    have hdo : doI ⟨172, jt, jf, k⟩ d a x c = .go (bitsV (· ^^^ ·) a x) x c 0 := by kernel_rfl
    rw [hdo]
    exact (do_num jt jf k a x 0 c M w d 172 ⟨#[120, 111, 114, 120]⟩ (by decide +kernel : knownB 172 = true) hm (by kernel_rfl : ofL allL 172 = ⟨172, ⟨#[120, 111, 114, 120]⟩, 3⟩) 0 (bitsV (· ^^^ ·) a x) x c false (fun W hm => num_xorx jt jf k a x 0 c M W hm a0 a1 x0 x1 k0 k1)).mono fun e w' h => ⟨h.2.2, h.1, h.2.1⟩
theorem do_c21 (jt jf k a x : Int) (c : Nat → Int) (M : Nat) (w : World) (d : Dat) (hd : d.Ok) (hm : MachAt w M a x 0 c false) (a0 : 0 ≤ a) (a1 : a < 4294967296) (x0 : 0 ≤ x) (x1 : x < 4294967296) (j0 : 0 ≤ jt) (j1 : jt < 256) (f0 : 0 ≤ jf) (f1 : jf < 256) (k0 : 0 ≤ k) (k1 : k < 4294967296) : Calls Tryd.prog 18 #[.pointer (some ⟨M, 0, none⟩), .agg #[.int .u16 21, .int .u8 jt, .int .u8 jf, .int .u32 k], datV d] w (DoTo M (doI ⟨21, jt, jf, k⟩ d a x c) w) := by
    have h0 : doI ⟨21, jt, jf, k⟩ d a x c = .go a x c (if cmpV 1 a k then jt.toNat else jf.toNat) := by kernel_rfl
    by_cases h : a = k
    · rw [h0, show cmpV 1 a k = true from decide_eq_true h, if_pos rfl]
      exact (do_jump jt jf k a x 0 c M w d 21 ⟨#[106, 101, 113]⟩ (by decide +kernel : knownB 21 = true) hm (by kernel_rfl : ofL allL 21 = ⟨21, ⟨#[106, 101, 113]⟩, 4⟩) jt.toNat (fun W hm => jeq_y jt jf k a x 0 c M W hm a0 a1 x0 x1 k0 k1 j0 j1 f0 f1 h jt.toNat (by omega))).mono fun e w' h => ⟨h.2.2, h.1, h.2.1⟩
    · rw [h0, show cmpV 1 a k = false from decide_eq_false h, if_neg (by decide)]
      exact (do_jump jt jf k a x 0 c M w d 21 ⟨#[106, 101, 113]⟩ (by decide +kernel : knownB 21 = true) hm (by kernel_rfl : ofL allL 21 = ⟨21, ⟨#[106, 101, 113]⟩, 4⟩) jf.toNat (fun W hm => jeq_n jt jf k a x 0 c M W hm a0 a1 x0 x1 k0 k1 j0 j1 f0 f1 h jf.toNat (by omega))).mono fun e w' h => ⟨h.2.2, h.1, h.2.1⟩
theorem do_c29 (jt jf k a x : Int) (c : Nat → Int) (M : Nat) (w : World) (d : Dat) (hd : d.Ok) (hm : MachAt w M a x 0 c false) (a0 : 0 ≤ a) (a1 : a < 4294967296) (x0 : 0 ≤ x) (x1 : x < 4294967296) (j0 : 0 ≤ jt) (j1 : jt < 256) (f0 : 0 ≤ jf) (f1 : jf < 256) (k0 : 0 ≤ k) (k1 : k < 4294967296) : Calls Tryd.prog 18 #[.pointer (some ⟨M, 0, none⟩), .agg #[.int .u16 29, .int .u8 jt, .int .u8 jf, .int .u32 k], datV d] w (DoTo M (doI ⟨29, jt, jf, k⟩ d a x c) w) := by
    have h0 : doI ⟨29, jt, jf, k⟩ d a x c = .go a x c (if cmpV 1 a x then jt.toNat else jf.toNat) := by kernel_rfl
    by_cases h : a = x
    · rw [h0, show cmpV 1 a x = true from decide_eq_true h, if_pos rfl]
      exact (do_jump jt jf k a x 0 c M w d 29 ⟨#[106, 101, 113, 120]⟩ (by decide +kernel : knownB 29 = true) hm (by kernel_rfl : ofL allL 29 = ⟨29, ⟨#[106, 101, 113, 120]⟩, 4⟩) jt.toNat (fun W hm => jeqx_y jt jf k a x 0 c M W hm a0 a1 x0 x1 k0 k1 j0 j1 f0 f1 h jt.toNat (by omega))).mono fun e w' h => ⟨h.2.2, h.1, h.2.1⟩
    · rw [h0, show cmpV 1 a x = false from decide_eq_false h, if_neg (by decide)]
      exact (do_jump jt jf k a x 0 c M w d 29 ⟨#[106, 101, 113, 120]⟩ (by decide +kernel : knownB 29 = true) hm (by kernel_rfl : ofL allL 29 = ⟨29, ⟨#[106, 101, 113, 120]⟩, 4⟩) jf.toNat (fun W hm => jeqx_n jt jf k a x 0 c M W hm a0 a1 x0 x1 k0 k1 j0 j1 f0 f1 h jf.toNat (by omega))).mono fun e w' h => ⟨h.2.2, h.1, h.2.1⟩
theorem do_c37 (jt jf k a x : Int) (c : Nat → Int) (M : Nat) (w : World) (d : Dat) (hd : d.Ok) (hm : MachAt w M a x 0 c false) (a0 : 0 ≤ a) (a1 : a < 4294967296) (x0 : 0 ≤ x) (x1 : x < 4294967296) (j0 : 0 ≤ jt) (j1 : jt < 256) (f0 : 0 ≤ jf) (f1 : jf < 256) (k0 : 0 ≤ k) (k1 : k < 4294967296) : Calls Tryd.prog 18 #[.pointer (some ⟨M, 0, none⟩), .agg #[.int .u16 37, .int .u8 jt, .int .u8 jf, .int .u32 k], datV d] w (DoTo M (doI ⟨37, jt, jf, k⟩ d a x c) w) := by
    have h0 : doI ⟨37, jt, jf, k⟩ d a x c = .go a x c (if cmpV 2 a k then jt.toNat else jf.toNat) := by kernel_rfl
    by_cases h : k < a
    · rw [h0, show cmpV 2 a k = true from decide_eq_true h, if_pos rfl]
      exact (do_jump jt jf k a x 0 c M w d 37 ⟨#[106, 103, 116]⟩ (by decide +kernel : knownB 37 = true) hm (by kernel_rfl : ofL allL 37 = ⟨37, ⟨#[106, 103, 116]⟩, 4⟩) jt.toNat (fun W hm => jgt_y jt jf k a x 0 c M W hm a0 a1 x0 x1 k0 k1 j0 j1 f0 f1 h jt.toNat (by omega))).mono fun e w' h => ⟨h.2.2, h.1, h.2.1⟩
    · rw [h0, show cmpV 2 a k = false from decide_eq_false h, if_neg (by decide)]
      exact (do_jump jt jf k a x 0 c M w d 37 ⟨#[106, 103, 116]⟩ (by decide +kernel : knownB 37 = true) hm (by kernel_rfl : ofL allL 37 = ⟨37, ⟨#[106, 103, 116]⟩, 4⟩) jf.toNat (fun W hm => jgt_n jt jf k a x 0 c M W hm a0 a1 x0 x1 k0 k1 j0 j1 f0 f1 h jf.toNat (by omega))).mono fun e w' h => ⟨h.2.2, h.1, h.2.1⟩
theorem do_c45 (jt jf k a x : Int) (c : Nat → Int) (M : Nat) (w : World) (d : Dat) (hd : d.Ok) (hm : MachAt w M a x 0 c false) (a0 : 0 ≤ a) (a1 : a < 4294967296) (x0 : 0 ≤ x) (x1 : x < 4294967296) (j0 : 0 ≤ jt) (j1 : jt < 256) (f0 : 0 ≤ jf) (f1 : jf < 256) (k0 : 0 ≤ k) (k1 : k < 4294967296) : Calls Tryd.prog 18 #[.pointer (some ⟨M, 0, none⟩), .agg #[.int .u16 45, .int .u8 jt, .int .u8 jf, .int .u32 k], datV d] w (DoTo M (doI ⟨45, jt, jf, k⟩ d a x c) w) := by
    have h0 : doI ⟨45, jt, jf, k⟩ d a x c = .go a x c (if cmpV 2 a x then jt.toNat else jf.toNat) := by kernel_rfl
    by_cases h : x < a
    · rw [h0, show cmpV 2 a x = true from decide_eq_true h, if_pos rfl]
      exact (do_jump jt jf k a x 0 c M w d 45 ⟨#[106, 103, 116, 120]⟩ (by decide +kernel : knownB 45 = true) hm (by kernel_rfl : ofL allL 45 = ⟨45, ⟨#[106, 103, 116, 120]⟩, 4⟩) jt.toNat (fun W hm => jgtx_y jt jf k a x 0 c M W hm a0 a1 x0 x1 k0 k1 j0 j1 f0 f1 h jt.toNat (by omega))).mono fun e w' h => ⟨h.2.2, h.1, h.2.1⟩
    · rw [h0, show cmpV 2 a x = false from decide_eq_false h, if_neg (by decide)]
      exact (do_jump jt jf k a x 0 c M w d 45 ⟨#[106, 103, 116, 120]⟩ (by decide +kernel : knownB 45 = true) hm (by kernel_rfl : ofL allL 45 = ⟨45, ⟨#[106, 103, 116, 120]⟩, 4⟩) jf.toNat (fun W hm => jgtx_n jt jf k a x 0 c M W hm a0 a1 x0 x1 k0 k1 j0 j1 f0 f1 h jf.toNat (by omega))).mono fun e w' h => ⟨h.2.2, h.1, h.2.1⟩
theorem do_c53 (jt jf k a x : Int) (c : Nat → Int) (M : Nat) (w : World) (d : Dat) (hd : d.Ok) (hm : MachAt w M a x 0 c false) (a0 : 0 ≤ a) (a1 : a < 4294967296) (x0 : 0 ≤ x) (x1 : x < 4294967296) (j0 : 0 ≤ jt) (j1 : jt < 256) (f0 : 0 ≤ jf) (f1 : jf < 256) (k0 : 0 ≤ k) (k1 : k < 4294967296) : Calls Tryd.prog 18 #[.pointer (some ⟨M, 0, none⟩), .agg #[.int .u16 53, .int .u8 jt, .int .u8 jf, .int .u32 k], datV d] w (DoTo M (doI ⟨53, jt, jf, k⟩ d a x c) w) := by
    have h0 : doI ⟨53, jt, jf, k⟩ d a x c = .go a x c (if cmpV 3 a k then jt.toNat else jf.toNat) := by kernel_rfl
    by_cases h : k ≤ a
    · rw [h0, show cmpV 3 a k = true from decide_eq_true h, if_pos rfl]
      exact (do_jump jt jf k a x 0 c M w d 53 ⟨#[106, 103, 101]⟩ (by decide +kernel : knownB 53 = true) hm (by kernel_rfl : ofL allL 53 = ⟨53, ⟨#[106, 103, 101]⟩, 4⟩) jt.toNat (fun W hm => jge_y jt jf k a x 0 c M W hm a0 a1 x0 x1 k0 k1 j0 j1 f0 f1 h jt.toNat (by omega))).mono fun e w' h => ⟨h.2.2, h.1, h.2.1⟩
    · rw [h0, show cmpV 3 a k = false from decide_eq_false h, if_neg (by decide)]
      exact (do_jump jt jf k a x 0 c M w d 53 ⟨#[106, 103, 101]⟩ (by decide +kernel : knownB 53 = true) hm (by kernel_rfl : ofL allL 53 = ⟨53, ⟨#[106, 103, 101]⟩, 4⟩) jf.toNat (fun W hm => jge_n jt jf k a x 0 c M W hm a0 a1 x0 x1 k0 k1 j0 j1 f0 f1 h jf.toNat (by omega))).mono fun e w' h => ⟨h.2.2, h.1, h.2.1⟩
theorem do_c61 (jt jf k a x : Int) (c : Nat → Int) (M : Nat) (w : World) (d : Dat) (hd : d.Ok) (hm : MachAt w M a x 0 c false) (a0 : 0 ≤ a) (a1 : a < 4294967296) (x0 : 0 ≤ x) (x1 : x < 4294967296) (j0 : 0 ≤ jt) (j1 : jt < 256) (f0 : 0 ≤ jf) (f1 : jf < 256) (k0 : 0 ≤ k) (k1 : k < 4294967296) : Calls Tryd.prog 18 #[.pointer (some ⟨M, 0, none⟩), .agg #[.int .u16 61, .int .u8 jt, .int .u8 jf, .int .u32 k], datV d] w (DoTo M (doI ⟨61, jt, jf, k⟩ d a x c) w) := by
    have h0 : doI ⟨61, jt, jf, k⟩ d a x c = .go a x c (if cmpV 3 a x then jt.toNat else jf.toNat) := by kernel_rfl
    by_cases h : x ≤ a
    · rw [h0, show cmpV 3 a x = true from decide_eq_true h, if_pos rfl]
      exact (do_jump jt jf k a x 0 c M w d 61 ⟨#[106, 103, 101, 120]⟩ (by decide +kernel : knownB 61 = true) hm (by kernel_rfl : ofL allL 61 = ⟨61, ⟨#[106, 103, 101, 120]⟩, 4⟩) jt.toNat (fun W hm => jgex_y jt jf k a x 0 c M W hm a0 a1 x0 x1 k0 k1 j0 j1 f0 f1 h jt.toNat (by omega))).mono fun e w' h => ⟨h.2.2, h.1, h.2.1⟩
    · rw [h0, show cmpV 3 a x = false from decide_eq_false h, if_neg (by decide)]
      exact (do_jump jt jf k a x 0 c M w d 61 ⟨#[106, 103, 101, 120]⟩ (by decide +kernel : knownB 61 = true) hm (by kernel_rfl : ofL allL 61 = ⟨61, ⟨#[106, 103, 101, 120]⟩, 4⟩) jf.toNat (fun W hm => jgex_n jt jf k a x 0 c M W hm a0 a1 x0 x1 k0 k1 j0 j1 f0 f1 h jf.toNat (by omega))).mono fun e w' h => ⟨h.2.2, h.1, h.2.1⟩
theorem do_c69 (jt jf k a x : Int) (c : Nat → Int) (M : Nat) (w : World) (d : Dat) (hd : d.Ok) (hm : MachAt w M a x 0 c false) (a0 : 0 ≤ a) (a1 : a < 4294967296) (x0 : 0 ≤ x) (x1 : x < 4294967296) (j0 : 0 ≤ jt) (j1 : jt < 256) (f0 : 0 ≤ jf) (f1 : jf < 256) (k0 : 0 ≤ k) (k1 : k < 4294967296) : Calls Tryd.prog 18 #[.pointer (some ⟨M, 0, none⟩), .agg #[.int .u16 69, .int .u8 jt, .int .u8 jf, .int .u32 k], datV d] w (DoTo M (doI ⟨69, jt, jf, k⟩ d a x c) w) := by
    have h0 : doI ⟨69, jt, jf, k⟩ d a x c = .go a x c (if cmpV 4 a k then jt.toNat else jf.toNat) := by kernel_rfl
    by_cases h : 0 < bitsV (· &&& ·) a k
    · rw [h0, show cmpV 4 a k = true from decide_eq_true h, if_pos rfl]
      exact (do_jump jt jf k a x 0 c M w d 69 ⟨#[106, 115, 101, 116]⟩ (by decide +kernel : knownB 69 = true) hm (by kernel_rfl : ofL allL 69 = ⟨69, ⟨#[106, 115, 101, 116]⟩, 4⟩) jt.toNat (fun W hm => jset_y jt jf k a x 0 c M W hm a0 a1 x0 x1 k0 k1 j0 j1 f0 f1 h jt.toNat (by omega))).mono fun e w' h => ⟨h.2.2, h.1, h.2.1⟩
    · rw [h0, show cmpV 4 a k = false from decide_eq_false h, if_neg (by decide)]
      exact (do_jump jt jf k a x 0 c M w d 69 ⟨#[106, 115, 101, 116]⟩ (by decide +kernel : knownB 69 = true) hm (by kernel_rfl : ofL allL 69 = ⟨69, ⟨#[106, 115, 101, 116]⟩, 4⟩) jf.toNat (fun W hm => jset_n jt jf k a x 0 c M W hm a0 a1 x0 x1 k0 k1 j0 j1 f0 f1 h jf.toNat (by omega))).mono fun e w' h => ⟨h.2.2, h.1, h.2.1⟩
theorem do_c77 (jt jf k a x : Int) (c : Nat → Int) (M : Nat) (w : World) (d : Dat) (hd : d.Ok) (hm : MachAt w M a x 0 c false) (a0 : 0 ≤ a) (a1 : a < 4294967296) (x0 : 0 ≤ x) (x1 : x < 4294967296) (j0 : 0 ≤ jt) (j1 : jt < 256) (f0 : 0 ≤ jf) (f1 : jf < 256) (k0 : 0 ≤ k) (k1 : k < 4294967296) : Calls Tryd.prog 18 #[.pointer (some ⟨M, 0, none⟩), .agg #[.int .u16 77, .int .u8 jt, .int .u8 jf, .int .u32 k], datV d] w (DoTo M (doI ⟨77, jt, jf, k⟩ d a x c) w) := by
    have h0 : doI ⟨77, jt, jf, k⟩ d a x c = .go a x c (if cmpV 4 a x then jt.toNat else jf.toNat) := by kernel_rfl
    by_cases h : 0 < bitsV (· &&& ·) a x
    · rw [h0, show cmpV 4 a x = true from decide_eq_true h, if_pos rfl]
      exact (do_jump jt jf k a x 0 c M w d 77 ⟨#[106, 115, 101, 116, 120]⟩ (by decide +kernel : knownB 77 = true) hm (by kernel_rfl : ofL allL 77 = ⟨77, ⟨#[106, 115, 101, 116, 120]⟩, 4⟩) jt.toNat (fun W hm => jsetx_y jt jf k a x 0 c M W hm a0 a1 x0 x1 k0 k1 j0 j1 f0 f1 h jt.toNat (by omega))).mono fun e w' h => ⟨h.2.2, h.1, h.2.1⟩
    · rw [h0, show cmpV 4 a x = false from decide_eq_false h, if_neg (by decide)]
      exact (do_jump jt jf k a x 0 c M w d 77 ⟨#[106, 115, 101, 116, 120]⟩ (by decide +kernel : knownB 77 = true) hm (by kernel_rfl : ofL allL 77 = ⟨77, ⟨#[106, 115, 101, 116, 120]⟩, 4⟩) jf.toNat (fun W hm => jsetx_n jt jf k a x 0 c M W hm a0 a1 x0 x1 k0 k1 j0 j1 f0 f1 h jf.toNat (by omega))).mono fun e w' h => ⟨h.2.2, h.1, h.2.1⟩
theorem refDo (i : Ins) (hi : i.Ok) (d : Dat) (hd : d.Ok) (a x : Int) (c : Nat → Int) (ok : OkM a x c) (M : Nat) (w : World) (hm : MachAt w M a x 0 c false) :
    Calls Tryd.prog 18 #[.pointer (some ⟨M, 0, none⟩), .agg #[.int .u16 i.c, .int .u8 i.jt, .int .u8 i.jf, .int .u32 i.k], datV d] w (DoTo M (doI i d a x c) w) := by
  cases hk : knownB i.c with
  | false =>
    rw [doI_unknown hi hk]
    exact (do_op i.jt i.jf i.k M w d i.c hk).mono fun e w' h => ⟨h.2, h.1⟩
  | true =>
    have hc := known_code hk
    obtain ⟨cd, jt, jf, k⟩ := i
    obtain ⟨c0, c1, t0, t1, f0, f1, k0, k1⟩ := hi
    obtain ⟨⟨a0, a1⟩, ⟨x0, x1⟩, _⟩ := ok
    simp only at c0 c1 t0 t1 f0 f1 k0 k1 hc hk ⊢
    simp only [vmCodes, List.mem_cons, List.not_mem_nil, or_false] at hc
    rcases hc with rfl | rfl | rfl | rfl | rfl | rfl | rfl | rfl | rfl | rfl | rfl | rfl | rfl | rfl | rfl | rfl | rfl | rfl | rfl | rfl | rfl | rfl | rfl | rfl | rfl | rfl | rfl | rfl | rfl | rfl | rfl | rfl | rfl | rfl | rfl | rfl | rfl | rfl | rfl | rfl | rfl
    · exact do_c32 jt jf k a x _ M w d hd hm a0 a1 x0 x1 t0 t1 f0 f1 k0 k1
    · exact do_c128 jt jf k a x _ M w d hd hm a0 a1 x0 x1 t0 t1 f0 f1 k0 k1
    · exact do_c0 jt jf k a x _ M w d hd hm a0 a1 x0 x1 t0 t1 f0 f1 k0 k1
    · exact do_c96 jt jf k a x _ M w d hd hm a0 a1 x0 x1 t0 t1 f0 f1 k0 k1
    · exact do_c129 jt jf k a x _ M w d hd hm a0 a1 x0 x1 t0 t1 f0 f1 k0 k1
    · exact do_c1 jt jf k a x _ M w d hd hm a0 a1 x0 x1 t0 t1 f0 f1 k0 k1
    · exact do_c97 jt jf k a x _ M w d hd hm a0 a1 x0 x1 t0 t1 f0 f1 k0 k1
    · exact do_c2 jt jf k a x _ M w d hd hm a0 a1 x0 x1 t0 t1 f0 f1 k0 k1
    · exact do_c3 jt jf k a x _ M w d hd hm a0 a1 x0 x1 t0 t1 f0 f1 k0 k1
    · exact do_c132 jt jf k a x _ M w d hd hm a0 a1 x0 x1 t0 t1 f0 f1 k0 k1
    · exact do_c5 jt jf k a x _ M w d hd hm a0 a1 x0 x1 t0 t1 f0 f1 k0 k1
    · exact do_c6 jt jf k a x _ M w d hd hm a0 a1 x0 x1 t0 t1 f0 f1 k0 k1
    · exact do_c22 jt jf k a x _ M w d hd hm a0 a1 x0 x1 t0 t1 f0 f1 k0 k1
    · exact do_c7 jt jf k a x _ M w d hd hm a0 a1 x0 x1 t0 t1 f0 f1 k0 k1
    · exact do_c135 jt jf k a x _ M w d hd hm a0 a1 x0 x1 t0 t1 f0 f1 k0 k1
    · exact do_c4 jt jf k a x _ M w d hd hm a0 a1 x0 x1 t0 t1 f0 f1 k0 k1
    · exact do_c12 jt jf k a x _ M w d hd hm a0 a1 x0 x1 t0 t1 f0 f1 k0 k1
    · exact do_c20 jt jf k a x _ M w d hd hm a0 a1 x0 x1 t0 t1 f0 f1 k0 k1
    · exact do_c28 jt jf k a x _ M w d hd hm a0 a1 x0 x1 t0 t1 f0 f1 k0 k1
    · exact do_c36 jt jf k a x _ M w d hd hm a0 a1 x0 x1 t0 t1 f0 f1 k0 k1
    · exact do_c44 jt jf k a x _ M w d hd hm a0 a1 x0 x1 t0 t1 f0 f1 k0 k1
    · exact do_c52 jt jf k a x _ M w d hd hm a0 a1 x0 x1 t0 t1 f0 f1 k0 k1
    · exact do_c60 jt jf k a x _ M w d hd hm a0 a1 x0 x1 t0 t1 f0 f1 k0 k1
    · exact do_c68 jt jf k a x _ M w d hd hm a0 a1 x0 x1 t0 t1 f0 f1 k0 k1
    · exact do_c76 jt jf k a x _ M w d hd hm a0 a1 x0 x1 t0 t1 f0 f1 k0 k1
    · exact do_c84 jt jf k a x _ M w d hd hm a0 a1 x0 x1 t0 t1 f0 f1 k0 k1
    · exact do_c92 jt jf k a x _ M w d hd hm a0 a1 x0 x1 t0 t1 f0 f1 k0 k1
    · exact do_c100 jt jf k a x _ M w d hd hm a0 a1 x0 x1 t0 t1 f0 f1 k0 k1
    · exact do_c108 jt jf k a x _ M w d hd hm a0 a1 x0 x1 t0 t1 f0 f1 k0 k1
    · exact do_c116 jt jf k a x _ M w d hd hm a0 a1 x0 x1 t0 t1 f0 f1 k0 k1
    · exact do_c124 jt jf k a x _ M w d hd hm a0 a1 x0 x1 t0 t1 f0 f1 k0 k1
    · exact do_c164 jt jf k a x _ M w d hd hm a0 a1 x0 x1 t0 t1 f0 f1 k0 k1
    · exact do_c172 jt jf k a x _ M w d hd hm a0 a1 x0 x1 t0 t1 f0 f1 k0 k1
    · exact do_c21 jt jf k a x _ M w d hd hm a0 a1 x0 x1 t0 t1 f0 f1 k0 k1
    · exact do_c29 jt jf k a x _ M w d hd hm a0 a1 x0 x1 t0 t1 f0 f1 k0 k1
    · exact do_c37 jt jf k a x _ M w d hd hm a0 a1 x0 x1 t0 t1 f0 f1 k0 k1
    · exact do_c45 jt jf k a x _ M w d hd hm a0 a1 x0 x1 t0 t1 f0 f1 k0 k1
    · exact do_c53 jt jf k a x _ M w d hd hm a0 a1 x0 x1 t0 t1 f0 f1 k0 k1
    · exact do_c61 jt jf k a x _ M w d hd hm a0 a1 x0 x1 t0 t1 f0 f1 k0 k1
    · exact do_c69 jt jf k a x _ M w d hd hm a0 a1 x0 x1 t0 t1 f0 f1 k0 k1
    · exact do_c77 jt jf k a x _ M w d hd hm a0 a1 x0 x1 t0 t1 f0 f1 k0 k1
end Go.Proofs.YtinfbmfmmbibbaaDoor
