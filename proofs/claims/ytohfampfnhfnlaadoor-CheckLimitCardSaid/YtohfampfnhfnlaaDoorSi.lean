/- What the document's own One says is what is wrong with an instruction. No condition but an instruction. What the document's own At says of a program is what is wrong with it. Condition: a slice is as long as its capacity allows. -/
import Derived.Test.YtohfampfnhfnlaaDoorSd
import Derived.Test.YtohfampfnhfnlaaDoorSe
import Derived.Test.YtohfampfnhfnlaaDoorSf
import Derived.Test.YtohfampfnhfnlaaDoorSg
import Derived.Test.YtohfampfnhfnlaaDoorSh
import Derived.IntWalk
import Derived.Test.YtohfampfnhfnlaaDoorOf
namespace Go.Proofs.YtohfampfnhfnlaaDoor
open Go.RowKit
set_option linter.unusedVariables false
attribute [local go_sem ↓] Go.wp_at_zero Go.wp_at_succ

theorem oneE_plain {c jt jf k left : Int} (h0 : clsI c ≠ 0) (h4 : clsI c ≠ 4) (h1 : c ≠ 32) (h2 : ¬ (c = 96 ∨ c = 97 ∨ c = 2 ∨ c = 3)) (h3 : c ≠ 52) (h5 : ¬ (c = 100 ∨ c = 116)) (h6 : c ≠ 5) : oneE ⟨c, jt, jf, k⟩ left = 0 := by
  unfold oneE
  rw [if_neg h0, if_neg h1, if_neg h2, if_neg h3, if_neg h5, if_neg h6, if_neg (fun h => h4 h.1)]
theorem oneE_jump {c jt jf k left : Int} (h4 : clsI c = 4) (h1 : c ≠ 32) (h2 : ¬ (c = 96 ∨ c = 97 ∨ c = 2 ∨ c = 3)) (h3 : c ≠ 52) (h5 : ¬ (c = 100 ∨ c = 116)) (h6 : c ≠ 5) : oneE ⟨c, jt, jf, k⟩ left = if max left 0 ≤ jt ∨ max left 0 ≤ jf then 42 else 0 := by
  unfold oneE
  rw [if_neg (by rw [h4]; decide), if_neg h1, if_neg h2, if_neg h3, if_neg h5, if_neg h6]
  by_cases h : max left 0 ≤ jt ∨ max left 0 ≤ jf
  · rw [if_pos h, if_pos ⟨h4, h⟩]
  · rw [if_neg h, if_neg (fun e => h e.2)]
theorem max_neg {l : Int} (h : l < 0) : max l 0 = 0 := by omega
theorem max_pos {l : Int} (h : 0 ≤ l) : max l 0 = l := by omega
theorem ref_32 (jt jf k left : Int) (w : World) (t0 : 0 ≤ jt) (t1 : jt < 256) (f0 : 0 ≤ jf) (f1 : jf < 256) (k0 : 0 ≤ k) (k1 : k < 4294967296) : OneTo 32 jt jf k left (oneE ⟨32, jt, jf, k⟩ left) w := by
  have hcl : clsI 32 = 1 := by decide +kernel
  have h0 : clsI 32 ≠ 0 := by rw [hcl]; decide
  rcases Int.lt_or_le left 0 with hl | hl
  · unfold oneE
    rw [if_neg h0, if_pos rfl]
    by_cases hb : (60 : Int) < k
    · rw [if_neg (by unfold wordB; simp; omega)]; exact one_32_bign jt jf k left w hl hb
    · by_cases hr : k % 4 = 0
      · rw [if_pos (by unfold wordB; simp; omega)]; exact one_32_okn jt jf k left w hl hb hr k0 k1
      · rw [if_neg (by unfold wordB; simp; omega)]; exact one_32_oddn jt jf k left w hl hb hr k0 k1
  · unfold oneE
    rw [if_neg h0, if_pos rfl]
    by_cases hb : (60 : Int) < k
    · rw [if_neg (by unfold wordB; simp; omega)]; exact one_32_bigp jt jf k left w hl hb
    · by_cases hr : k % 4 = 0
      · rw [if_pos (by unfold wordB; simp; omega)]; exact one_32_okp jt jf k left w hl hb hr k0 k1
      · rw [if_neg (by unfold wordB; simp; omega)]; exact one_32_oddp jt jf k left w hl hb hr k0 k1
theorem ref_128 (jt jf k left : Int) (w : World) (t0 : 0 ≤ jt) (t1 : jt < 256) (f0 : 0 ≤ jf) (f1 : jf < 256) (k0 : 0 ≤ k) (k1 : k < 4294967296) : OneTo 128 jt jf k left (oneE ⟨128, jt, jf, k⟩ left) w := by
  have hcl : clsI 128 = 1 := by decide +kernel
  have h0 : clsI 128 ≠ 0 := by rw [hcl]; decide
  rcases Int.lt_or_le left 0 with hl | hl
  · rw [oneE_plain h0 (by rw [hcl]; decide) (by decide) (by decide) (by decide) (by decide) (by decide)]; exact one_128_okn jt jf k left w hl
  · rw [oneE_plain h0 (by rw [hcl]; decide) (by decide) (by decide) (by decide) (by decide) (by decide)]; exact one_128_okp jt jf k left w hl
theorem ref_0 (jt jf k left : Int) (w : World) (t0 : 0 ≤ jt) (t1 : jt < 256) (f0 : 0 ≤ jf) (f1 : jf < 256) (k0 : 0 ≤ k) (k1 : k < 4294967296) : OneTo 0 jt jf k left (oneE ⟨0, jt, jf, k⟩ left) w := by
  have hcl : clsI 0 = 1 := by decide +kernel
  have h0 : clsI 0 ≠ 0 := by rw [hcl]; decide
  rcases Int.lt_or_le left 0 with hl | hl
  · rw [oneE_plain h0 (by rw [hcl]; decide) (by decide) (by decide) (by decide) (by decide) (by decide)]; exact one_0_okn jt jf k left w hl
  · rw [oneE_plain h0 (by rw [hcl]; decide) (by decide) (by decide) (by decide) (by decide) (by decide)]; exact one_0_okp jt jf k left w hl
theorem ref_96 (jt jf k left : Int) (w : World) (t0 : 0 ≤ jt) (t1 : jt < 256) (f0 : 0 ≤ jf) (f1 : jf < 256) (k0 : 0 ≤ k) (k1 : k < 4294967296) : OneTo 96 jt jf k left (oneE ⟨96, jt, jf, k⟩ left) w := by
  have hcl : clsI 96 = 1 := by decide +kernel
  have h0 : clsI 96 ≠ 0 := by rw [hcl]; decide
  rcases Int.lt_or_le left 0 with hl | hl
  · unfold oneE
    rw [if_neg h0, if_neg (by simp), if_pos (by simp)]
    by_cases hb : (15 : Int) < k
    · rw [if_neg (by simp only; omega)]; exact one_96_badn jt jf k left w hl hb
    · rw [if_pos (by simp only; omega)]; exact one_96_okn jt jf k left w hl hb
  · unfold oneE
    rw [if_neg h0, if_neg (by simp), if_pos (by simp)]
    by_cases hb : (15 : Int) < k
    · rw [if_neg (by simp only; omega)]; exact one_96_badp jt jf k left w hl hb
    · rw [if_pos (by simp only; omega)]; exact one_96_okp jt jf k left w hl hb
theorem ref_129 (jt jf k left : Int) (w : World) (t0 : 0 ≤ jt) (t1 : jt < 256) (f0 : 0 ≤ jf) (f1 : jf < 256) (k0 : 0 ≤ k) (k1 : k < 4294967296) : OneTo 129 jt jf k left (oneE ⟨129, jt, jf, k⟩ left) w := by
  have hcl : clsI 129 = 1 := by decide +kernel
  have h0 : clsI 129 ≠ 0 := by rw [hcl]; decide
  rcases Int.lt_or_le left 0 with hl | hl
  · rw [oneE_plain h0 (by rw [hcl]; decide) (by decide) (by decide) (by decide) (by decide) (by decide)]; exact one_129_okn jt jf k left w hl
  · rw [oneE_plain h0 (by rw [hcl]; decide) (by decide) (by decide) (by decide) (by decide) (by decide)]; exact one_129_okp jt jf k left w hl
theorem ref_1 (jt jf k left : Int) (w : World) (t0 : 0 ≤ jt) (t1 : jt < 256) (f0 : 0 ≤ jf) (f1 : jf < 256) (k0 : 0 ≤ k) (k1 : k < 4294967296) : OneTo 1 jt jf k left (oneE ⟨1, jt, jf, k⟩ left) w := by
  have hcl : clsI 1 = 1 := by decide +kernel
  have h0 : clsI 1 ≠ 0 := by rw [hcl]; decide
  rcases Int.lt_or_le left 0 with hl | hl
  · rw [oneE_plain h0 (by rw [hcl]; decide) (by decide) (by decide) (by decide) (by decide) (by decide)]; exact one_1_okn jt jf k left w hl
  · rw [oneE_plain h0 (by rw [hcl]; decide) (by decide) (by decide) (by decide) (by decide) (by decide)]; exact one_1_okp jt jf k left w hl
theorem ref_97 (jt jf k left : Int) (w : World) (t0 : 0 ≤ jt) (t1 : jt < 256) (f0 : 0 ≤ jf) (f1 : jf < 256) (k0 : 0 ≤ k) (k1 : k < 4294967296) : OneTo 97 jt jf k left (oneE ⟨97, jt, jf, k⟩ left) w := by
  have hcl : clsI 97 = 1 := by decide +kernel
  have h0 : clsI 97 ≠ 0 := by rw [hcl]; decide
  rcases Int.lt_or_le left 0 with hl | hl
  · unfold oneE
    rw [if_neg h0, if_neg (by simp), if_pos (by simp)]
    by_cases hb : (15 : Int) < k
    · rw [if_neg (by simp only; omega)]; exact one_97_badn jt jf k left w hl hb
    · rw [if_pos (by simp only; omega)]; exact one_97_okn jt jf k left w hl hb
  · unfold oneE
    rw [if_neg h0, if_neg (by simp), if_pos (by simp)]
    by_cases hb : (15 : Int) < k
    · rw [if_neg (by simp only; omega)]; exact one_97_badp jt jf k left w hl hb
    · rw [if_pos (by simp only; omega)]; exact one_97_okp jt jf k left w hl hb
theorem ref_2 (jt jf k left : Int) (w : World) (t0 : 0 ≤ jt) (t1 : jt < 256) (f0 : 0 ≤ jf) (f1 : jf < 256) (k0 : 0 ≤ k) (k1 : k < 4294967296) : OneTo 2 jt jf k left (oneE ⟨2, jt, jf, k⟩ left) w := by
  have hcl : clsI 2 = 2 := by decide +kernel
  have h0 : clsI 2 ≠ 0 := by rw [hcl]; decide
  rcases Int.lt_or_le left 0 with hl | hl
  · unfold oneE
    rw [if_neg h0, if_neg (by simp), if_pos (by simp)]
    by_cases hb : (15 : Int) < k
    · rw [if_neg (by simp only; omega)]; exact one_2_badn jt jf k left w hl hb
    · rw [if_pos (by simp only; omega)]; exact one_2_okn jt jf k left w hl hb
  · unfold oneE
    rw [if_neg h0, if_neg (by simp), if_pos (by simp)]
    by_cases hb : (15 : Int) < k
    · rw [if_neg (by simp only; omega)]; exact one_2_badp jt jf k left w hl hb
    · rw [if_pos (by simp only; omega)]; exact one_2_okp jt jf k left w hl hb
theorem ref_3 (jt jf k left : Int) (w : World) (t0 : 0 ≤ jt) (t1 : jt < 256) (f0 : 0 ≤ jf) (f1 : jf < 256) (k0 : 0 ≤ k) (k1 : k < 4294967296) : OneTo 3 jt jf k left (oneE ⟨3, jt, jf, k⟩ left) w := by
  have hcl : clsI 3 = 2 := by decide +kernel
  have h0 : clsI 3 ≠ 0 := by rw [hcl]; decide
  rcases Int.lt_or_le left 0 with hl | hl
  · unfold oneE
    rw [if_neg h0, if_neg (by simp), if_pos (by simp)]
    by_cases hb : (15 : Int) < k
    · rw [if_neg (by simp only; omega)]; exact one_3_badn jt jf k left w hl hb
    · rw [if_pos (by simp only; omega)]; exact one_3_okn jt jf k left w hl hb
  · unfold oneE
    rw [if_neg h0, if_neg (by simp), if_pos (by simp)]
    by_cases hb : (15 : Int) < k
    · rw [if_neg (by simp only; omega)]; exact one_3_badp jt jf k left w hl hb
    · rw [if_pos (by simp only; omega)]; exact one_3_okp jt jf k left w hl hb
theorem ref_4 (jt jf k left : Int) (w : World) (t0 : 0 ≤ jt) (t1 : jt < 256) (f0 : 0 ≤ jf) (f1 : jf < 256) (k0 : 0 ≤ k) (k1 : k < 4294967296) : OneTo 4 jt jf k left (oneE ⟨4, jt, jf, k⟩ left) w := by
  have hcl : clsI 4 = 3 := by decide +kernel
  have h0 : clsI 4 ≠ 0 := by rw [hcl]; decide
  rcases Int.lt_or_le left 0 with hl | hl
  · rw [oneE_plain h0 (by rw [hcl]; decide) (by decide) (by decide) (by decide) (by decide) (by decide)]; exact one_4_okn jt jf k left w hl
  · rw [oneE_plain h0 (by rw [hcl]; decide) (by decide) (by decide) (by decide) (by decide) (by decide)]; exact one_4_okp jt jf k left w hl
theorem ref_20 (jt jf k left : Int) (w : World) (t0 : 0 ≤ jt) (t1 : jt < 256) (f0 : 0 ≤ jf) (f1 : jf < 256) (k0 : 0 ≤ k) (k1 : k < 4294967296) : OneTo 20 jt jf k left (oneE ⟨20, jt, jf, k⟩ left) w := by
  have hcl : clsI 20 = 3 := by decide +kernel
  have h0 : clsI 20 ≠ 0 := by rw [hcl]; decide
  rcases Int.lt_or_le left 0 with hl | hl
  · rw [oneE_plain h0 (by rw [hcl]; decide) (by decide) (by decide) (by decide) (by decide) (by decide)]; exact one_20_okn jt jf k left w hl
  · rw [oneE_plain h0 (by rw [hcl]; decide) (by decide) (by decide) (by decide) (by decide) (by decide)]; exact one_20_okp jt jf k left w hl
theorem ref_36 (jt jf k left : Int) (w : World) (t0 : 0 ≤ jt) (t1 : jt < 256) (f0 : 0 ≤ jf) (f1 : jf < 256) (k0 : 0 ≤ k) (k1 : k < 4294967296) : OneTo 36 jt jf k left (oneE ⟨36, jt, jf, k⟩ left) w := by
  have hcl : clsI 36 = 3 := by decide +kernel
  have h0 : clsI 36 ≠ 0 := by rw [hcl]; decide
  rcases Int.lt_or_le left 0 with hl | hl
  · rw [oneE_plain h0 (by rw [hcl]; decide) (by decide) (by decide) (by decide) (by decide) (by decide)]; exact one_36_okn jt jf k left w hl
  · rw [oneE_plain h0 (by rw [hcl]; decide) (by decide) (by decide) (by decide) (by decide) (by decide)]; exact one_36_okp jt jf k left w hl
theorem ref_52 (jt jf k left : Int) (w : World) (t0 : 0 ≤ jt) (t1 : jt < 256) (f0 : 0 ≤ jf) (f1 : jf < 256) (k0 : 0 ≤ k) (k1 : k < 4294967296) : OneTo 52 jt jf k left (oneE ⟨52, jt, jf, k⟩ left) w := by
  have hcl : clsI 52 = 3 := by decide +kernel
  have h0 : clsI 52 ≠ 0 := by rw [hcl]; decide
  rcases Int.lt_or_le left 0 with hl | hl
  · unfold oneE
    rw [if_neg h0, if_neg (by simp), if_neg (by simp), if_pos rfl]
    by_cases hb : k = 0
    · rw [if_pos hb]; exact one_52_badn jt jf k left w hl hb
    · rw [if_neg hb]; exact one_52_okn jt jf k left w hl (beq_eq_false_iff_ne.2 hb) hb
  · unfold oneE
    rw [if_neg h0, if_neg (by simp), if_neg (by simp), if_pos rfl]
    by_cases hb : k = 0
    · rw [if_pos hb]; exact one_52_badp jt jf k left w hl hb
    · rw [if_neg hb]; exact one_52_okp jt jf k left w hl (beq_eq_false_iff_ne.2 hb) hb
theorem ref_68 (jt jf k left : Int) (w : World) (t0 : 0 ≤ jt) (t1 : jt < 256) (f0 : 0 ≤ jf) (f1 : jf < 256) (k0 : 0 ≤ k) (k1 : k < 4294967296) : OneTo 68 jt jf k left (oneE ⟨68, jt, jf, k⟩ left) w := by
  have hcl : clsI 68 = 3 := by decide +kernel
  have h0 : clsI 68 ≠ 0 := by rw [hcl]; decide
  rcases Int.lt_or_le left 0 with hl | hl
  · rw [oneE_plain h0 (by rw [hcl]; decide) (by decide) (by decide) (by decide) (by decide) (by decide)]; exact one_68_okn jt jf k left w hl
  · rw [oneE_plain h0 (by rw [hcl]; decide) (by decide) (by decide) (by decide) (by decide) (by decide)]; exact one_68_okp jt jf k left w hl
theorem ref_84 (jt jf k left : Int) (w : World) (t0 : 0 ≤ jt) (t1 : jt < 256) (f0 : 0 ≤ jf) (f1 : jf < 256) (k0 : 0 ≤ k) (k1 : k < 4294967296) : OneTo 84 jt jf k left (oneE ⟨84, jt, jf, k⟩ left) w := by
  have hcl : clsI 84 = 3 := by decide +kernel
  have h0 : clsI 84 ≠ 0 := by rw [hcl]; decide
  rcases Int.lt_or_le left 0 with hl | hl
  · rw [oneE_plain h0 (by rw [hcl]; decide) (by decide) (by decide) (by decide) (by decide) (by decide)]; exact one_84_okn jt jf k left w hl
  · rw [oneE_plain h0 (by rw [hcl]; decide) (by decide) (by decide) (by decide) (by decide) (by decide)]; exact one_84_okp jt jf k left w hl
theorem ref_100 (jt jf k left : Int) (w : World) (t0 : 0 ≤ jt) (t1 : jt < 256) (f0 : 0 ≤ jf) (f1 : jf < 256) (k0 : 0 ≤ k) (k1 : k < 4294967296) : OneTo 100 jt jf k left (oneE ⟨100, jt, jf, k⟩ left) w := by
  have hcl : clsI 100 = 3 := by decide +kernel
  have h0 : clsI 100 ≠ 0 := by rw [hcl]; decide
  rcases Int.lt_or_le left 0 with hl | hl
  · unfold oneE
    rw [if_neg h0, if_neg (by simp), if_neg (by simp), if_neg (by simp), if_pos (by simp)]
    by_cases hb : (31 : Int) < k
    · rw [if_pos hb]; exact one_100_badn jt jf k left w hl hb
    · rw [if_neg hb]; exact one_100_okn jt jf k left w hl hb
  · unfold oneE
    rw [if_neg h0, if_neg (by simp), if_neg (by simp), if_neg (by simp), if_pos (by simp)]
    by_cases hb : (31 : Int) < k
    · rw [if_pos hb]; exact one_100_badp jt jf k left w hl hb
    · rw [if_neg hb]; exact one_100_okp jt jf k left w hl hb
theorem ref_116 (jt jf k left : Int) (w : World) (t0 : 0 ≤ jt) (t1 : jt < 256) (f0 : 0 ≤ jf) (f1 : jf < 256) (k0 : 0 ≤ k) (k1 : k < 4294967296) : OneTo 116 jt jf k left (oneE ⟨116, jt, jf, k⟩ left) w := by
  have hcl : clsI 116 = 3 := by decide +kernel
  have h0 : clsI 116 ≠ 0 := by rw [hcl]; decide
  rcases Int.lt_or_le left 0 with hl | hl
  · unfold oneE
    rw [if_neg h0, if_neg (by simp), if_neg (by simp), if_neg (by simp), if_pos (by simp)]
    by_cases hb : (31 : Int) < k
    · rw [if_pos hb]; exact one_116_badn jt jf k left w hl hb
    · rw [if_neg hb]; exact one_116_okn jt jf k left w hl hb
  · unfold oneE
    rw [if_neg h0, if_neg (by simp), if_neg (by simp), if_neg (by simp), if_pos (by simp)]
    by_cases hb : (31 : Int) < k
    · rw [if_pos hb]; exact one_116_badp jt jf k left w hl hb
    · rw [if_neg hb]; exact one_116_okp jt jf k left w hl hb
theorem ref_164 (jt jf k left : Int) (w : World) (t0 : 0 ≤ jt) (t1 : jt < 256) (f0 : 0 ≤ jf) (f1 : jf < 256) (k0 : 0 ≤ k) (k1 : k < 4294967296) : OneTo 164 jt jf k left (oneE ⟨164, jt, jf, k⟩ left) w := by
  have hcl : clsI 164 = 3 := by decide +kernel
  have h0 : clsI 164 ≠ 0 := by rw [hcl]; decide
  rcases Int.lt_or_le left 0 with hl | hl
  · rw [oneE_plain h0 (by rw [hcl]; decide) (by decide) (by decide) (by decide) (by decide) (by decide)]; exact one_164_okn jt jf k left w hl
  · rw [oneE_plain h0 (by rw [hcl]; decide) (by decide) (by decide) (by decide) (by decide) (by decide)]; exact one_164_okp jt jf k left w hl
theorem ref_12 (jt jf k left : Int) (w : World) (t0 : 0 ≤ jt) (t1 : jt < 256) (f0 : 0 ≤ jf) (f1 : jf < 256) (k0 : 0 ≤ k) (k1 : k < 4294967296) : OneTo 12 jt jf k left (oneE ⟨12, jt, jf, k⟩ left) w := by
  have hcl : clsI 12 = 3 := by decide +kernel
  have h0 : clsI 12 ≠ 0 := by rw [hcl]; decide
  rcases Int.lt_or_le left 0 with hl | hl
  · rw [oneE_plain h0 (by rw [hcl]; decide) (by decide) (by decide) (by decide) (by decide) (by decide)]; exact one_12_okn jt jf k left w hl
  · rw [oneE_plain h0 (by rw [hcl]; decide) (by decide) (by decide) (by decide) (by decide) (by decide)]; exact one_12_okp jt jf k left w hl
theorem ref_28 (jt jf k left : Int) (w : World) (t0 : 0 ≤ jt) (t1 : jt < 256) (f0 : 0 ≤ jf) (f1 : jf < 256) (k0 : 0 ≤ k) (k1 : k < 4294967296) : OneTo 28 jt jf k left (oneE ⟨28, jt, jf, k⟩ left) w := by
  have hcl : clsI 28 = 3 := by decide +kernel
  have h0 : clsI 28 ≠ 0 := by rw [hcl]; decide
  rcases Int.lt_or_le left 0 with hl | hl
  · rw [oneE_plain h0 (by rw [hcl]; decide) (by decide) (by decide) (by decide) (by decide) (by decide)]; exact one_28_okn jt jf k left w hl
  · rw [oneE_plain h0 (by rw [hcl]; decide) (by decide) (by decide) (by decide) (by decide) (by decide)]; exact one_28_okp jt jf k left w hl
theorem ref_44 (jt jf k left : Int) (w : World) (t0 : 0 ≤ jt) (t1 : jt < 256) (f0 : 0 ≤ jf) (f1 : jf < 256) (k0 : 0 ≤ k) (k1 : k < 4294967296) : OneTo 44 jt jf k left (oneE ⟨44, jt, jf, k⟩ left) w := by
  have hcl : clsI 44 = 3 := by decide +kernel
  have h0 : clsI 44 ≠ 0 := by rw [hcl]; decide
  rcases Int.lt_or_le left 0 with hl | hl
  · rw [oneE_plain h0 (by rw [hcl]; decide) (by decide) (by decide) (by decide) (by decide) (by decide)]; exact one_44_okn jt jf k left w hl
  · rw [oneE_plain h0 (by rw [hcl]; decide) (by decide) (by decide) (by decide) (by decide) (by decide)]; exact one_44_okp jt jf k left w hl
theorem ref_60 (jt jf k left : Int) (w : World) (t0 : 0 ≤ jt) (t1 : jt < 256) (f0 : 0 ≤ jf) (f1 : jf < 256) (k0 : 0 ≤ k) (k1 : k < 4294967296) : OneTo 60 jt jf k left (oneE ⟨60, jt, jf, k⟩ left) w := by
  have hcl : clsI 60 = 3 := by decide +kernel
  have h0 : clsI 60 ≠ 0 := by rw [hcl]; decide
  rcases Int.lt_or_le left 0 with hl | hl
  · rw [oneE_plain h0 (by rw [hcl]; decide) (by decide) (by decide) (by decide) (by decide) (by decide)]; exact one_60_okn jt jf k left w hl
  · rw [oneE_plain h0 (by rw [hcl]; decide) (by decide) (by decide) (by decide) (by decide) (by decide)]; exact one_60_okp jt jf k left w hl
theorem ref_76 (jt jf k left : Int) (w : World) (t0 : 0 ≤ jt) (t1 : jt < 256) (f0 : 0 ≤ jf) (f1 : jf < 256) (k0 : 0 ≤ k) (k1 : k < 4294967296) : OneTo 76 jt jf k left (oneE ⟨76, jt, jf, k⟩ left) w := by
  have hcl : clsI 76 = 3 := by decide +kernel
  have h0 : clsI 76 ≠ 0 := by rw [hcl]; decide
  rcases Int.lt_or_le left 0 with hl | hl
  · rw [oneE_plain h0 (by rw [hcl]; decide) (by decide) (by decide) (by decide) (by decide) (by decide)]; exact one_76_okn jt jf k left w hl
  · rw [oneE_plain h0 (by rw [hcl]; decide) (by decide) (by decide) (by decide) (by decide) (by decide)]; exact one_76_okp jt jf k left w hl
theorem ref_92 (jt jf k left : Int) (w : World) (t0 : 0 ≤ jt) (t1 : jt < 256) (f0 : 0 ≤ jf) (f1 : jf < 256) (k0 : 0 ≤ k) (k1 : k < 4294967296) : OneTo 92 jt jf k left (oneE ⟨92, jt, jf, k⟩ left) w := by
  have hcl : clsI 92 = 3 := by decide +kernel
  have h0 : clsI 92 ≠ 0 := by rw [hcl]; decide
  rcases Int.lt_or_le left 0 with hl | hl
  · rw [oneE_plain h0 (by rw [hcl]; decide) (by decide) (by decide) (by decide) (by decide) (by decide)]; exact one_92_okn jt jf k left w hl
  · rw [oneE_plain h0 (by rw [hcl]; decide) (by decide) (by decide) (by decide) (by decide) (by decide)]; exact one_92_okp jt jf k left w hl
theorem ref_108 (jt jf k left : Int) (w : World) (t0 : 0 ≤ jt) (t1 : jt < 256) (f0 : 0 ≤ jf) (f1 : jf < 256) (k0 : 0 ≤ k) (k1 : k < 4294967296) : OneTo 108 jt jf k left (oneE ⟨108, jt, jf, k⟩ left) w := by
  have hcl : clsI 108 = 3 := by decide +kernel
  have h0 : clsI 108 ≠ 0 := by rw [hcl]; decide
  rcases Int.lt_or_le left 0 with hl | hl
  · rw [oneE_plain h0 (by rw [hcl]; decide) (by decide) (by decide) (by decide) (by decide) (by decide)]; exact one_108_okn jt jf k left w hl
  · rw [oneE_plain h0 (by rw [hcl]; decide) (by decide) (by decide) (by decide) (by decide) (by decide)]; exact one_108_okp jt jf k left w hl
theorem ref_124 (jt jf k left : Int) (w : World) (t0 : 0 ≤ jt) (t1 : jt < 256) (f0 : 0 ≤ jf) (f1 : jf < 256) (k0 : 0 ≤ k) (k1 : k < 4294967296) : OneTo 124 jt jf k left (oneE ⟨124, jt, jf, k⟩ left) w := by
  have hcl : clsI 124 = 3 := by decide +kernel
  have h0 : clsI 124 ≠ 0 := by rw [hcl]; decide
  rcases Int.lt_or_le left 0 with hl | hl
  · rw [oneE_plain h0 (by rw [hcl]; decide) (by decide) (by decide) (by decide) (by decide) (by decide)]; exact one_124_okn jt jf k left w hl
  · rw [oneE_plain h0 (by rw [hcl]; decide) (by decide) (by decide) (by decide) (by decide) (by decide)]; exact one_124_okp jt jf k left w hl
theorem ref_172 (jt jf k left : Int) (w : World) (t0 : 0 ≤ jt) (t1 : jt < 256) (f0 : 0 ≤ jf) (f1 : jf < 256) (k0 : 0 ≤ k) (k1 : k < 4294967296) : OneTo 172 jt jf k left (oneE ⟨172, jt, jf, k⟩ left) w := by
  have hcl : clsI 172 = 3 := by decide +kernel
  have h0 : clsI 172 ≠ 0 := by rw [hcl]; decide
  rcases Int.lt_or_le left 0 with hl | hl
  · rw [oneE_plain h0 (by rw [hcl]; decide) (by decide) (by decide) (by decide) (by decide) (by decide)]; exact one_172_okn jt jf k left w hl
  · rw [oneE_plain h0 (by rw [hcl]; decide) (by decide) (by decide) (by decide) (by decide) (by decide)]; exact one_172_okp jt jf k left w hl
theorem ref_132 (jt jf k left : Int) (w : World) (t0 : 0 ≤ jt) (t1 : jt < 256) (f0 : 0 ≤ jf) (f1 : jf < 256) (k0 : 0 ≤ k) (k1 : k < 4294967296) : OneTo 132 jt jf k left (oneE ⟨132, jt, jf, k⟩ left) w := by
  have hcl : clsI 132 = 3 := by decide +kernel
  have h0 : clsI 132 ≠ 0 := by rw [hcl]; decide
  rcases Int.lt_or_le left 0 with hl | hl
  · rw [oneE_plain h0 (by rw [hcl]; decide) (by decide) (by decide) (by decide) (by decide) (by decide)]; exact one_132_okn jt jf k left w hl
  · rw [oneE_plain h0 (by rw [hcl]; decide) (by decide) (by decide) (by decide) (by decide) (by decide)]; exact one_132_okp jt jf k left w hl
theorem ref_5 (jt jf k left : Int) (w : World) (t0 : 0 ≤ jt) (t1 : jt < 256) (f0 : 0 ≤ jf) (f1 : jf < 256) (k0 : 0 ≤ k) (k1 : k < 4294967296) : OneTo 5 jt jf k left (oneE ⟨5, jt, jf, k⟩ left) w := by
  have hcl : clsI 5 = 4 := by decide +kernel
  have h0 : clsI 5 ≠ 0 := by rw [hcl]; decide
  rcases Int.lt_or_le left 0 with hl | hl
  · unfold oneE
    rw [if_neg h0, if_neg (by simp), if_neg (by simp), if_neg (by simp), if_neg (by simp), if_pos rfl, max_neg hl]
    have hw : IntKind.i64.wrap k = k := IntWalk.i64_in _ (by omega)
    by_cases hb : 0 ≤ k
    · rw [if_pos hb]; exact one_5_badn jt jf k left w hl hb hw (decide_eq_true hb)
    · rw [if_neg hb]; exact one_5_okn jt jf k left w hl hb hw (decide_eq_false hb)
  · unfold oneE
    rw [if_neg h0, if_neg (by simp), if_neg (by simp), if_neg (by simp), if_neg (by simp), if_pos rfl, max_pos hl]
    have hw : IntKind.i64.wrap k = k := IntWalk.i64_in _ (by omega)
    by_cases hb : left ≤ k
    · rw [if_pos hb]; exact one_5_badp jt jf k left w hl hb hw (decide_eq_true hb)
    · rw [if_neg hb]; exact one_5_okp jt jf k left w hl hb hw (decide_eq_false hb)
theorem ref_21 (jt jf k left : Int) (w : World) (t0 : 0 ≤ jt) (t1 : jt < 256) (f0 : 0 ≤ jf) (f1 : jf < 256) (k0 : 0 ≤ k) (k1 : k < 4294967296) : OneTo 21 jt jf k left (oneE ⟨21, jt, jf, k⟩ left) w := by
  have hcl : clsI 21 = 4 := by decide +kernel
  have h0 : clsI 21 ≠ 0 := by rw [hcl]; decide
  rcases Int.lt_or_le left 0 with hl | hl
  · rw [oneE_jump hcl (by decide) (by decide) (by decide) (by decide) (by decide), max_neg hl]
    have ht : IntKind.i64.wrap jt = jt := IntWalk.i64_in _ (by omega)
    have hf : IntKind.i64.wrap jf = jf := IntWalk.i64_in _ (by omega)
    by_cases hb : 0 ≤ jt
    · rw [if_pos (Or.inl hb)]; exact one_21_tn jt jf k left w hl (decide_eq_true hb) hb ht hf
    · by_cases hb2 : 0 ≤ jf
      · rw [if_pos (Or.inr hb2)]; exact one_21_fn jt jf k left w hl (decide_eq_false hb) (decide_eq_true hb2) hb hb2 ht hf
      · rw [if_neg (fun h => h.elim hb hb2)]; exact one_21_okn jt jf k left w hl (decide_eq_false hb) (decide_eq_false hb2) hb hb2 ht hf
  · rw [oneE_jump hcl (by decide) (by decide) (by decide) (by decide) (by decide), max_pos hl]
    have ht : IntKind.i64.wrap jt = jt := IntWalk.i64_in _ (by omega)
    have hf : IntKind.i64.wrap jf = jf := IntWalk.i64_in _ (by omega)
    by_cases hb : left ≤ jt
    · rw [if_pos (Or.inl hb)]; exact one_21_tp jt jf k left w hl (decide_eq_true hb) hb ht hf
    · by_cases hb2 : left ≤ jf
      · rw [if_pos (Or.inr hb2)]; exact one_21_fp jt jf k left w hl (decide_eq_false hb) (decide_eq_true hb2) hb hb2 ht hf
      · rw [if_neg (fun h => h.elim hb hb2)]; exact one_21_okp jt jf k left w hl (decide_eq_false hb) (decide_eq_false hb2) hb hb2 ht hf
theorem ref_37 (jt jf k left : Int) (w : World) (t0 : 0 ≤ jt) (t1 : jt < 256) (f0 : 0 ≤ jf) (f1 : jf < 256) (k0 : 0 ≤ k) (k1 : k < 4294967296) : OneTo 37 jt jf k left (oneE ⟨37, jt, jf, k⟩ left) w := by
  have hcl : clsI 37 = 4 := by decide +kernel
  have h0 : clsI 37 ≠ 0 := by rw [hcl]; decide
  rcases Int.lt_or_le left 0 with hl | hl
  · rw [oneE_jump hcl (by decide) (by decide) (by decide) (by decide) (by decide), max_neg hl]
    have ht : IntKind.i64.wrap jt = jt := IntWalk.i64_in _ (by omega)
    have hf : IntKind.i64.wrap jf = jf := IntWalk.i64_in _ (by omega)
    by_cases hb : 0 ≤ jt
    · rw [if_pos (Or.inl hb)]; exact one_37_tn jt jf k left w hl (decide_eq_true hb) hb ht hf
    · by_cases hb2 : 0 ≤ jf
      · rw [if_pos (Or.inr hb2)]; exact one_37_fn jt jf k left w hl (decide_eq_false hb) (decide_eq_true hb2) hb hb2 ht hf
      · rw [if_neg (fun h => h.elim hb hb2)]; exact one_37_okn jt jf k left w hl (decide_eq_false hb) (decide_eq_false hb2) hb hb2 ht hf
  · rw [oneE_jump hcl (by decide) (by decide) (by decide) (by decide) (by decide), max_pos hl]
    have ht : IntKind.i64.wrap jt = jt := IntWalk.i64_in _ (by omega)
    have hf : IntKind.i64.wrap jf = jf := IntWalk.i64_in _ (by omega)
    by_cases hb : left ≤ jt
    · rw [if_pos (Or.inl hb)]; exact one_37_tp jt jf k left w hl (decide_eq_true hb) hb ht hf
    · by_cases hb2 : left ≤ jf
      · rw [if_pos (Or.inr hb2)]; exact one_37_fp jt jf k left w hl (decide_eq_false hb) (decide_eq_true hb2) hb hb2 ht hf
      · rw [if_neg (fun h => h.elim hb hb2)]; exact one_37_okp jt jf k left w hl (decide_eq_false hb) (decide_eq_false hb2) hb hb2 ht hf
theorem ref_53 (jt jf k left : Int) (w : World) (t0 : 0 ≤ jt) (t1 : jt < 256) (f0 : 0 ≤ jf) (f1 : jf < 256) (k0 : 0 ≤ k) (k1 : k < 4294967296) : OneTo 53 jt jf k left (oneE ⟨53, jt, jf, k⟩ left) w := by
  have hcl : clsI 53 = 4 := by decide +kernel
  have h0 : clsI 53 ≠ 0 := by rw [hcl]; decide
  rcases Int.lt_or_le left 0 with hl | hl
  · rw [oneE_jump hcl (by decide) (by decide) (by decide) (by decide) (by decide), max_neg hl]
    have ht : IntKind.i64.wrap jt = jt := IntWalk.i64_in _ (by omega)
    have hf : IntKind.i64.wrap jf = jf := IntWalk.i64_in _ (by omega)
    by_cases hb : 0 ≤ jt
    · rw [if_pos (Or.inl hb)]; exact one_53_tn jt jf k left w hl (decide_eq_true hb) hb ht hf
    · by_cases hb2 : 0 ≤ jf
      · rw [if_pos (Or.inr hb2)]; exact one_53_fn jt jf k left w hl (decide_eq_false hb) (decide_eq_true hb2) hb hb2 ht hf
      · rw [if_neg (fun h => h.elim hb hb2)]; exact one_53_okn jt jf k left w hl (decide_eq_false hb) (decide_eq_false hb2) hb hb2 ht hf
  · rw [oneE_jump hcl (by decide) (by decide) (by decide) (by decide) (by decide), max_pos hl]
    have ht : IntKind.i64.wrap jt = jt := IntWalk.i64_in _ (by omega)
    have hf : IntKind.i64.wrap jf = jf := IntWalk.i64_in _ (by omega)
    by_cases hb : left ≤ jt
    · rw [if_pos (Or.inl hb)]; exact one_53_tp jt jf k left w hl (decide_eq_true hb) hb ht hf
    · by_cases hb2 : left ≤ jf
      · rw [if_pos (Or.inr hb2)]; exact one_53_fp jt jf k left w hl (decide_eq_false hb) (decide_eq_true hb2) hb hb2 ht hf
      · rw [if_neg (fun h => h.elim hb hb2)]; exact one_53_okp jt jf k left w hl (decide_eq_false hb) (decide_eq_false hb2) hb hb2 ht hf
theorem ref_69 (jt jf k left : Int) (w : World) (t0 : 0 ≤ jt) (t1 : jt < 256) (f0 : 0 ≤ jf) (f1 : jf < 256) (k0 : 0 ≤ k) (k1 : k < 4294967296) : OneTo 69 jt jf k left (oneE ⟨69, jt, jf, k⟩ left) w := by
  have hcl : clsI 69 = 4 := by decide +kernel
  have h0 : clsI 69 ≠ 0 := by rw [hcl]; decide
  rcases Int.lt_or_le left 0 with hl | hl
  · rw [oneE_jump hcl (by decide) (by decide) (by decide) (by decide) (by decide), max_neg hl]
    have ht : IntKind.i64.wrap jt = jt := IntWalk.i64_in _ (by omega)
    have hf : IntKind.i64.wrap jf = jf := IntWalk.i64_in _ (by omega)
    by_cases hb : 0 ≤ jt
    · rw [if_pos (Or.inl hb)]; exact one_69_tn jt jf k left w hl (decide_eq_true hb) hb ht hf
    · by_cases hb2 : 0 ≤ jf
      · rw [if_pos (Or.inr hb2)]; exact one_69_fn jt jf k left w hl (decide_eq_false hb) (decide_eq_true hb2) hb hb2 ht hf
      · rw [if_neg (fun h => h.elim hb hb2)]; exact one_69_okn jt jf k left w hl (decide_eq_false hb) (decide_eq_false hb2) hb hb2 ht hf
  · rw [oneE_jump hcl (by decide) (by decide) (by decide) (by decide) (by decide), max_pos hl]
    have ht : IntKind.i64.wrap jt = jt := IntWalk.i64_in _ (by omega)
    have hf : IntKind.i64.wrap jf = jf := IntWalk.i64_in _ (by omega)
    by_cases hb : left ≤ jt
    · rw [if_pos (Or.inl hb)]; exact one_69_tp jt jf k left w hl (decide_eq_true hb) hb ht hf
    · by_cases hb2 : left ≤ jf
      · rw [if_pos (Or.inr hb2)]; exact one_69_fp jt jf k left w hl (decide_eq_false hb) (decide_eq_true hb2) hb hb2 ht hf
      · rw [if_neg (fun h => h.elim hb hb2)]; exact one_69_okp jt jf k left w hl (decide_eq_false hb) (decide_eq_false hb2) hb hb2 ht hf
theorem ref_29 (jt jf k left : Int) (w : World) (t0 : 0 ≤ jt) (t1 : jt < 256) (f0 : 0 ≤ jf) (f1 : jf < 256) (k0 : 0 ≤ k) (k1 : k < 4294967296) : OneTo 29 jt jf k left (oneE ⟨29, jt, jf, k⟩ left) w := by
  have hcl : clsI 29 = 4 := by decide +kernel
  have h0 : clsI 29 ≠ 0 := by rw [hcl]; decide
  rcases Int.lt_or_le left 0 with hl | hl
  · rw [oneE_jump hcl (by decide) (by decide) (by decide) (by decide) (by decide), max_neg hl]
    have ht : IntKind.i64.wrap jt = jt := IntWalk.i64_in _ (by omega)
    have hf : IntKind.i64.wrap jf = jf := IntWalk.i64_in _ (by omega)
    by_cases hb : 0 ≤ jt
    · rw [if_pos (Or.inl hb)]; exact one_29_tn jt jf k left w hl (decide_eq_true hb) hb ht hf
    · by_cases hb2 : 0 ≤ jf
      · rw [if_pos (Or.inr hb2)]; exact one_29_fn jt jf k left w hl (decide_eq_false hb) (decide_eq_true hb2) hb hb2 ht hf
      · rw [if_neg (fun h => h.elim hb hb2)]; exact one_29_okn jt jf k left w hl (decide_eq_false hb) (decide_eq_false hb2) hb hb2 ht hf
  · rw [oneE_jump hcl (by decide) (by decide) (by decide) (by decide) (by decide), max_pos hl]
    have ht : IntKind.i64.wrap jt = jt := IntWalk.i64_in _ (by omega)
    have hf : IntKind.i64.wrap jf = jf := IntWalk.i64_in _ (by omega)
    by_cases hb : left ≤ jt
    · rw [if_pos (Or.inl hb)]; exact one_29_tp jt jf k left w hl (decide_eq_true hb) hb ht hf
    · by_cases hb2 : left ≤ jf
      · rw [if_pos (Or.inr hb2)]; exact one_29_fp jt jf k left w hl (decide_eq_false hb) (decide_eq_true hb2) hb hb2 ht hf
      · rw [if_neg (fun h => h.elim hb hb2)]; exact one_29_okp jt jf k left w hl (decide_eq_false hb) (decide_eq_false hb2) hb hb2 ht hf
theorem ref_45 (jt jf k left : Int) (w : World) (t0 : 0 ≤ jt) (t1 : jt < 256) (f0 : 0 ≤ jf) (f1 : jf < 256) (k0 : 0 ≤ k) (k1 : k < 4294967296) : OneTo 45 jt jf k left (oneE ⟨45, jt, jf, k⟩ left) w := by
  have hcl : clsI 45 = 4 := by decide +kernel
  have h0 : clsI 45 ≠ 0 := by rw [hcl]; decide
  rcases Int.lt_or_le left 0 with hl | hl
  · rw [oneE_jump hcl (by decide) (by decide) (by decide) (by decide) (by decide), max_neg hl]
    have ht : IntKind.i64.wrap jt = jt := IntWalk.i64_in _ (by omega)
    have hf : IntKind.i64.wrap jf = jf := IntWalk.i64_in _ (by omega)
    by_cases hb : 0 ≤ jt
    · rw [if_pos (Or.inl hb)]; exact one_45_tn jt jf k left w hl (decide_eq_true hb) hb ht hf
    · by_cases hb2 : 0 ≤ jf
      · rw [if_pos (Or.inr hb2)]; exact one_45_fn jt jf k left w hl (decide_eq_false hb) (decide_eq_true hb2) hb hb2 ht hf
      · rw [if_neg (fun h => h.elim hb hb2)]; exact one_45_okn jt jf k left w hl (decide_eq_false hb) (decide_eq_false hb2) hb hb2 ht hf
  · rw [oneE_jump hcl (by decide) (by decide) (by decide) (by decide) (by decide), max_pos hl]
    have ht : IntKind.i64.wrap jt = jt := IntWalk.i64_in _ (by omega)
    have hf : IntKind.i64.wrap jf = jf := IntWalk.i64_in _ (by omega)
    by_cases hb : left ≤ jt
    · rw [if_pos (Or.inl hb)]; exact one_45_tp jt jf k left w hl (decide_eq_true hb) hb ht hf
    · by_cases hb2 : left ≤ jf
      · rw [if_pos (Or.inr hb2)]; exact one_45_fp jt jf k left w hl (decide_eq_false hb) (decide_eq_true hb2) hb hb2 ht hf
      · rw [if_neg (fun h => h.elim hb hb2)]; exact one_45_okp jt jf k left w hl (decide_eq_false hb) (decide_eq_false hb2) hb hb2 ht hf
theorem ref_61 (jt jf k left : Int) (w : World) (t0 : 0 ≤ jt) (t1 : jt < 256) (f0 : 0 ≤ jf) (f1 : jf < 256) (k0 : 0 ≤ k) (k1 : k < 4294967296) : OneTo 61 jt jf k left (oneE ⟨61, jt, jf, k⟩ left) w := by
  have hcl : clsI 61 = 4 := by decide +kernel
  have h0 : clsI 61 ≠ 0 := by rw [hcl]; decide
  rcases Int.lt_or_le left 0 with hl | hl
  · rw [oneE_jump hcl (by decide) (by decide) (by decide) (by decide) (by decide), max_neg hl]
    have ht : IntKind.i64.wrap jt = jt := IntWalk.i64_in _ (by omega)
    have hf : IntKind.i64.wrap jf = jf := IntWalk.i64_in _ (by omega)
    by_cases hb : 0 ≤ jt
    · rw [if_pos (Or.inl hb)]; exact one_61_tn jt jf k left w hl (decide_eq_true hb) hb ht hf
    · by_cases hb2 : 0 ≤ jf
      · rw [if_pos (Or.inr hb2)]; exact one_61_fn jt jf k left w hl (decide_eq_false hb) (decide_eq_true hb2) hb hb2 ht hf
      · rw [if_neg (fun h => h.elim hb hb2)]; exact one_61_okn jt jf k left w hl (decide_eq_false hb) (decide_eq_false hb2) hb hb2 ht hf
  · rw [oneE_jump hcl (by decide) (by decide) (by decide) (by decide) (by decide), max_pos hl]
    have ht : IntKind.i64.wrap jt = jt := IntWalk.i64_in _ (by omega)
    have hf : IntKind.i64.wrap jf = jf := IntWalk.i64_in _ (by omega)
    by_cases hb : left ≤ jt
    · rw [if_pos (Or.inl hb)]; exact one_61_tp jt jf k left w hl (decide_eq_true hb) hb ht hf
    · by_cases hb2 : left ≤ jf
      · rw [if_pos (Or.inr hb2)]; exact one_61_fp jt jf k left w hl (decide_eq_false hb) (decide_eq_true hb2) hb hb2 ht hf
      · rw [if_neg (fun h => h.elim hb hb2)]; exact one_61_okp jt jf k left w hl (decide_eq_false hb) (decide_eq_false hb2) hb hb2 ht hf
theorem ref_77 (jt jf k left : Int) (w : World) (t0 : 0 ≤ jt) (t1 : jt < 256) (f0 : 0 ≤ jf) (f1 : jf < 256) (k0 : 0 ≤ k) (k1 : k < 4294967296) : OneTo 77 jt jf k left (oneE ⟨77, jt, jf, k⟩ left) w := by
  have hcl : clsI 77 = 4 := by decide +kernel
  have h0 : clsI 77 ≠ 0 := by rw [hcl]; decide
  rcases Int.lt_or_le left 0 with hl | hl
  · rw [oneE_jump hcl (by decide) (by decide) (by decide) (by decide) (by decide), max_neg hl]
    have ht : IntKind.i64.wrap jt = jt := IntWalk.i64_in _ (by omega)
    have hf : IntKind.i64.wrap jf = jf := IntWalk.i64_in _ (by omega)
    by_cases hb : 0 ≤ jt
    · rw [if_pos (Or.inl hb)]; exact one_77_tn jt jf k left w hl (decide_eq_true hb) hb ht hf
    · by_cases hb2 : 0 ≤ jf
      · rw [if_pos (Or.inr hb2)]; exact one_77_fn jt jf k left w hl (decide_eq_false hb) (decide_eq_true hb2) hb hb2 ht hf
      · rw [if_neg (fun h => h.elim hb hb2)]; exact one_77_okn jt jf k left w hl (decide_eq_false hb) (decide_eq_false hb2) hb hb2 ht hf
  · rw [oneE_jump hcl (by decide) (by decide) (by decide) (by decide) (by decide), max_pos hl]
    have ht : IntKind.i64.wrap jt = jt := IntWalk.i64_in _ (by omega)
    have hf : IntKind.i64.wrap jf = jf := IntWalk.i64_in _ (by omega)
    by_cases hb : left ≤ jt
    · rw [if_pos (Or.inl hb)]; exact one_77_tp jt jf k left w hl (decide_eq_true hb) hb ht hf
    · by_cases hb2 : left ≤ jf
      · rw [if_pos (Or.inr hb2)]; exact one_77_fp jt jf k left w hl (decide_eq_false hb) (decide_eq_true hb2) hb hb2 ht hf
      · rw [if_neg (fun h => h.elim hb hb2)]; exact one_77_okp jt jf k left w hl (decide_eq_false hb) (decide_eq_false hb2) hb hb2 ht hf
theorem ref_6 (jt jf k left : Int) (w : World) (t0 : 0 ≤ jt) (t1 : jt < 256) (f0 : 0 ≤ jf) (f1 : jf < 256) (k0 : 0 ≤ k) (k1 : k < 4294967296) : OneTo 6 jt jf k left (oneE ⟨6, jt, jf, k⟩ left) w := by
  have hcl : clsI 6 = 5 := by decide +kernel
  have h0 : clsI 6 ≠ 0 := by rw [hcl]; decide
  rcases Int.lt_or_le left 0 with hl | hl
  · rw [oneE_plain h0 (by rw [hcl]; decide) (by decide) (by decide) (by decide) (by decide) (by decide)]; exact one_6_okn jt jf k left w hl
  · rw [oneE_plain h0 (by rw [hcl]; decide) (by decide) (by decide) (by decide) (by decide) (by decide)]; exact one_6_okp jt jf k left w hl
theorem ref_22 (jt jf k left : Int) (w : World) (t0 : 0 ≤ jt) (t1 : jt < 256) (f0 : 0 ≤ jf) (f1 : jf < 256) (k0 : 0 ≤ k) (k1 : k < 4294967296) : OneTo 22 jt jf k left (oneE ⟨22, jt, jf, k⟩ left) w := by
  have hcl : clsI 22 = 5 := by decide +kernel
  have h0 : clsI 22 ≠ 0 := by rw [hcl]; decide
  rcases Int.lt_or_le left 0 with hl | hl
  · rw [oneE_plain h0 (by rw [hcl]; decide) (by decide) (by decide) (by decide) (by decide) (by decide)]; exact one_22_okn jt jf k left w hl
  · rw [oneE_plain h0 (by rw [hcl]; decide) (by decide) (by decide) (by decide) (by decide) (by decide)]; exact one_22_okp jt jf k left w hl
theorem ref_7 (jt jf k left : Int) (w : World) (t0 : 0 ≤ jt) (t1 : jt < 256) (f0 : 0 ≤ jf) (f1 : jf < 256) (k0 : 0 ≤ k) (k1 : k < 4294967296) : OneTo 7 jt jf k left (oneE ⟨7, jt, jf, k⟩ left) w := by
  have hcl : clsI 7 = 6 := by decide +kernel
  have h0 : clsI 7 ≠ 0 := by rw [hcl]; decide
  rcases Int.lt_or_le left 0 with hl | hl
  · rw [oneE_plain h0 (by rw [hcl]; decide) (by decide) (by decide) (by decide) (by decide) (by decide)]; exact one_7_okn jt jf k left w hl
  · rw [oneE_plain h0 (by rw [hcl]; decide) (by decide) (by decide) (by decide) (by decide) (by decide)]; exact one_7_okp jt jf k left w hl
theorem ref_135 (jt jf k left : Int) (w : World) (t0 : 0 ≤ jt) (t1 : jt < 256) (f0 : 0 ≤ jf) (f1 : jf < 256) (k0 : 0 ≤ k) (k1 : k < 4294967296) : OneTo 135 jt jf k left (oneE ⟨135, jt, jf, k⟩ left) w := by
  have hcl : clsI 135 = 6 := by decide +kernel
  have h0 : clsI 135 ≠ 0 := by rw [hcl]; decide
  rcases Int.lt_or_le left 0 with hl | hl
  · rw [oneE_plain h0 (by rw [hcl]; decide) (by decide) (by decide) (by decide) (by decide) (by decide)]; exact one_135_okn jt jf k left w hl
  · rw [oneE_plain h0 (by rw [hcl]; decide) (by decide) (by decide) (by decide) (by decide) (by decide)]; exact one_135_okp jt jf k left w hl
/-- What the document's One says. -/
theorem refOne (i : Ins) (hi : i.Ok) (left : Int) (w : World) : OneTo i.c i.jt i.jf i.k left (oneE i left) w := by
  obtain ⟨c, jt, jf, k⟩ := i
  obtain ⟨c0, c1, t0, t1, f0, f1, k0, k1⟩ := hi
  simp only at t0 t1 f0 f1 k0 k1 ⊢
  by_cases h0 : clsI c = 0
  · have hn : ofL allL c = noOne := by
      rcases known_name c with ⟨h, _⟩ | ⟨_, h⟩
      · unfold knownB at h
        exact absurd h0 (of_decide_eq_true h)
      · exact h
    rw [show oneE ⟨c, jt, jf, k⟩ left = 40 from by unfold oneE; rw [if_pos h0]]
    exact one_none c jt jf k left w hn
  · rcases known_codes h0 with rfl | rfl | rfl | rfl | rfl | rfl | rfl | rfl | rfl | rfl | rfl | rfl | rfl | rfl | rfl | rfl | rfl | rfl | rfl | rfl | rfl | rfl | rfl | rfl | rfl | rfl | rfl | rfl | rfl | rfl | rfl | rfl | rfl | rfl | rfl | rfl | rfl | rfl | rfl | rfl | rfl
    · exact ref_32 jt jf k left w t0 t1 f0 f1 k0 k1
    · exact ref_128 jt jf k left w t0 t1 f0 f1 k0 k1
    · exact ref_0 jt jf k left w t0 t1 f0 f1 k0 k1
    · exact ref_96 jt jf k left w t0 t1 f0 f1 k0 k1
    · exact ref_129 jt jf k left w t0 t1 f0 f1 k0 k1
    · exact ref_1 jt jf k left w t0 t1 f0 f1 k0 k1
    · exact ref_97 jt jf k left w t0 t1 f0 f1 k0 k1
    · exact ref_2 jt jf k left w t0 t1 f0 f1 k0 k1
    · exact ref_3 jt jf k left w t0 t1 f0 f1 k0 k1
    · exact ref_4 jt jf k left w t0 t1 f0 f1 k0 k1
    · exact ref_20 jt jf k left w t0 t1 f0 f1 k0 k1
    · exact ref_36 jt jf k left w t0 t1 f0 f1 k0 k1
    · exact ref_52 jt jf k left w t0 t1 f0 f1 k0 k1
    · exact ref_68 jt jf k left w t0 t1 f0 f1 k0 k1
    · exact ref_84 jt jf k left w t0 t1 f0 f1 k0 k1
    · exact ref_100 jt jf k left w t0 t1 f0 f1 k0 k1
    · exact ref_116 jt jf k left w t0 t1 f0 f1 k0 k1
    · exact ref_164 jt jf k left w t0 t1 f0 f1 k0 k1
    · exact ref_12 jt jf k left w t0 t1 f0 f1 k0 k1
    · exact ref_28 jt jf k left w t0 t1 f0 f1 k0 k1
    · exact ref_44 jt jf k left w t0 t1 f0 f1 k0 k1
    · exact ref_60 jt jf k left w t0 t1 f0 f1 k0 k1
    · exact ref_76 jt jf k left w t0 t1 f0 f1 k0 k1
    · exact ref_92 jt jf k left w t0 t1 f0 f1 k0 k1
    · exact ref_108 jt jf k left w t0 t1 f0 f1 k0 k1
    · exact ref_124 jt jf k left w t0 t1 f0 f1 k0 k1
    · exact ref_172 jt jf k left w t0 t1 f0 f1 k0 k1
    · exact ref_132 jt jf k left w t0 t1 f0 f1 k0 k1
    · exact ref_5 jt jf k left w t0 t1 f0 f1 k0 k1
    · exact ref_21 jt jf k left w t0 t1 f0 f1 k0 k1
    · exact ref_37 jt jf k left w t0 t1 f0 f1 k0 k1
    · exact ref_53 jt jf k left w t0 t1 f0 f1 k0 k1
    · exact ref_69 jt jf k left w t0 t1 f0 f1 k0 k1
    · exact ref_29 jt jf k left w t0 t1 f0 f1 k0 k1
    · exact ref_45 jt jf k left w t0 t1 f0 f1 k0 k1
    · exact ref_61 jt jf k left w t0 t1 f0 f1 k0 k1
    · exact ref_77 jt jf k left w t0 t1 f0 f1 k0 k1
    · exact ref_6 jt jf k left w t0 t1 f0 f1 k0 k1
    · exact ref_22 jt jf k left w t0 t1 f0 f1 k0 k1
    · exact ref_7 jt jf k left w t0 t1 f0 f1 k0 k1
    · exact ref_135 jt jf k left w t0 t1 f0 f1 k0 k1
end Go.Proofs.YtohfampfnhfnlaaDoor
namespace Go.Proofs.YtohfampfnhfnlaaDoor
open Go.RowKit
set_option linter.unusedVariables false
attribute [local go_sem ↓] Go.wp_at_zero Go.wp_at_succ

def AtTo (r : Nat × Int) (w : World) (e : Ending) (w' : World) : Prop := e = .returned (.tuple #[.int .i64 ((r.1 : Nat) : Int), .int .i64 r.2]) ∧ Below w.heap.size w w'
theorem at_size {p : List Ins} (h : p.length = 0 ∨ 4096 < p.length) : atL p = (0, 60) := by unfold atL; rw [if_pos h]
theorem at_bad {p : List Ins} {i : Nat} {x : Ins} (h0 : ¬ (p.length = 0 ∨ 4096 < p.length)) (hx : p[i]? = some x) (hb : badTo p i = none) (he : oneE x ((p.length : Int) - 1 - i) ≠ 0) : atL p = (i, oneE x ((p.length : Int) - 1 - i)) := by
  have hi := (List.getElem?_eq_some_iff.1 hx).1
  unfold atL
  rw [if_neg h0]
  cases hbb : badTo p p.length with
  | none => exact absurd (badTo_none.1 hbb i x hi hx) he
  | some r =>
    obtain ⟨n, e⟩ := r
    obtain ⟨h1, h2, ⟨y, hy, hye⟩, h4⟩ := badTo_some hbb
    rcases Nat.lt_trichotomy n i with h | h | h
    · exact absurd (hye.trans (badTo_none.1 hb n y h hy)) h2
    · subst h
      rw [hx] at hy
      injection hy with hy
      rw [← hy] at hye
      simp only [hye]
    · exact absurd (h4 i x h hx) he
theorem at_end {p : List Ins} (h0 : ¬ (p.length = 0 ∨ 4096 < p.length)) (hb : badTo p p.length = none) : atL p = (if lastC p = 5 then (match unsureL p with | [] => ((0, 0) : Nat × Int) | j :: _ => (j, 61)) else (p.length - 1, 46)) := by
  unfold atL
  rw [if_neg h0, hb]
  rfl
set_option maxRecDepth 100000 in
set_option maxHeartbeats 16000000 in
theorem refAt (a0 : Option Addr) (n cap : Nat) (p : List Ins) (w : World) (hl : p.length = n) (hp : OkL p) (hr : RdI w w.heap.size a0 p) : Calls Tryd.prog 12 #[.slice a0 n cap] w (AtTo (atL p) w) := by
  by_cases h0 : p.length = 0 ∨ 4096 < p.length
  · rw [at_size h0]
    rw [hl] at h0
    clear hl hp hr
    by_cases hz : n = 0
    · subst hz
      go_enter Tryd.func12, Tryd.ntmps12
      go_wp2
      go_ret2
      exact ⟨rfl, Below.refl _ _⟩
    · have h1 : (4096 : Int) < n := by omega
      have h2 : ((n : Int) == 0) = false := beq_eq_false_iff_ne.2 (by omega)
      have h3 : ¬ (n : Int) = 0 := by omega
      clear h0
      go_enter Tryd.func12, Tryd.ntmps12
      go_wp2
      go_ret2
      exact ⟨rfl, Below.refl _ _⟩
  · have HB0 := Lib.hid (fun (i : Nat) (x : Ins) hx hb he => at_bad (i := i) (x := x) h0 hx hb he)
    have HE0 := Lib.hid (at_end h0)
    have hn0 : 0 < n := by omega
    have hn4 : (n : Int) ≤ 4096 := by omega
    have n2 : ((n : Int) == 0) = false := beq_eq_false_iff_ne.2 (by omega)
    have n3 : ¬ (n : Int) = 0 := by omega
    have n5 : decide ((4096 : Int) < n) = false := decide_eq_false (by omega)
    have n6 : ¬ (4096 : Int) < n := by omega
    have HL := Lib.hid hl
    have HP := Lib.hid hp
    have HR := Lib.hid hr
    have HUN := Lib.hid (fun (W : World) (h : Below w.heap.size w W) => refUnsure a0 n cap p W hl (by omega) hp ((hr.keep fun q hq => h.cell hq).more h.size))
    rw [hl] at HB0 HE0
    clear hl hp hr h0
    go_enter Tryd.func12, Tryd.ntmps12
    go_wp2
    go_loopw [4] (fun v4 wr => ∃ i : Nat, i ≤ n ∧ v4 = .int .i64 i ∧ Hid (badTo p i = none) ∧ Hid (Below w.heap.size w wr)) (fun v4 _ => n - (intOf v4).toNat)
    case atStart => exact ⟨0, Nat.zero_le _, rfl, Lib.hid rfl, Lib.hid (Below.refl _ _)⟩
    case round =>
      obtain ⟨i, hi, rfl, HN, HB⟩ := hrel
      obtain ⟨W, rfl⟩ : ∃ wo : World, wo = wr := ⟨_, rfl⟩
      by_cases hlt : i < n
      · have hkl : i < p.length := by rw [HL.out]; exact hlt
        obtain ⟨b, o, rfl, hb, hcs⟩ := HR.out (by omega)
        have hat := hcs i hkl
        have hxo := HP.out.get hkl
        have hx : p[i]? = some p[i] := List.getElem?_eq_getElem hkl
        obtain ⟨x, hxx⟩ : ∃ x, x = p[i] := ⟨_, rfl⟩
        rw [← hxx] at hat hxo hx
        have HBB := Lib.hid (fun he => HB0.out i x hx HN.out he)
        have HNN := Lib.hid (fun (he : oneE x ((n : Int) - 1 - i) = 0) => show badTo p (i + 1) = none by
          unfold badTo
          rw [HN.out, hx]
          simp only
          rw [HL.out, if_pos he])
        have HO := Lib.hid (fun W => refOne x hxo ((n : Int) - 1 - i) W)
        obtain ⟨y, hy⟩ : ∃ y, y = oneE x ((n : Int) - 1 - i) := ⟨_, rfl⟩
        rw [← hy] at HBB HNN HO
        obtain ⟨q0, q1, q2, q3⟩ := hat.keep (w' := W) fun q hq => HB.out.cell (by omega)
        have i1 : (i : Int) < n := by omega
        have i2 : (0 : Int) ≤ i := by omega
        have w1 : IntKind.i64.wrap ((n : Int) - 1) = n - 1 := IntWalk.i64_in _ (by omega)
        have w2 : IntKind.i64.wrap ((n : Int) - 1 - i) = n - 1 - i := IntWalk.i64_in _ (by omega)
        clear hkl hb hcs hat hxo hx hxx hy
        unfold OneTo at HO
        obtain ⟨c, jt, jf, k⟩ := x
        simp only at q0 q1 q2 q3
        by_cases hy0 : y = 0
        · have y1 : (y != 0) = false := by rw [hy0]; rfl
          go_wp2_with (go_at_call 16; ((with_reducible refine (HO.out _).mono ?_); rintro e w1 ⟨rfl, b1⟩); have HB1 := Lib.hid (thn HB.out b1))
          go_roundw
          case rel => exact ⟨i + 1, by omega, by go_num, Lib.hid (HNN.out hy0), HB1⟩
          case measure => simp [intOf]; omega
        · have y1 : (y != 0) = true := by rw [bne_iff_ne]; exact hy0
          go_wp2_with (go_at_call 16; ((with_reducible refine (HO.out _).mono ?_); rintro e w1 ⟨rfl, b1⟩); have HB1 := Lib.hid (thn HB.out b1))
          go_ret2
          rw [HBB.out hy0]
          exact ⟨rfl, HB1.out⟩
      · obtain rfl : n = i := by omega
        have hat0 := HE0.out HN.out
        clear HB0 HE0
        have hkl : n - 1 < p.length := by rw [HL.out]; omega
        obtain ⟨b, o, rfl, hb, hcs⟩ := HR.out (by omega)
        have hat := hcs (n - 1) hkl
        have hx : p[n - 1]? = some p[n - 1] := List.getElem?_eq_getElem hkl
        obtain ⟨x, hxx⟩ : ∃ x, x = p[n - 1] := ⟨_, rfl⟩
        rw [← hxx] at hat hx
        have hlc : lastC p = clsI x.c := by unfold lastC; rw [HL.out, hx]
        rw [hlc] at hat0
        obtain ⟨q0, q1, q2, q3⟩ := hat.keep (w' := W) fun q hq => HB.out.cell (by omega)
        obtain ⟨c, jt, jf, k⟩ := x
        simp only at q0 q1 q2 q3 hat0
        have HO := Lib.hid (fun W => refOf_any c W)
        obtain ⟨cl, hcl⟩ : ∃ x, x = (ofL allL c).cls := ⟨_, rfl⟩
        obtain ⟨oc, hoc⟩ : ∃ x, x = (ofL allL c).code := ⟨_, rfl⟩
        obtain ⟨on, hon⟩ : ∃ x, x = (ofL allL c).name := ⟨_, rfl⟩
        rw [← hoc, ← hon, ← hcl] at HO
        rw [show clsI c = cl from hcl.symm] at hat0
        have w1 : IntKind.i64.wrap ((n : Int) - 1) = ((n - 1 : Nat) : Int) := by rw [IntWalk.i64_in _ (by omega)]; omega
        have w3 : (n : Int) - 1 = ((n - 1 : Nat) : Int) := by omega
        have w4 : (((n - 1 : Nat) : Int)) < n := by omega
        have hfd := one_field2
        have HB' := HB
        obtain ⟨m1, hm1⟩ : ∃ m, m = n - 1 := ⟨_, rfl⟩
        rw [← hm1] at q0 q1 q2 q3 w1 w3 w4 hat0
        have m0 : (0 : Int) ≤ m1 := by omega
        clear hkl hb hcs hat hx hxx hlc hcl hoc hon hm1
        by_cases h5 : cl = 5
        · rw [if_pos h5] at hat0
          have c5 : (cl != 5) = false := by rw [h5]; rfl
          cases hu : unsureL p with
          | nil =>
            rw [hu] at HUN hat0
            have HF := Lib.hid (show atL p = (0, 0) from hat0)
            clear hat0
            go_wp2_with (first
              | (go_at_call 22; ((with_reducible refine (HO.out _).mono ?_); rintro e w1 ⟨rfl, b1⟩); have HB1 := Lib.hid (thn HB.out b1))
              | (go_at_call 23; ((with_reducible refine (HUN.out _ HB1.out).mono ?_); rintro e w2 ⟨q, cc, rfl, o2, b2⟩); have HB2 := Lib.hid (thn HB1.out b2)))
            go_ret2
            rw [HF.out]
            exact ⟨rfl, HB2.out⟩
          | cons j r =>
            rw [hu] at HUN hat0
            have HF := Lib.hid (show atL p = (j, 61) from hat0)
            clear hat0
            unfold NextTo at HUN
            obtain ⟨m2, hm2⟩ : ∃ m, m = (j :: r).length := ⟨_, rfl⟩
            have HPC := Lib.hid (fun (W : World) (B c : Nat) (q : Option Addr) h => pl_cells' (w := W) (B := B) (c := c) (q := q) (l := j :: r) h (by simp))
            rw [← hm2] at HUN HPC
            have m3 : (0 : Int) < m2 := by rw [hm2, List.length_cons]; omega
            have m4 : 0 < m2 := by omega
            have m5 : ((m2 : Int) == 0) = false := beq_eq_false_iff_ne.2 (by omega)
            clear hm2 hu
            go_wp2_with (first
              | (go_at_call 22; ((with_reducible refine (HO.out _).mono ?_); rintro e w1 ⟨rfl, b1⟩); have HB1 := Lib.hid (thn HB.out b1))
              | (go_at_call 23; ((with_reducible refine (HUN.out _ HB1.out).mono ?_); rintro e w2 ⟨q, cc, rfl, o2, b2⟩); obtain ⟨g, hq, _, hc⟩ := HPC.out _ _ _ _ o2; subst hq; have c0 : w2.cell? ⟨g, 0, none⟩ = some (.int .i64 ((j : Nat) : Int)) := hc 0 m4; have HB2 := Lib.hid (thn HB1.out b2); clear hc o2))
            go_ret2
            rw [HF.out]
            exact ⟨rfl, HB2.out⟩
        · rw [if_neg h5] at hat0
          have HF := Lib.hid hat0
          clear hat0
          have c5 : (cl != 5) = true := by rw [bne_iff_ne]; exact h5
          go_wp2_with (go_at_call 22; ((with_reducible refine (HO.out _).mono ?_); rintro e w1 ⟨rfl, b1⟩); have HB1 := Lib.hid (thn HB.out b1))
          go_ret2
          rw [HF.out]
          exact ⟨rfl, HB1.out⟩
end Go.Proofs.YtohfampfnhfnlaaDoor
