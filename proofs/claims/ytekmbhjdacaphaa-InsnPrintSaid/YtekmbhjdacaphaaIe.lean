/- What the document's own Decode and Parse return of bytes. Condition: at most 2 to the 40th bytes. -/
import Derived.Test.YtekmbhjdacaphaaId
namespace Go.Proofs.Ytekmbhjdacaphaa
open Go.RowKit
set_option linter.unusedVariables false
attribute [local go_sem ↓] Go.wp_at_zero Go.wp_at_succ

theorem refDecode_any (p : Option Addr) (c : Nat) (xs : List Int) (w : World) (hx : xs.length = 8) (hB : Byt xs) (h : Rd w w.heap.size p xs) :
    Calls Try.prog 17 #[.slice p 8 c] w fun e w' => e = .returned (.agg #[.int .u16 (decL xs).c, .int .u8 (decL xs).jt, .int .u8 (decL xs).jf, .int .u32 (decL xs).k]) ∧ Below w.heap.size w w' := by
  have ok := decL_ok hB
  have hc0 := getV_true (k := 2) (xs := xs) (a := 0) (by omega)
  have hk0 := getV_true (k := 4) (xs := xs) (a := 4) (by omega)
  have G2 := Lib.hid (fun W (hw : Rd W w.heap.size p xs) => refGet2_any p 8 c _ xs W hx hB (by omega) hw 0 (by omega))
  have G4 := Lib.hid (fun W (hw : Rd W w.heap.size p xs) => refGet4_any p 8 c _ xs W hx hB (by omega) hw 4 (by omega))
  have e2 : getV 2 xs 0 = (decL xs).c := hc0
  have e4 : getV 4 xs 4 = (decL xs).k := hk0
  rw [e2, getB_true (by omega) (by omega)] at G2
  rw [e4, getB_true (by omega) (by omega)] at G4
  obtain ⟨b, o, rfl, hb, hcl⟩ := h (by omega)
  have c2 := hcl 2 (by omega)
  have c3 := hcl 3 (by omega)
  have hr := h
  obtain ⟨i, hi⟩ : ∃ i, i = decL xs := ⟨_, rfl⟩
  have j2 : xs.getD 2 0 = i.jt := by rw [hi]; rfl
  have j3 : xs.getD 3 0 = i.jf := by rw [hi]; rfl
  rw [← hi] at G2 G4 ok ⊢
  rw [j2] at c2
  rw [j3] at c3
  clear hi j2 j3 hc0 hk0 e2 e4 hcl
  obtain ⟨ci, jt, jf, ki⟩ := i
  obtain ⟨q0, q1, q2, q3, q4, q5, q6, q7⟩ := ok
  simp only at q0 q1 q2 q3 q4 q5 q6 q7 c2 c3
  have hra := Lib.hid (show Rd (w.alloc (.cells #[.int .u16 0, .int .u8 0, .int .u8 0, .int .u32 0] 35)) w.heap.size (some ⟨b, o, none⟩) xs from hr.alloc (Nat.le_refl _) _)
  have d2 : (w.alloc (.cells #[.int .u16 0, .int .u8 0, .int .u8 0, .int .u32 0] 35)).cell? ⟨b, o + 2, none⟩ = some (.int .u8 jt) := (World.cell?_alloc_lt w _ ⟨b, o + 2, none⟩ hb).trans c2
  have d3 : (w.alloc (.cells #[.int .u16 0, .int .u8 0, .int .u8 0, .int .u32 0] 35)).cell? ⟨b, o + 3, none⟩ = some (.int .u8 jf) := (World.cell?_alloc_lt w _ ⟨b, o + 3, none⟩ hb).trans c3
  clear hx hB h hr
  go_enter Try.func17, Try.ntmps17
  go_wp2_with (first
    | (go_at_call 27; ((with_reducible refine (G2.out _ hra.out).mono ?_); rintro e w' ⟨rfl, rfl⟩))
    | (go_at_call 27; ((with_reducible refine (G4.out _ hra.out).mono ?_); rintro e w' ⟨rfl, rfl⟩)))
  go_region
  go_wp2
  refine bodyPost_ret (v := .agg #[.int .u16 ci, .int .u8 jt, .int .u8 jf, .int .u32 ki]) (by simp [results, Try.results17, go_sem]) rfl ⟨rfl, ?_⟩
  exact ((Below.refl _ _).alloc (Nat.le_refl _) _).drew

theorem insC_one (i : Ins) : ∀ v ∈ insC i, v.oneCell' = true := by
  intro v hi
  simp only [insC, List.mem_cons, List.not_mem_nil, or_false] at hi
  rcases hi with rfl | rfl | rfl | rfl <;> rfl
theorem refParse_bad (p : Option Addr) (n c : Nat) (w : World) (h : n % 8 ≠ 0) (hm : n ≤ 1099511627776) :
    Calls Try.prog 15 #[.slice p n c] w fun e w' => e = .returned (.tuple #[.slice none 0 0, .int .i64 20]) ∧ w = w' := by
  have h1 : (((n : Int) % 8) != 0) = true := by simp; omega
  have h2 : ¬ (n : Int) % 8 = 0 := by omega
  clear h
  go_enter Try.func15, Try.ntmps15
  go_wp2
  go_ret2
  exact ⟨rfl, rfl⟩
theorem refParse_long (p : Option Addr) (n c : Nat) (w : World) (h : n % 8 = 0) (hn : 32768 < n) (hm : n ≤ 1099511627776) :
    Calls Try.prog 15 #[.slice p n c] w fun e w' => e = .returned (.tuple #[.slice none 0 0, .int .i64 3]) ∧ w = w' := by
  have h1 : (((n : Int) % 8) != 0) = false := by simp; omega
  have h2 : (32768 : Int) < n := by omega
  clear h
  go_enter Try.func15, Try.ntmps15
  go_wp2
  go_ret2
  exact ⟨rfl, rfl⟩
set_option maxHeartbeats 1600000 in
theorem refParse_good (p : Option Addr) (n c N : Nat) (xs : List Int) (w : World) (hx : xs.length = n) (hB : Byt xs) (hN : n = 8 * N) (hn : n ≤ 32768) (hc : n ≤ c) (hcm : c ≤ 9223372036854775807) (h : Rd w w.heap.size p xs) :
    Calls Try.prog 15 #[.slice p n c] w fun e w' => ∃ q d, e = .returned (.tuple #[.slice q N d, .int .i64 0]) ∧ w'.ownsRow w.heap.size 35 4 (.slice q N d) N (progC (progI N xs)) ∧ (q = none → d = 0) ∧ Below w.heap.size w w' := by
  obtain ⟨i0, hi, hz0, hz1, hz2⟩ := info_parts insn_info
  have HI := Lib.hid hi
  have H0 := Lib.hid hz0
  have H1 := Lib.hid hz1
  have H2 := Lib.hid hz2
  have HX := Lib.hid hx
  have HB := Lib.hid hB
  have HN := Lib.hid hN
  have HR := Lib.hid h
  have h1 : (((n : Int) % 8) != 0) = false := by simp; omega
  have h2 : ¬ (32768 : Int) < n := by omega
  clear hi hz0 hz1 hz2 hx hB hN h
  go_enter Try.func15, Try.ntmps15
  go_wp2_with fail
  go_loopw [4, 5] (fun v i wr => ∃ m : Nat, m ≤ n ∧ i = .int .i64 m ∧ (∃ k, Hid (m = 8 * k) ∧ wr.ownsRow w.heap.size 35 4 v k (progC (progI k xs))) ∧ Below w.heap.size w wr) (fun _ i _ => n - (intOf i).toNat)
  case atStart => exact ⟨0, Nat.zero_le _, rfl, ⟨0, rfl, World.ownsRow_nil _ _ _ _⟩, Below.refl _ _⟩
  case round =>
    obtain ⟨m, hm, rfl, ⟨k, hk, hown⟩, hb⟩ := hrel
    by_cases hlt : m < n
    · have h8 : m + 8 ≤ n := by have := hk.out; have := HN.out; omega
      have hr' := (HR.out.below hb (Nat.le_refl _))
      obtain ⟨b, o, rfl, hbb, _⟩ := hr' (by have := HX.out; omega)
      have hcut := (hr'.cut m 8).more hb.size
      have hl8 := Lib.hid (show ((xs.drop m).take 8).length = 8 by rw [List.length_take, List.length_drop, HX.out]; omega)
      have hb8 := Lib.hid ((HB.out.drop m).take 8)
      have hst := Lib.hid (show progC (progI (k + 1) xs) = progC (progI k xs) ++ insC (decL ((xs.drop m).take 8)) by rw [progI_snoc, progC_app, ← hk.out]; simp [progC])
      obtain ⟨i, hi⟩ : ∃ i, i = decL ((xs.drop m).take 8) := ⟨_, rfl⟩
      have HD := Lib.hid (refDecode_any (some ⟨b, o + m, none⟩) (c - m) ((xs.drop m).take 8) wr hl8.out hb8.out hcut)
      rw [← hi] at HD hst
      clear hi hr' hcut
      obtain ⟨ci, jt, jf, ki⟩ := i
      have m0 : (0 : Int) ≤ m := by omega
      have m1 : (m : Int) + 8 ≤ n := by omega
      have m2 : ¬ c = m := by omega
      have m3 : (m : Int) + 8 ≤ c := by omega
      have hk1 : k + 1 ≤ 4096 := by have := hk.out; omega
      go_wp2_with (first
        | (go_at_call 17; ((with_reducible refine HD.out.mono ?_); rintro e w1 ⟨rfl, b1⟩); have hown1 := own_on hown b1)
        | (at_builtin
           refine wpList_append_own _ rfl (.tmp 19) (.tmp 26) 22 rfl w.heap.size 35 i0 _ 4 8 Try.underlying22 HI.out H0.out H1.out H2.out rfl (by omega) _ k (progC (progI k xs)) rfl (hown1.alloc _) ⟨w1.heap.size, 0, none⟩ 1 1 (insC ⟨ci, jt, jf, ki⟩) rfl rfl (news_lit w1 _ _ _ rfl) (insC_one _) (by unfold maxLen; omega) (by omega) (by have := hb.size; have := b1.size; simp; omega) ?_
           intro v2 w2 o2 hg2 _))
      go_roundw
      case rel =>
        have hBs : w.heap.size ≤ w1.heap.size := Nat.le_trans hb.size b1.size
        refine ⟨m + 8, h8, by go_num, ⟨k + 1, by have := hk.out; show m + 8 = 8 * (k + 1); omega, by rw [hst.out]; exact o2⟩, ((thn hb b1).alloc hBs _).grown hg2 (by simp; omega) (fun g hg => ?_)⟩
        exact (hown.lt g hg).1
      case measure => simp [intOf]; omega
    · obtain rfl : m = n := by omega
      obtain rfl : k = N := by have := hk.out; have := HN.out; omega
      obtain ⟨q, d, rfl, hr, hn, _⟩ := own_shapeI hown
      go_wp2_with fail
      go_ret2
      exact ⟨q, d, rfl, hown, hn, hb⟩
end Go.Proofs.Ytekmbhjdacaphaa
