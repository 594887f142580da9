/- The statement AsmLines holds, over what the calls have to return: a text is the lines of the instructions, in order, and labels. -/
import Derived.Test.YtlneiiljdghmjaaDoorRows
import Derived.Test.YtlneiiljdghmjaaDoorCards
import Derived.Test.YtlneiiljdghmjaaDoorTie
import Derived.SevenTiedAt
import Derived.Test.YtlneiiljdghmjaaDoorWd
import Derived.Test.YtlneiiljdghmjaaDoorLw
import Derived.Test.YtlneiiljdghmjaaDoorHt
import Derived.Test.YtlneiiljdghmjaaDoorLx
import Derived.Test.YtlneiiljdghmjaaDoorAh
import Derived.Test.YtlneiiljdghmjaaDoorFi
import Derived.Test.YtlneiiljdghmjaaDoorId
import Derived.Deep.RegionHeld3
import Derived.BigQuiet
import Derived.Deep.QuietTactic
import Derived.Test.YtlneiiljdghmjaaDoorAm
import Derived.Laws.IdiomStrings
namespace Go.Proofs.YtlneiiljdghmjaaDoor.asmLines
open Go.ChangeShapes Go.WideShapes Go.ChangeAt Go.RowKit
open Go.ChangeMaps (open_string shut_string)
set_option linter.unusedVariables false
attribute [local go_sem ↓] Go.wp_at_zero Go.wp_at_succ
theorem bs_get {l : List UInt8} {i : Nat} (h : i < (bs l).size) (h' : i < l.length) : (bs l)[i]'h = l[i] := rfl
/-- How many lines of instructions there are. -/
def cnt (l : List (List UInt8)) : Nat := (l.filter (fun x => !isLab x)).length
theorem instL_length : ∀ (q : List Ins) (a : Int), (instL q a).length = q.length
  | [], _ => rfl
  | x :: r, a => by show (instL r (a + 1)).length + 1 = r.length + 1; rw [instL_length r]
theorem instL_get : ∀ {q : List Ins} {a : Int} {i : Nat} (h : i < q.length), (instL q a)[i]? = some (lineI q[i] (a + i))
  | x :: r, a, 0, _ => by show some (lineI x a) = some (lineI x (a + (0 : Nat))); rw [show a + ((0 : Nat) : Int) = a by omega]
  | x :: r, a, i + 1, h => by
    have h' : i < r.length := by simpa using h
    show (instL r (a + 1))[i]? = some (lineI r[i] _)
    rw [instL_get h', show a + 1 + (i : Int) = a + ((i + 1 : Nat) : Int) by omega]
theorem line_is {p : List Ins} (hc : canL p = true) {done more : List (List UInt8)} {l : List UInt8} (h : linesTo p p.length = done ++ l :: more) (hl : isLab l = false) : ∃ (hi : cnt done < p.length), l = lineI p[cnt done] (cnt done : Nat) := by
  have e := inst_lines (can_of hc).2 (Nat.le_refl _)
  rw [h, List.take_length, List.filter_append, List.filter_cons, hl] at e
  simp only [Bool.not_false, if_true] at e
  have hlen : cnt done < p.length := by
    have := congrArg List.length e
    rw [instL_length, List.length_append, List.length_cons] at this
    unfold cnt; omega
  refine ⟨hlen, ?_⟩
  have hg := instL_get (a := 0) hlen
  rw [← e, List.getElem?_append_right (by unfold cnt; exact Nat.le_refl _)] at hg
  unfold cnt at hg ⊢
  rw [Nat.sub_self] at hg
  injection hg with hg
  rw [hg, Int.zero_add]
theorem all_count {p : List Ins} (hc : canL p = true) : cnt (linesTo p p.length) = p.length := by
  unfold cnt
  rw [inst_lines (can_of hc).2 (Nat.le_refl _), instL_length, List.take_length]
theorem cnt_snoc (a : List (List UInt8)) (l : List UInt8) : cnt (a ++ [l]) = cnt a + (if isLab l = true then 0 else 1) := by
  unfold cnt
  rw [List.filter_append, List.length_append, List.filter_cons]
  cases isLab l <;> rfl
theorem lab_is {p : List Ins} : ∀ {k : Nat}, canTo p k = true → ∀ l ∈ linesTo p k, isLab l = true → ∃ j, l = labelL j
  | 0, _, l, h, _ => absurd h (by simp [linesTo])
  | k + 1, hc, l, h, hl => by
    have hck := hc
    unfold canTo at hck
    rw [Bool.and_eq_true] at hck
    unfold linesTo at h
    rcases List.mem_append.1 h with h | h
    · exact lab_is hck.1 l h hl
    · rcases List.mem_append.1 h with h | h
      · split at h
        · exact ⟨k, List.mem_singleton.1 h⟩
        · exact absurd h (by simp)
      · cases hx : p[k]? with
        | none => rw [hx] at h; exact absurd h (by simp)
        | some x =>
          rw [hx] at h
          rw [List.mem_singleton.1 h, lab_line (can_plain hc (by omega) hx).1 (by omega)] at hl
          cases hl
/-- How far the loop is: lines that are done, lines that are not, the part of the first of these that is read. -/
structure At (p : List Ins) (i : Nat) (done todo : List (List UInt8)) (pre : List UInt8) : Prop where
  all : linesTo p p.length = done ++ todo
  pos : i = (flatL done).length + pre.length
  cur : (todo = [] ∧ pre = []) ∨ ∃ suf more, todo = (pre ++ suf) :: more
theorem text_lines (p : List Ins) : textL p = flatL (linesTo p p.length) := text_flat p p.length
theorem at_next {p : List Ins} {i : Nat} {done todo : List (List UInt8)} {pre : List UInt8} (h : At p i done todo pre) (hi : i < (textL p).length) (hc : canL p = true) :
    (∃ more, todo = pre :: more ∧ (textL p)[i]? = some 10 ∧ At p (i + 1) (done ++ [pre]) more []) ∨ (∃ c suf more, todo = (pre ++ c :: suf) :: more ∧ c ≠ 10 ∧ (textL p)[i]? = some c ∧ At p (i + 1) done todo (pre ++ [c])) := by
  obtain ⟨h1, h2, h3⟩ := h
  rcases h3 with ⟨rfl, rfl⟩ | ⟨suf, more, rfl⟩
  · rw [text_lines, h1, List.append_nil] at hi
    rw [List.length_nil] at h2
    omega
  · have ht : textL p = (flatL done ++ pre) ++ (suf ++ 10 :: flatL more) := by
      rw [text_lines, h1, flatL_app]
      show flatL done ++ ((pre ++ suf) ++ 10 :: flatL more) = _
      simp
    have hl : (flatL done ++ pre).length = i := by rw [List.length_append]; omega
    cases suf with
    | nil =>
      left
      refine ⟨more, by rw [List.append_nil], ?_, ⟨by rw [h1]; simp, ?_, ?_⟩⟩
      · rw [ht, List.getElem?_append_right (by omega), hl, Nat.sub_self]; rfl
      · rw [flatL_app, List.length_append, h2, List.length_nil]
        show _ = _ + (pre ++ 10 :: flatL []).length + 0
        rw [List.length_append]; rfl
      · cases more with
        | nil => left; exact ⟨rfl, rfl⟩
        | cons l m => right; exact ⟨l, m, rfl⟩
    | cons c r =>
      right
      have hm : (pre ++ c :: r) ∈ linesTo p p.length := by rw [h1]; simp
      refine ⟨c, r, more, rfl, lines_not (can_of hc).2 _ hm c (by simp), ?_, ⟨h1, ?_, Or.inr ⟨r, more, by simp⟩⟩⟩
      · rw [ht, List.getElem?_append_right (by omega), hl, Nat.sub_self]; rfl
      · rw [h2, List.length_append, List.length_singleton]; omega
theorem at_last {p : List Ins} {i : Nat} {done todo : List (List UInt8)} {pre : List UInt8} (h : At p i done todo pre) (hi : i = (textL p).length) : todo = [] ∧ pre = [] ∧ linesTo p p.length = done := by
  obtain ⟨h1, h2, h3⟩ := h
  rcases h3 with ⟨rfl, rfl⟩ | ⟨suf, more, rfl⟩
  · exact ⟨rfl, rfl, by rw [h1, List.append_nil]⟩
  · exfalso
    rw [text_lines, h1, flatL_app, List.length_append] at hi
    have : (flatL ((pre ++ suf) :: more)).length = (pre ++ suf).length + (1 + (flatL more).length) := by
      show ((pre ++ suf) ++ 10 :: flatL more).length = _
      rw [List.length_append, List.length_cons]; omega
    rw [this, List.length_append] at hi
    omega
theorem at_first (p : List Ins) : At p 0 [] (linesTo p p.length) [] := by
  refine ⟨rfl, rfl, ?_⟩
  cases linesTo p p.length with
  | nil => left; exact ⟨rfl, rfl⟩
  | cons l m => right; exact ⟨l, m, rfl⟩
theorem str1 (w : World) (c : UInt8) (t : TypeId) : ∀ j (hj : j < [c].length), (w.alloc (.cells #[.int .u8 (c.toNat : Int)] t)).cell? ((⟨w.heap.size, 0, none⟩ : Addr).add j) = some (.int .u8 ([c][j].toNat : Int)) := by
  intro j hj
  match j, hj with
  | 0, _ =>
    show (w.alloc _).cell? ⟨w.heap.size, 0, none⟩ = _
    rw [box_byte]; rfl
set_option maxRecDepth 100000 in
set_option maxHeartbeats 32000000 in
theorem walk {G : World → Prop} (HC : AsmC G) (a0 : Option Addr) (len0 cap0 : Nat) (z0 : List Ins) (w : World) (hG : G w) (w0 : IsInsns w a0 len0 cap0 z0) :
    Calls Tryd.prog 7 #[.slice a0 len0 cap0] w fun e w' => e = .returned (.bool true) ∧ Below w.heap.size w w' := by
  have HA := Lib.hid (awake7_any HC w hG)
  by_cases hbig : (200 : Int) < len0
  · clear HC hG w0
    go_enter Tryd.func7, Tryd.ntmps7
    go_wp2_with (go_at_call 18; ((with_reducible refine (HA.out).mono ?_); rintro e v1 ⟨rfl, b1⟩))
    go_ret
    exact ⟨rfl, b1⟩
  have HON := Lib.hid (fun (w w' : World) => HC.on (w := w) (w' := w'))
  have HG0 := Lib.hid hG
  have R0 := Lib.hid w0.rd
  have HL := Lib.hid w0.size
  have HOK := Lib.hid w0.ok
  have HTX := Lib.hid (fun (W : World) (g : G W) (h : RdI W W.heap.size a0 z0) => HC.text a0 len0 cap0 z0 W g w0.size w0.ok w0.fits w0.most w0.nil h)
  have HLN := Lib.hid (fun (x : Ins) (hx : x.Ok) (i : Nat) (hi : i ≤ 300) (W : World) (g : G W) => HC.line x i W g hx (by omega) (by omega))
  have k1 : (len0 : Int) ≤ 200 := by omega
  unfold textE textN at HTX
  cases hc : canL z0 with
  | false =>
    rw [hc] at HTX
    simp only [Bool.false_eq_true, if_false] at HTX
    rw [show bs [] = ⟨#[]⟩ from rfl] at HTX
    clear HC hG w0 hc
    go_enter Tryd.func7, Tryd.ntmps7
    go_wp2_with (first
      | (go_at_call 18; ((with_reducible refine (HA.out).mono ?_); rintro e v1 ⟨rfl, b1⟩); have G1 := HON.out _ _ HG0.out b1; have R1 := R0.out.on b1)
      | (go_at_call 10; ((with_reducible refine (HTX.out _ G1 R1).mono ?_); rintro e v2 ⟨rfl, b2⟩); have B2 := thn b1 b2))
    go_ret
    exact ⟨rfl, B2⟩
  | true =>
    rw [hc] at HTX
    simp only [if_true] at HTX
    have HCA := Lib.hid hc
    have htl : (textL z0).length ≤ 26000 := by have h := text_le w0.ok (k := z0.length) (by have := w0.size; omega); unfold textL; have := w0.size; omega
    obtain ⟨T, hT⟩ : ∃ T, T = textL z0 := ⟨_, rfl⟩
    rw [← hT] at HTX htl
    have HTT := Lib.hid hT
    obtain ⟨t, ht⟩ : ∃ t, t = bs T := ⟨_, rfl⟩
    rw [← ht] at HTX
    have hts : t.size = T.length := by rw [ht, bs_size]
    have HTB := Lib.hid ht
    have htz : (t.size : Int) ≤ 26000 := by omega
    have HTS := Lib.hid hts
    have HAC := Lib.hid (all_count hc)
    clear HC hG w0 hc hT ht hts htl
    go_enter Tryd.func7, Tryd.ntmps7
    go_wp2_with (first
      | (go_at_call 18; ((with_reducible refine (HA.out).mono ?_); rintro e v1 ⟨rfl, b1⟩); have G1 := HON.out _ _ HG0.out b1; have R1 := R0.out.on b1)
      | (go_at_call 10; ((with_reducible refine (HTX.out _ G1 R1).mono ?_); rintro e v2 ⟨rfl, b2⟩); have B2 := Lib.hid (thn b1 b2); have G2 := Lib.hid (HON.out _ _ G1 b2); have R2 := Lib.hid (R1.on b2)))
    clear G1 R1 b1 b2
    go_loopw [5, 6, 7] (fun v5 v6 v7 wr => ∃ (i : Nat) (done todo : List (List UInt8)) (pre : List UInt8), i ≤ t.size ∧ v7 = .int .i64 i ∧ v5 = .int .i64 ((cnt done : Nat) : Int) ∧ v6 = .string (bs pre) ∧ Hid (At z0 i done todo pre) ∧ Hid (Below v2.heap.size v2 wr)) (fun _ _ v7 _ => t.size - (intOf v7).toNat)
    case atStart => exact ⟨0, [], _, [], Nat.zero_le _, rfl, rfl, rfl, Lib.hid (at_first z0), Lib.hid (Below.refl _ _)⟩
    case round =>
      obtain ⟨i, done, todo, pre, hi, rfl, rfl, rfl, HT, PB⟩ := hrel
      obtain ⟨W, rfl⟩ : ∃ wo : World, wo = wr := ⟨_, rfl⟩
      by_cases hlt : i < t.size
      · have i1 : (i : Int) < t.size := by omega
        have i0 : (0 : Int) ≤ i := by omega
        have hT1 : i < (textL z0).length := by rw [← HTT.out, ← HTS.out]; exact hlt
        have hple : pre.length ≤ 26000 := by have := HT.out.pos; omega
        rcases at_next HT.out hT1 HCA.out with ⟨more, htd, hb, hnx⟩ | ⟨c, suf, more, htd, hc, hb, hnx⟩
        · have hti : t[i]'hlt = 10 := by
            have : T[i]? = some 10 := by rw [HTT.out]; exact hb
            have e := HTB.out
            subst e
            obtain ⟨h, e⟩ := List.getElem?_eq_some_iff.1 this
            exact e
          have HNX := Lib.hid hnx
          obtain ⟨c10, hc10⟩ : ∃ c : UInt8, c = 10 := ⟨_, rfl⟩
          rw [← hc10] at hti
          have e10 : (c10.toNat : Int) = 10 := by rw [hc10]; rfl
          have HAL := HT.out.all
          rw [htd] at HAL
          have hls : (bs pre).size = pre.length := bs_size pre
          have hgl := fun (k : Nat) (h : k < (bs pre).size) => bs_get (l := pre) h (by rw [← hls]; exact h)
          cases hlb : isLab pre with
          | true =>
            obtain ⟨j, hj⟩ := lab_is (can_of HCA.out).2 pre (by rw [HAL]; simp) hlb
            have hn := cnt_snoc done pre
            rw [hlb, if_pos rfl, Nat.add_zero] at hn
            have HCT := Lib.hid hn
            obtain ⟨m, hm⟩ : ∃ m, pre.length = m + 1 := ⟨(digL j).length + 1, by rw [hj]; unfold labelL; simp⟩
            have hm1 : 1 ≤ m := by
              have : (digL j).length ≠ 0 := fun e => digL_nil j (List.length_eq_zero_iff.1 e)
              rw [hj] at hm
              unfold labelL at hm
              simp at hm; omega
            have hlast : ∀ h, pre[m]'h = 58 := fun h => by
              have e : pre.getLast? = some 58 := beq_iff_eq.1 hlb
              rw [List.getLast?_eq_getElem?, hm, Nat.add_sub_cancel, List.getElem?_eq_getElem h] at e
              exact Option.some.inj e
            have hfirst : ∀ h, pre[0]'h = 76 := fun h => by
              have e : pre[0]? = some 76 := by rw [hj]; rfl
              rw [List.getElem?_eq_getElem h] at e
              exact Option.some.inj e
            have G1 := fun (h : m < (bs pre).size) => (hgl m h).trans (hlast (by omega))
            have G2' := fun (h : 0 < (bs pre).size) => (hgl 0 h).trans (hfirst (by omega))
            obtain ⟨c58, h58⟩ : ∃ c : UInt8, c = 58 := ⟨_, rfl⟩
            obtain ⟨c76, h76⟩ : ∃ c : UInt8, c = 76 := ⟨_, rfl⟩
            have e58 : (c58.toNat : Int) = 58 := by rw [h58]; rfl
            have e76 : (c76.toNat : Int) = 76 := by rw [h76]; rfl
            rw [hm] at hls
            clear hgl
            generalize bs pre = lv at G1 G2' hls ⊢
            have n3 : m < lv.size := by omega
            have n4 : 0 < lv.size := by omega
            have g1 := (G1 n3).trans h58.symm
            have g2 := (G2' n4).trans h76.symm
            have s1 : (1 : Int) < lv.size := by omega
            have s2 : (lv.size : Int) - 1 = m := by omega
            have s3 : (m : Int) < lv.size := by omega
            have s4 : (0 : Int) < lv.size := by omega
            have s5 : (lv.size : Int) ≤ 26001 := by omega
            clear hT1 htd hb hnx HT HAL hlb hj hn hm hm1 hlast hfirst hc10 h58 h76 hls G1 G2'
            go_wp2_with fail
            go_roundw
            case rel => exact ⟨i + 1, done ++ [pre], more, [], by omega, by go_num, by rw [HCT.out], rfl, HNX, PB⟩
            case measure => simp [intOf]; omega
          | false =>
            obtain ⟨hci, hle⟩ := line_is HCA.out HAL hlb
            have hn := cnt_snoc done pre
            rw [hlb, if_neg Bool.false_ne_true] at hn
            have HCT := Lib.hid hn
            obtain ⟨at_, hat⟩ : ∃ a, a = cnt done := ⟨_, rfl⟩
            have hcl : cnt done < len0 := by rw [← HL.out]; exact hci
            have hxo := HOK.out.get hci
            have HLN2 := Lib.hid (fun (V : World) (g : G V) => HLN.out z0[cnt done] hxo (cnt done) (by omega) V g)
            rw [← hle] at HLN2
            obtain ⟨b, o, rfl, hbB, hcs⟩ := R2.out (by omega)
            have hatc := hcs (cnt done) hci
            obtain ⟨x, hx⟩ : ∃ x, x = z0[cnt done] := ⟨_, rfl⟩
            rw [← hx] at hatc HLN2
            rw [← hat] at hatc HLN2 HCT hcl ⊢
            obtain ⟨q0, q1, q2, q3⟩ := hatc.keep (w' := W) fun q hq => PB.out.cell (by omega)
            have HGW := Lib.hid (HON.out _ _ G2.out PB.out)
            have at1 : (at_ : Int) < len0 := by omega
            have at0 : (0 : Int) ≤ at_ := by omega
            obtain ⟨c, jt, jf, kk⟩ := x
            simp only at q0 q1 q2 q3 HLN2
            by_cases hshort : pre.length ≤ 1
            · generalize bs pre = lv at hls HLN2 ⊢
              have s1 : ¬ (1 : Int) < lv.size := by omega
              have tt : (lv.toList == lv.toList) = true := by simp
              clear hT1 htd hb hnx HT HAL hgl hlb hn hle hci hcl hxo hbB hcs hatc hx hat hc10 hls hshort
              go_wp2_with (go_at_call 15; ((with_reducible refine (HLN2.out _ HGW.out).mono ?_); rintro e v3 ⟨rfl, b3⟩))
              go_roundw
              case rel => exact ⟨i + 1, done ++ [pre], more, [], by omega, by go_num, by rw [HCT.out]; simp, rfl, HNX, Lib.hid (thn PB.out b3)⟩
              case measure => simp [intOf]; omega
            · obtain ⟨m, hm⟩ : ∃ m, pre.length = m + 1 := ⟨pre.length - 1, by omega⟩
              have hm1 : 1 ≤ m := by omega
              obtain ⟨d, hd⟩ : ∃ d, d = pre[m]'(by omega) := ⟨_, rfl⟩
              have hd58 : d ≠ 58 := fun e => by
                have e2 : isLab pre = true := by
                  unfold isLab
                  rw [List.getLast?_eq_getElem?, hm, Nat.add_sub_cancel, List.getElem?_eq_getElem (by omega), ← hd, e]; rfl
                rw [hlb] at e2; cases e2
              have G1 := fun (h : m < (bs pre).size) => (hgl m h).trans hd.symm
              have dn : (d.toNat : Int) ≠ 58 := fun e => hd58 (UInt8.toNat_inj.1 (by show d.toNat = 58; omega))
              have db : ((d.toNat : Int) == 58) = false := beq_eq_false_iff_ne.2 dn
              rw [hm] at hls
              clear hgl
              generalize bs pre = lv at G1 hls HLN2 ⊢
              have n3 : m < lv.size := by omega
              have g1 := G1 n3
              have s1 : (1 : Int) < lv.size := by omega
              have s2 : (lv.size : Int) - 1 = m := by omega
              have s3 : (m : Int) < lv.size := by omega
              have s5 : (lv.size : Int) ≤ 26001 := by omega
              have tt : (lv.toList == lv.toList) = true := by simp
              clear hT1 htd hb hnx HT HAL hlb hn hle hci hcl hxo hbB hcs hatc hx hat hc10 hls hshort G1 hd hd58 hm hm1
              go_wp2_with (go_at_call 15; ((with_reducible refine (HLN2.out _ HGW.out).mono ?_); rintro e v3 ⟨rfl, b3⟩))
              go_roundw
              case rel => exact ⟨i + 1, done ++ [pre], more, [], by omega, by go_num, by rw [HCT.out]; simp, rfl, HNX, Lib.hid (thn PB.out b3)⟩
              case measure => simp [intOf]; omega
        · have hti : t[i]'hlt = c := by
            have : T[i]? = some c := by rw [HTT.out]; exact hb
            have e := HTB.out
            subst e
            obtain ⟨h, e⟩ := List.getElem?_eq_some_iff.1 this
            exact e
          have HNX := Lib.hid hnx
          have HS1 := Lib.hid (str1 W c 5)
          have cn : (c.toNat : Int) ≠ 10 := fun e => hc (UInt8.toNat_inj.1 (by show c.toNat = 10; omega))
          have cb : ((c.toNat : Int) != 10) = true := bne_iff_ne.2 cn
          clear hT1 htd hb hnx hc HT
          go_wp2_with (first
            | ((with_reducible show wpList _ _ _ (⟨some 38, _, _, _, _, _⟩ :: _) _ _)
               refine wpList_str (l := [c]) rfl rfl rfl HS1.out ?_)
            | ((with_reducible show wpList _ _ _ (⟨some 39, _, _, _, _, _⟩ :: _) _ _)
               refine wpList_cat rfl rfl rfl rfl (by simp only [List.length_cons, List.length_nil]; omega) ?_))
          go_roundw
          case rel => exact ⟨i + 1, done, todo, pre ++ [c], by omega, by go_num, rfl, rfl, HNX, Lib.hid (PB.out.alloc PB.out.size _)⟩
          case measure => simp [intOf]; omega
      · obtain rfl : i = t.size := by omega
        obtain ⟨rfl, rfl, hd⟩ := at_last HT.out (by rw [HTS.out, HTT.out])
        have hcd : cnt done = len0 := by rw [← hd, HAC.out, HL.out]
        rw [hcd, show bs [] = (⟨#[]⟩ : ByteArray) from rfl]
        clear hcd hd HT
        go_wp2_with fail
        go_ret
        exact ⟨by first | rfl | simp, thn B2.out PB.out⟩

set_option maxRecDepth 100000 in
theorem lifted (HC : AsmC GP) (os : Os) (started : os.Started) (H : Type) (enc : TypeId × Value → H) :
    ReturnsInHanded {} Tryd.checked os 7 .any (fun w args => (Rows.asmLinesSpec.pre enc Tryd.prog Tryd.f7 [] false w args ∧ laidMetH Tryd.prog listed6 w) ∧ sizedMet enc Tryd.prog Tryd.f7 (OpenSpec.ofChange Rows.asmLinesSpec) false w args)
      (Rows.asmLinesSpec.post enc Tryd.prog Tryd.f7 false true false false) := by
  refine returnsInHanded_of_change_and (C := Tryd.checked) (X := fun w _ => laidMetH Tryd.prog listed6 w) (fun _ _ _ hh h => h.of_heap hh) ownKnob_none started (by kernel_rfl) Tryd.func7
    (ChangeSpec.witness_shaped (enc := enc) (C := Tryd.checked) (os := os) (X := fun w _ => laidMetH Tryd.prog listed6 w) false (World.doorLaid Tryd.prog 4000 os) #[.slice none 0 0] 8 rfl (World.shaped_of_RefB (by kernel_rfl) (by kernel_rfl)) (by kernel_rfl) (by kernel_rfl) (by kernel_rfl) (door_met6 os _)) ?_
  intro W base args ds gs before hval0 hW _ _ hL _
  have hG : GP W := of_laid6 hL
  have hval : ∀ (j : Nat) t v, Tryd.f7.params[j]? = some t → args[j]? = some v → Value.okWide Tryd.prog W .any base t v := hval0
  have hW' := hW
  obtain ⟨p, q, hA0, hV, rfl, hfz, hnd⟩ := hW
  have hA : DataW.TrodAll enc Tryd.prog W 0 (fun _ => true) true Tryd.f7.params.toList args.toList ds p := hA0
  rw [Tryd.params7] at hA hval
  obtain ⟨v0, vs0, d0, ds0, p0, q0, hargs, rfl, rfl, h0, r0⟩ := trodAll_cons hA
  obtain ⟨rfl, rfl, rfl⟩ := trodAll_nil r0
  obtain rfl : args = #[v0] := by cases args; simp_all
  obtain ⟨rfl, rfl⟩ := trodVars_none hV
  obtain ⟨a0, len0, cap0, rfl⟩ := okWide_slice Tryd.underlying22 (hval 0 22 v0 rfl rfl)
  have k0 := h0
  have lt0 : ∀ x ∈ p0, x.block < W.heap.size := by obtain ⟨m, hm⟩ := k0; exact DataW.trod_lt m _ _ _ hm
  obtain ⟨z0, w0⟩ := insns_open h0 lt0
  clear hA0 hval0
  refine (walk HC a0 len0 cap0 z0 W hG w0).mono fun e W' ⟨he, bel⟩ => ?_
  subst he
  exact ⟨_, rfl, _, _, _, [], _, [], hW', trodAll_mk1 (shut_bool Tryd.underlying4 _), (trodAll_cons_mk (Below.trod laidOut (by kernel_rfl) (of_decide_eq_true (by kernel_rfl)) k0 bel lt0) trodAll_mk0), rfl, bel.frame _, fun h => by cases h⟩

theorem over (HC : AsmC GP) : Rows.asmLinesRow.holds Tryd.pinned (OpenSpec.ofChange Rows.asmLinesSpec) :=
  OpenClaim.holds_of_wide 7 Tryd.f7 rfl rfl rfl rfl rfl rfl rfl ⟨rfl, rfl, rfl, rfl, rfl⟩ rfl rfl rfl rfl rfl (by kernel_rfl) Tryd.func7 (by kernel_rfl)
    (of_decide_eq_true (by kernel_rfl)) (by unfold Func.isWrapper; first | (rw [if_pos (by decide +kernel)]; kernel_rfl) | (rw [if_neg (by decide +kernel)]; exact ⟨rfl, rfl⟩))
    (fun os started H enc _ => lifted HC os started H enc)

/-- The row's statement. -/
theorem row_holds : Rows.AsmLinesSaid := over asmC
/-- The statement: the row, its table tied to the program's text. -/
theorem proved : Rows.AsmLinesCardSaid :=
  Claim7.holds_tied_plain_at .later [] [.data, .data, .data, .sentinel, .sentinel, .data] true Rows.asmLinesCard.stood.harness Rows.asmLinesCard.stood.looks
    row_holds (fun _ h => by cases h) (by kernel_rfl) (fun _ h => by cases h) asmLines_row_tie rfl ⟨rfl, rfl⟩ (by kernel_rfl) rfl
    (fun f fn hf hfn => by
      obtain rfl : f = 7 := Option.some.inj ((show Tryd.prog.funcNamed "vestibule/vestibulelaw07.AsmLines" = some 7 by kernel_rfl).symm.trans hf) |>.symm
      obtain rfl : fn = Tryd.f7 := (Option.some.inj (Tryd.func7.symm.trans hfn)).symm
      exact ⟨by kernel_rfl, fun j t ht => by
        have hm : t ∈ Tryd.f7.params.toList := by simpa using Array.mem_of_getElem? ht
        have hall : (Tryd.f7.params.toList.all fun u => !Tryd.prog.wantsStandIn u) = true := by kernel_rfl
        exact (show Tryd.prog.wantsStandIn t = false by simpa using List.all_eq_true.1 hall t hm)⟩)
    (by kernel_rfl)
#print axioms proved
end Go.Proofs.YtlneiiljdghmjaaDoor.asmLines
