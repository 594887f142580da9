/- The statement AsmParse holds, over what the calls have to return: a text is read as the program that can be written whose text it is, else refused. -/
import Derived.Test.YtlneiiljdghmjaaDoorRows
import Derived.Test.YtlneiiljdghmjaaDoorCards
import Derived.Test.YtlneiiljdghmjaaDoorTie
import Derived.SevenTiedAt
import Derived.Test.YtlneiiljdghmjaaDoorWd
import Derived.Test.YtlneiiljdghmjaaDoorLw
import Derived.Test.YtlneiiljdghmjaaDoorHt
import Derived.Test.YtlneiiljdghmjaaDoorLx
import Derived.Test.YtlneiiljdghmjaaDoorAh
import Derived.Test.YtlneiiljdghmjaaDoorFi
import Derived.Test.YtlneiiljdghmjaaDoorId
import Derived.Deep.RegionHeld3
import Derived.BigQuiet
import Derived.Deep.QuietTactic
import Derived.Test.YtlneiiljdghmjaaDoorAm
import Derived.Laws.BitsAllLaws
namespace Go.Proofs.YtlneiiljdghmjaaDoor.asmParse
open Go.ChangeShapes Go.WideShapes Go.ChangeAt Go.RowKit
open Go.ChangeMaps (open_string shut_string)
set_option linter.unusedVariables false
attribute [local go_sem ↓] Go.wp_at_zero Go.wp_at_succ
/-- The bytes of a string, in memory of their own. -/
theorem wpList_bytes {ops : Array Oper} {rest : List Oper} {op : Oper} {A : Operand} {a : Act} {w : World} {Q : Exit → Act → World → Prop} {l : List UInt8} (hgd : op.guard = none) (ho : op.op = .convert 9 36 A)
    (hA : a.eval A = .string (bs l))
    (h : ∀ (w1 : World) (cap : Nat), Below w.heap.size w w1 → (∀ (j : Nat) (hj : j < l.length), w1.cell? ⟨w.heap.size, j, none⟩ = some (.int .u8 (l[j].toNat : Int))) → (∀ j, j < l.length → w1.frozen? ⟨w.heap.size, j, none⟩ = false) → wpList Tryd.prog ops Q rest (a.put op.dst (.slice (some ⟨w.heap.size, 0, none⟩) l.length cap)) w1) : wpList Tryd.prog ops Q (op :: rest) a w :=
  wpList_plain hgd fun _ hK => by
    have hrun := run_bytes_of_string (P := Tryd.prog) w 9 36 5 (bs l) Tryd.underlying9 Tryd.underlying36 Tryd.underlying5
    rw [bs_size] at hrun
    obtain ⟨cp, hcp⟩ : ∃ c, c = grownCap w l.length 0 5 := ⟨_, rfl⟩
    rw [← hcp] at hrun
    have hc : ∀ (j : Nat) (hj : j < l.length), (bytesRow (bs l) cp)[j]? = some (.int .u8 (l[j].toNat : Int)) := fun j hj => by
      unfold bytesRow bs
      rw [Array.getElem?_append_left (by simp; exact hj)]
      simp [hj]
    have hsz : l.length ≤ (bytesRow (bs l) cp).size := by unfold bytesRow bs; simp
    have hr : (execOp a.eval op).run Tryd.prog w = .ok (.value (.slice (some ⟨w.heap.size, 0, none⟩) l.length cp)) (w.drew.alloc (.cells (bytesRow (bs l) cp) 5 ((bytesRow (bs l) cp).size, (bytesRow (bs l) cp).size + 1))) := by
      unfold execOp
      rw [ho]
      simp [hA, hrun]
    unfold Oper.wp
    rw [hr]
    refine hK _ _ (h _ cp ((Below.refl _ _).drew.alloc (Nat.le_refl _) _) (fun j hj => ?_) (fun j hj => ?_))
    · rw [show w.heap.size = w.drew.heap.size from rfl, World.cell?_alloc_mark]; exact hc j hj
    · rw [show w.heap.size = w.drew.heap.size from rfl, World.frozen?_alloc_mark, decide_eq_false (by omega), Bool.false_and]
theorem wpList_str2 {ops : Array Oper} {rest : List Oper} {op : Oper} {A : Operand} {a : Act} {w : World} {Q : Exit → Act → World → Prop} {l : List UInt8} {p : Addr} {n cap : Nat} (hl : l.length = n) (hgd : op.guard = none) (ho : op.op = .convert 36 9 A)
    (hA : a.eval A = .slice (some p) n cap) (hc : ∀ j (hj : j < l.length), w.cell? (p.add j) = some (.int .u8 (l[j].toNat : Int)))
    (h : wpList Tryd.prog ops Q rest (a.put op.dst (.string (bs l))) w) : wpList Tryd.prog ops Q (op :: rest) a w := by
  subst hl
  exact wpList_str hgd ho hA hc h
theorem set_cells {w : World} {g n : Nat} {l : List UInt8} (hn : n < l.length) (y : Nat) (hy : y < 256) (hc : ∀ (j : Nat) (hj : j < l.length), w.cell? ⟨g, j, none⟩ = some (.int .u8 (l[j].toNat : Int))) :
    ∀ j (hj : j < (l.set n (UInt8.ofNat y)).length), (w.setCell ⟨g, n, none⟩ (.int .u8 y)).cell? ((⟨g, 0, none⟩ : Addr).add j) = some (.int .u8 ((l.set n (UInt8.ofNat y))[j].toNat : Int)) := by
  intro j hj
  have hj' : j < l.length := by rwa [List.length_set] at hj
  rw [Addr.add_lit, Nat.zero_add]
  by_cases e : j = n
  · subst e
    rw [World.cell?_setCell_same w _ _ (hc j hj'), List.getElem_set_self]
    have : (UInt8.ofNat y).toNat = y := by rw [UInt8.toNat_ofNat']; omega
    rw [this]
  · rw [World.cell?_setCell_other w _ _ _ (fun h => e (by injection h with h1 h2 h3; omega)), List.getElem_set_ne (fun h => e h.symm)]
    exact hc j hj'
theorem wrongCell {w : World} {g : Nat} {l : List UInt8} (hc : ∀ (j : Nat) (hj : j < l.length), w.cell? ⟨g, j, none⟩ = some (.int .u8 (l[j].toNat : Int))) : ∀ j (hj : j < l.length), w.cell? ((⟨g, 0, none⟩ : Addr).add j) = some (.int .u8 (l[j].toNat : Int)) := fun j hj => by
  rw [Addr.add_lit, Nat.zero_add]; exact hc j hj
theorem bytes_ne {a b : List UInt8} (h : a ≠ b) : ((bs a).toList == (bs b).toList) = false := beq_eq_false_iff_ne.2 (fun e => h (bs_inj (list_of_bytes e)))
set_option maxRecDepth 100000 in
set_option maxHeartbeats 32000000 in
theorem walk {G : World → Prop} (HC : AsmC G) (a0 : ByteArray) (a1 : Option Addr) (len1 cap1 : Nat) (z1 : List Ins) (a2 : Int) (a3 : Int) (w : World) (hG : G w) (w0 : a0.size ≤ 140737488355328) (w1 : IsInsns w a1 len1 cap1 z1) (w2 : (Lit.int .i64 a2).wf = true) (w3 : (Lit.int .u8 a3).wf = true) :
    Calls Tryd.prog 5 #[.string a0, .slice a1 len1 cap1, .int .i64 a2, .int .u8 a3] w fun e w' => e = .returned (.bool true) ∧ Below w.heap.size w w' := by
  by_cases hlong : (3000 : Int) < a0.size
  · clear HC hG w0 w1
    go_enter Tryd.func5, Tryd.ntmps5
    go_wp2_with fail
    go_ret
    exact ⟨rfl, Below.refl _ _⟩
  by_cases hbig : (200 : Int) < len1
  · clear HC hG w0 w1
    go_enter Tryd.func5, Tryd.ntmps5
    go_wp2_with fail
    go_ret
    exact ⟨rfl, Below.refl _ _⟩
  have HON := Lib.hid (fun (w w' : World) => HC.on (w := w) (w' := w'))
  have HG0 := Lib.hid hG
  have HRC := Lib.hid (fun (V : World) (b : Below w.heap.size w V) => refCan a1 len1 cap1 z1 V w1.size w1.ok (w1.rd.on b))
  have HRT := Lib.hid (fun (V : World) (b : Below w.heap.size w V) => refText a1 len1 cap1 z1 V w1.size (by omega) w1.ok (w1.rd.on b))
  have HQC := Lib.hid (fun (q : List Ins) (h1 : OkL q) (a : Option Addr) (c : Nat) (V : World) (h : RdI V V.heap.size a q) => refCan a q.length c q V rfl h1 h)
  have HQT := Lib.hid (fun (q : List Ins) (h1 : OkL q) (h2 : canL q = true) (a : Option Addr) (c : Nat) (V : World) (h : RdI V V.heap.size a q) => refText a q.length c q V rfl (can_of h2).1 h1 h)
  have k1 : (a0.size : Int) ≤ 3000 := by omega
  have k2 : (len1 : Int) ≤ 200 := by omega
  have HPY := Lib.hid (fun (q : List Ins) (h1 : OkL q) (h2 : canL q = true) (h3 : (textL q).length ≤ 140737488355328) (V : World) (b : Below w.heap.size w V) => parse_text HC q h1 h2 h3 V (HC.on hG b))
  have HPN := Lib.hid (fun (l : List UInt8) (h3 : l.length ≤ 140737488355328) (hn : ∀ q, OkL q → canL q = true → textL q ≠ l) (V : World) (b : Below w.heap.size w V) => parse_none HC l h3 hn V (HC.on hG b))
  have h3i := w3
  cases hc : canL z1 with
  | false =>
    rw [hc] at HRC
    have HX := Lib.hid (bs_self a0)
    have hxs : a0.data.toList.length ≤ 140737488355328 := w0
    obtain ⟨X, hX⟩ : ∃ X, X = a0.data.toList := ⟨_, rfl⟩
    rw [← hX] at HX hxs
    clear HC hG w0 w1 hc hX HRT w2 w3 h3i
    have hx := HX.out
    subst hx
    by_cases hex : ∃ q, OkL q ∧ canL q = true ∧ textL q = X
    · obtain ⟨q, q1, q2, q3⟩ := hex
      have HPS := Lib.hid (HPY.out q q1 q2 (by rw [q3]; exact hxs))
      have HQ1 := Lib.hid (HQC.out q q1)
      have HQ2 := Lib.hid (HQT.out q q1 q2)
      rw [q2] at HQ1
      rw [q3] at HPS HQ2
      obtain ⟨x, hx⟩ : ∃ x, x = bs X := ⟨_, rfl⟩
      have hxx : (x.toList == x.toList) = true := by simp
      obtain ⟨ql, hql⟩ : ∃ m, m = q.length := ⟨_, rfl⟩
      rw [← hx] at HPS HQ2 k1 ⊢
      rw [← hql] at HPS HQ1 HQ2
      clear HPY HPN HQC HQT hxs hql q1 q2 q3 hx
      go_enter Tryd.func5, Tryd.ntmps5
      go_wp2_with (first
        | (go_at_call 12; ((with_reducible refine (HRC.out w (Below.refl _ _)).mono ?_); rintro e v1 ⟨rfl, b1⟩))
        | (go_at_call 17; ((with_reducible refine (HPS.out _ b1).mono ?_); rintro e v6 ⟨a6, c6, rfl, r6, f6, m6, n6, b6⟩); have B6 := thn b1 b6)
        | (go_at_call 12; ((with_reducible refine (HQ1.out _ _ _ r6).mono ?_); rintro e v7 ⟨rfl, b7⟩); have B7 := thn B6 b7; have r7 := r6.on b7)
        | (go_at_call 14; ((with_reducible refine (HQ2.out _ _ _ r7).mono ?_); rintro e v8 ⟨rfl, b8⟩); have B8 := thn B7 b8))
      go_ret
      exact ⟨by first | rfl | simp, B8⟩
    · have HPS := Lib.hid (HPN.out X hxs (fun q h1 h2 h3 => hex ⟨q, h1, h2, h3⟩))
      clear HPY HPN HQC HQT hxs hex
      go_enter Tryd.func5, Tryd.ntmps5
      go_wp2_with (first
        | (go_at_call 12; ((with_reducible refine (HRC.out w (Below.refl _ _)).mono ?_); rintro e v1 ⟨rfl, b1⟩))
        | (go_at_call 17; ((with_reducible refine (HPS.out _ b1).mono ?_); rintro e v6 ⟨rfl, b6⟩); have B6 := thn b1 b6)
        | (go_at_call 12; ((with_reducible refine (HRC.out v6 B6).mono ?_); rintro e v7 ⟨rfl, b7⟩); have B7 := thn B6 b7))
      go_ret
      exact ⟨by first | rfl | simp, B7⟩
  | true =>
    have hcs := hc
    rw [hc] at HRC
    have hok1 : OkL z1 := w1.ok
    obtain ⟨T, hT⟩ : ∃ T, T = textL z1 := ⟨_, rfl⟩
    have htl : T.length ≤ 26000 := by have h := text_le w1.ok (k := z1.length) (by have := w1.size; omega); rw [hT]; unfold textL; have := w1.size; omega
    rw [← hT] at HRT
    have HZ := Lib.hid (⟨z1, hok1, hcs, hT.symm⟩ : ∃ q, OkL q ∧ canL q = true ∧ textL q = T)
    obtain ⟨b0, b1'⟩ := bounds_u8 h3i
    clear HC hG w0 w1 hc hcs hok1 hT w2 w3 h3i
    by_cases hin : 0 ≤ a2 ∧ a2 < T.length
    · obtain ⟨n, rfl⟩ := Int.eq_ofNat_of_zero_le hin.1
      have hn : n < T.length := by omega
      obtain ⟨m, rfl⟩ := Int.eq_ofNat_of_zero_le b0
      obtain ⟨y, hy⟩ : ∃ y, y = T[n].toNat ^^^ m := ⟨_, rfl⟩
      have ht8 : T[n].toNat < 256 := T[n].toNat_lt
      have hy8 : y < 256 := by rw [hy]; exact Nat.xor_lt_two_pow (n := 8) ht8 (by omega)
      have hbx : bits .xor .u8 (T[n].toNat : Int) m = (y : Int) := by rw [hy]; exact u8_xor_nat _ _ ht8 (by omega)
      obtain ⟨X, hX⟩ : ∃ X, X = T.set n (UInt8.ofNat y) := ⟨_, rfl⟩
      have HXL := Lib.hid (show X.length = T.length by rw [hX, List.length_set])
      have HST := Lib.hid (fun (V : World) (g : Nat) (hc : ∀ (j : Nat) (hj : j < T.length), V.cell? ⟨g, j, none⟩ = some (.int .u8 (T[j].toNat : Int))) => set_cells hn y hy8 hc)
      rw [← hX] at HST
      have HCN := Lib.hid (fun (V : World) (g : Nat) (hc : ∀ (j : Nat) (hj : j < T.length), V.cell? ⟨g, j, none⟩ = some (.int .u8 (T[j].toNat : Int))) => hc n hn)
      have HFN := Lib.hid (fun (V : World) (g : Nat) (hf : ∀ j, j < T.length → V.frozen? ⟨g, j, none⟩ = false) => hf n hn)
      obtain ⟨ob, hob⟩ : ∃ o, o = T[n].toNat := ⟨_, rfl⟩
      rw [← hob] at hbx HCN ht8
      have hxs : X.length ≤ 140737488355328 := by rw [HXL.out]; omega
      have n1 : (n : Int) < T.length := by omega
      have n0 : (0 : Int) ≤ n := by omega
      have o1 : (ob : Int) < 256 := by omega
      have y1 : (y : Int) < 256 := by omega
      clear hin hy hX hob hy8 ht8 hn
      by_cases hex : ∃ q, OkL q ∧ canL q = true ∧ textL q = X
      · obtain ⟨q, q1, q2, q3⟩ := hex
        have HPS := Lib.hid (HPY.out q q1 q2 (by rw [q3]; exact hxs))
        have HQ1 := Lib.hid (HQC.out q q1)
        have HQ2 := Lib.hid (HQT.out q q1 q2)
        rw [q2] at HQ1
        rw [q3] at HPS HQ2
        have hxx : ((bs X).toList == (bs X).toList) = true := by simp
        obtain ⟨ql, hql⟩ : ∃ m, m = q.length := ⟨_, rfl⟩
        rw [← hql] at HPS HQ1 HQ2
        clear HPY HPN HQC HQT hxs hql q1 q2 q3
        go_enter Tryd.func5, Tryd.ntmps5
        go_wp2_with (first
          | (go_at_call 12; ((with_reducible refine (HRC.out w (Below.refl _ _)).mono ?_); rintro e v1 ⟨rfl, b1⟩))
          | (go_at_call 14; ((with_reducible refine (HRT.out v1 b1).mono ?_); rintro e v2 ⟨rfl, b2⟩); have B2 := thn b1 b2)
          | ((with_reducible show wpList _ _ _ (⟨some 26, _, _, _, _, _⟩ :: _) _ _)
             refine wpList_bytes (l := T) rfl rfl rfl ?_
             intro v3 cp b3 hc3 hf3
             have B3 := thn B2 b3
             have s3 := HCN.out v3 _ hc3
             have f3 := HFN.out v3 _ hf3
             have B4 := Lib.hid (B3.setCell (p := ⟨v2.heap.size, n, none⟩) B2.size (.int .u8 (y : Int)))
             have S4 := Lib.hid (HST.out v3 v2.heap.size hc3)
             clear hc3 hf3)
          | ((with_reducible show wpList _ _ _ (⟨some 45, _, _, _, _, _⟩ :: _) _ _)
             refine wpList_str2 (l := X) HXL.out rfl rfl rfl S4.out ?_)
          | (go_at_call 17; ((with_reducible refine (HPS.out _ B4.out).mono ?_); rintro e v6 ⟨a6, c6, rfl, r6, f6, m6, n6, b6⟩); have B6 := thn B4.out b6)
          | (go_at_call 12; ((with_reducible refine (HQ1.out _ _ _ r6).mono ?_); rintro e v7 ⟨rfl, b7⟩); have B7 := thn B6 b7; have r7 := r6.on b7)
          | (go_at_call 14; ((with_reducible refine (HQ2.out _ _ _ r7).mono ?_); rintro e v8 ⟨rfl, b8⟩); have B8 := thn B7 b8))
        go_ret
        exact ⟨by first | rfl | simp, B8⟩
      · have HPS := Lib.hid (HPN.out X hxs (fun q h1 h2 h3 => hex ⟨q, h1, h2, h3⟩))
        have hne : X ≠ T := fun e => hex (by rw [e]; exact HZ.out)
        have HNE := bytes_ne hne
        clear hne
        clear HPY HPN HQC HQT hxs hex
        go_enter Tryd.func5, Tryd.ntmps5
        go_wp2_with (first
          | (go_at_call 12; ((with_reducible refine (HRC.out w (Below.refl _ _)).mono ?_); rintro e v1 ⟨rfl, b1⟩))
          | (go_at_call 14; ((with_reducible refine (HRT.out v1 b1).mono ?_); rintro e v2 ⟨rfl, b2⟩); have B2 := thn b1 b2)
          | ((with_reducible show wpList _ _ _ (⟨some 26, _, _, _, _, _⟩ :: _) _ _)
             refine wpList_bytes (l := T) rfl rfl rfl ?_
             intro v3 cp b3 hc3 hf3
             have B3 := thn B2 b3
             have s3 := HCN.out v3 _ hc3
             have f3 := HFN.out v3 _ hf3
             have B4 := Lib.hid (B3.setCell (p := ⟨v2.heap.size, n, none⟩) B2.size (.int .u8 (y : Int)))
             have S4 := Lib.hid (HST.out v3 v2.heap.size hc3)
             clear hc3 hf3)
          | ((with_reducible show wpList _ _ _ (⟨some 45, _, _, _, _, _⟩ :: _) _ _)
             refine wpList_str2 (l := X) HXL.out rfl rfl rfl S4.out ?_)
          | (go_at_call 17; ((with_reducible refine (HPS.out _ B4.out).mono ?_); rintro e v6 ⟨rfl, b6⟩); have B6 := thn B4.out b6)
          | (go_at_call 12; ((with_reducible refine (HRC.out v6 B6).mono ?_); rintro e v7 ⟨rfl, b7⟩); have B7 := thn B6 b7)
          | (go_at_call 14; ((with_reducible refine (HRT.out v7 B7).mono ?_); rintro e v8 ⟨rfl, b8⟩); have B8 := thn B7 b8))
        go_ret
        exact ⟨by first | rfl | simp, B8⟩
    · have hxs : T.length ≤ 140737488355328 := by omega
      obtain ⟨q, q1, q2, q3⟩ := HZ.out
      have HPS := Lib.hid (HPY.out q q1 q2 (by rw [q3]; exact hxs))
      have HQ1 := Lib.hid (HQC.out q q1)
      have HQ2 := Lib.hid (HQT.out q q1 q2)
      rw [q2] at HQ1
      rw [q3] at HPS HQ2
      have hxx : ((bs T).toList == (bs T).toList) = true := by simp
      obtain ⟨ql, hql⟩ : ∃ m, m = q.length := ⟨_, rfl⟩
      rw [← hql] at HPS HQ1 HQ2
      have HST := Lib.hid (fun (V : World) (g : Nat) (hc : ∀ (j : Nat) (hj : j < T.length), V.cell? ⟨g, j, none⟩ = some (.int .u8 (T[j].toNat : Int))) => wrongCell hc)
      clear HPY HPN HQC HQT hxs hql q1 q2 q3
      by_cases hneg : a2 < 0
      · clear hin
        go_enter Tryd.func5, Tryd.ntmps5
        go_wp2_with (first
          | (go_at_call 12; ((with_reducible refine (HRC.out w (Below.refl _ _)).mono ?_); rintro e v1 ⟨rfl, b1⟩))
          | (go_at_call 14; ((with_reducible refine (HRT.out v1 b1).mono ?_); rintro e v2 ⟨rfl, b2⟩); have B2 := thn b1 b2)
          | ((with_reducible show wpList _ _ _ (⟨some 26, _, _, _, _, _⟩ :: _) _ _)
             refine wpList_bytes (l := T) rfl rfl rfl ?_
             intro v3 cp b3 hc3 hf3
             have B3 := thn B2 b3
             have S4 := Lib.hid (HST.out v3 v2.heap.size hc3)
             clear hc3 hf3)
          | ((with_reducible show wpList _ _ _ (⟨some 45, _, _, _, _, _⟩ :: _) _ _)
             refine wpList_str2 (l := T) rfl rfl rfl rfl S4.out ?_)
          | (go_at_call 17; ((with_reducible refine (HPS.out _ B3).mono ?_); rintro e v6 ⟨a6, c6, rfl, r6, f6, m6, n6, b6⟩); have B6 := thn B3 b6)
          | (go_at_call 12; ((with_reducible refine (HQ1.out _ _ _ r6).mono ?_); rintro e v7 ⟨rfl, b7⟩); have B7 := thn B6 b7; have r7 := r6.on b7)
          | (go_at_call 14; ((with_reducible refine (HQ2.out _ _ _ r7).mono ?_); rintro e v8 ⟨rfl, b8⟩); have B8 := thn B7 b8))
        go_ret
        exact ⟨by first | rfl | simp, B8⟩
      · have h1 : (0 : Int) ≤ a2 := by omega
        have h2 : ¬ a2 < T.length := fun e => hin ⟨h1, e⟩
        clear hin hneg
        go_enter Tryd.func5, Tryd.ntmps5
        go_wp2_with (first
          | (go_at_call 12; ((with_reducible refine (HRC.out w (Below.refl _ _)).mono ?_); rintro e v1 ⟨rfl, b1⟩))
          | (go_at_call 14; ((with_reducible refine (HRT.out v1 b1).mono ?_); rintro e v2 ⟨rfl, b2⟩); have B2 := thn b1 b2)
          | ((with_reducible show wpList _ _ _ (⟨some 26, _, _, _, _, _⟩ :: _) _ _)
             refine wpList_bytes (l := T) rfl rfl rfl ?_
             intro v3 cp b3 hc3 hf3
             have B3 := thn B2 b3
             have S4 := Lib.hid (HST.out v3 v2.heap.size hc3)
             clear hc3 hf3)
          | ((with_reducible show wpList _ _ _ (⟨some 45, _, _, _, _, _⟩ :: _) _ _)
             refine wpList_str2 (l := T) rfl rfl rfl rfl S4.out ?_)
          | (go_at_call 17; ((with_reducible refine (HPS.out _ B3).mono ?_); rintro e v6 ⟨a6, c6, rfl, r6, f6, m6, n6, b6⟩); have B6 := thn B3 b6)
          | (go_at_call 12; ((with_reducible refine (HQ1.out _ _ _ r6).mono ?_); rintro e v7 ⟨rfl, b7⟩); have B7 := thn B6 b7; have r7 := r6.on b7)
          | (go_at_call 14; ((with_reducible refine (HQ2.out _ _ _ r7).mono ?_); rintro e v8 ⟨rfl, b8⟩); have B8 := thn B7 b8))
        go_ret
        exact ⟨by first | rfl | simp, B8⟩

set_option maxRecDepth 100000 in
theorem lifted (HC : AsmC GP) (os : Os) (started : os.Started) (H : Type) (enc : TypeId × Value → H) :
    ReturnsInHanded {} Tryd.checked os 5 .any (fun w args => (Rows.asmParseSpec.pre enc Tryd.prog Tryd.f5 [] false w args ∧ laidMetH Tryd.prog listed6 w) ∧ sizedMet enc Tryd.prog Tryd.f5 (OpenSpec.ofChange Rows.asmParseSpec) false w args)
      (Rows.asmParseSpec.post enc Tryd.prog Tryd.f5 false true false false) := by
  refine returnsInHanded_of_change_and (C := Tryd.checked) (X := fun w _ => laidMetH Tryd.prog listed6 w) (fun _ _ _ hh h => h.of_heap hh) ownKnob_none started (by kernel_rfl) Tryd.func5
    (ChangeSpec.witness_shaped (enc := enc) (C := Tryd.checked) (os := os) (X := fun w _ => laidMetH Tryd.prog listed6 w) false (World.doorLaid Tryd.prog 4000 os) #[.string ⟨#[]⟩, .slice none 0 0, .int .i64 0, .int .u8 0] 8 rfl (World.shaped_of_RefB (by kernel_rfl) (by kernel_rfl)) (by kernel_rfl) (by kernel_rfl) (by kernel_rfl) (door_met6 os _)) ?_
  intro W base args ds gs before hval0 hW _ hsz0 hL _
  have hG : GP W := of_laid6 hL
  have hval : ∀ (j : Nat) t v, Tryd.f5.params[j]? = some t → args[j]? = some v → Value.okWide Tryd.prog W .any base t v := hval0
  have hW' := hW
  obtain ⟨p, q, hA0, hV, rfl, hfz, hnd⟩ := hW
  have hA : DataW.TrodAll enc Tryd.prog W 0 (fun _ => true) true Tryd.f5.params.toList args.toList ds p := hA0
  have hsz : (DataW.weightsEach Tryd.prog (Tryd.f5.params.toList ++ Rows.asmParseSpec.plain.varTypes Tryd.prog) (ds ++ gs)).all (· ≤ reachBytes) = true := hsz0
  rw [Tryd.params5] at hA hval hsz
  obtain ⟨v0, vs0, d0, ds0, p0, q0, hargs, rfl, rfl, h0, r0⟩ := trodAll_cons hA
  obtain ⟨v1, vs1, d1, ds1, p1, q1, rfl, rfl, rfl, h1, r1⟩ := trodAll_cons r0
  obtain ⟨v2, vs2, d2, ds2, p2, q2, rfl, rfl, rfl, h2, r2⟩ := trodAll_cons r1
  obtain ⟨v3, vs3, d3, ds3, p3, q3, rfl, rfl, rfl, h3, r3⟩ := trodAll_cons r2
  obtain ⟨rfl, rfl, rfl⟩ := trodAll_nil r3
  obtain rfl : args = #[v0, v1, v2, v3] := by cases args; simp_all
  obtain ⟨rfl, rfl⟩ := trodVars_none hV
  obtain ⟨a0, rfl, rfl, rfl, x0⟩ := open_string Tryd.underlying9 (hval 0 9 v0 rfl rfl) h0
  have w0 : a0.size ≤ 140737488355328 := by
    have h := sized_string hsz (j := 0) (t := 9) rfl rfl
    exact Nat.le_trans (show a0.size ≤ reachBytes from h) (by decide)
  obtain ⟨a1, len1, cap1, rfl⟩ := okWide_slice Tryd.underlying22 (hval 1 22 v1 rfl rfl)
  have k1 := h1
  have lt1 : ∀ x ∈ p1, x.block < W.heap.size := by obtain ⟨m, hm⟩ := k1; exact DataW.trod_lt m _ _ _ hm
  obtain ⟨z1, w1⟩ := insns_open h1 lt1
  obtain ⟨a2, rfl, rfl, rfl, w2⟩ := open_int Tryd.underlying3 (hval 2 3 v2 rfl rfl) h2
  obtain ⟨a3, rfl, rfl, rfl, w3⟩ := open_int Tryd.underlying5 (hval 3 5 v3 rfl rfl) h3
  clear hA0 hval0
  refine (walk HC a0 a1 len1 cap1 z1 a2 a3 W hG w0 w1 w2 w3).mono fun e W' ⟨he, bel⟩ => ?_
  subst he
  exact ⟨_, rfl, _, _, _, [], _, [], hW', trodAll_mk1 (shut_bool Tryd.underlying4 _), (trodAll_cons_mk (shut_string Tryd.underlying9 x0) (trodAll_cons_mk (Below.trod laidOut (by kernel_rfl) (of_decide_eq_true (by kernel_rfl)) k1 bel lt1) (trodAll_cons_mk (shut_int Tryd.underlying3 w2) (trodAll_cons_mk (shut_int Tryd.underlying5 w3) trodAll_mk0)))), rfl, bel.frame _, fun h => by cases h⟩

theorem over (HC : AsmC GP) : Rows.asmParseRow.holds Tryd.pinned (OpenSpec.ofChange Rows.asmParseSpec) :=
  OpenClaim.holds_of_wide 5 Tryd.f5 rfl rfl rfl rfl rfl rfl rfl ⟨rfl, rfl, rfl, rfl, rfl⟩ rfl rfl rfl rfl rfl (by kernel_rfl) Tryd.func5 (by kernel_rfl)
    (of_decide_eq_true (by kernel_rfl)) (by unfold Func.isWrapper; first | (rw [if_pos (by decide +kernel)]; kernel_rfl) | (rw [if_neg (by decide +kernel)]; exact ⟨rfl, rfl⟩))
    (fun os started H enc _ => lifted HC os started H enc)

/-- The row's statement. -/
theorem row_holds : Rows.AsmParseSaid := over asmC
/-- The statement: the row, its table tied to the program's text. -/
theorem proved : Rows.AsmParseCardSaid :=
  Claim7.holds_tied_plain_at .later [] [.data, .data, .data, .sentinel, .sentinel, .data] true Rows.asmParseCard.stood.harness Rows.asmParseCard.stood.looks
    row_holds (fun _ h => by cases h) (by kernel_rfl) (fun _ h => by cases h) asmParse_row_tie rfl ⟨rfl, rfl⟩ (by kernel_rfl) rfl
    (fun f fn hf hfn => by
      obtain rfl : f = 5 := Option.some.inj ((show Tryd.prog.funcNamed "vestibule/vestibulelaw07.AsmParse" = some 5 by kernel_rfl).symm.trans hf) |>.symm
      obtain rfl : fn = Tryd.f5 := (Option.some.inj (Tryd.func5.symm.trans hfn)).symm
      exact ⟨by kernel_rfl, fun j t ht => by
        have hm : t ∈ Tryd.f5.params.toList := by simpa using Array.mem_of_getElem? ht
        have hall : (Tryd.f5.params.toList.all fun u => !Tryd.prog.wantsStandIn u) = true := by kernel_rfl
        exact (show Tryd.prog.wantsStandIn t = false by simpa using List.all_eq_true.1 hall t hm)⟩)
    (by kernel_rfl)
#print axioms proved
end Go.Proofs.YtlneiiljdghmjaaDoor.asmParse
