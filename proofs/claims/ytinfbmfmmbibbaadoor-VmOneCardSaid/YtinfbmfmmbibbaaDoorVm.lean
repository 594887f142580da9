/- The statement VmOne holds: any instruction, between any two numbers in A and X, and what is told then, is what the chapter says. No condition. -/
import Derived.Test.YtinfbmfmmbibbaaDoorRows
import Derived.Test.YtinfbmfmmbibbaaDoorCards
import Derived.Test.YtinfbmfmmbibbaaDoorTie
import Derived.SevenTiedAt
import Derived.Test.YtinfbmfmmbibbaaDoorFr
import Derived.Test.YtinfbmfmmbibbaaDoorLw
import Derived.Test.YtinfbmfmmbibbaaDoorNp
import Derived.Test.YtinfbmfmmbibbaaDoorVi
import Derived.Test.YtinfbmfmmbibbaaDoorDd
import Derived.Test.YtinfbmfmmbibbaaDoorId
import Derived.Deep.RegionHeld3
import Derived.BigQuiet
import Derived.Deep.QuietTactic
import Derived.Test.YtinfbmfmmbibbaaDoorFi
import Derived.Deep.MidRow
namespace Go.Proofs.YtinfbmfmmbibbaaDoor.vmOne
open Go.ChangeShapes Go.WideShapes Go.ChangeAt Go.RowKit
open Go.ChangeMaps (open_string shut_string)
set_option linter.unusedVariables false
attribute [local go_sem ↓] Go.wp_at_zero Go.wp_at_succ

theorem progC_set : ∀ (l : List Ins) (i : Nat) (c jt jf k : Int), i < l.length → ((((progC l).set (i * 4) (.int .u16 c)).set (i * 4 + 1) (.int .u8 jt)).set (i * 4 + 2) (.int .u8 jf)).set (i * 4 + 3) (.int .u32 k) = progC (l.set i ⟨c, jt, jf, k⟩)
  | [], i, c, jt, jf, k, h => absurd h (by simp)
  | a :: r, 0, c, jt, jf, k, h => rfl
  | a :: r, i + 1, c, jt, jf, k, h => by
    have ih := progC_set r i c jt jf k (by simpa using h)
    show ((((insC a ++ progC r).set ((i + 1) * 4) (.int .u16 c)).set ((i + 1) * 4 + 1) (.int .u8 jt)).set ((i + 1) * 4 + 2) (.int .u8 jf)).set ((i + 1) * 4 + 3) (.int .u32 k) = insC a ++ progC (r.set i ⟨c, jt, jf, k⟩)
    have hl : (insC a).length = 4 := rfl
    rw [List.set_append_right _ _ (by rw [hl]; omega), List.set_append_right _ _ (by rw [hl]; omega), List.set_append_right _ _ (by rw [hl]; omega), List.set_append_right _ _ (by rw [hl]; omega), hl,
      show (i + 1) * 4 - 4 = i * 4 by omega, show (i + 1) * 4 + 1 - 4 = i * 4 + 1 by omega, show (i + 1) * 4 + 2 - 4 = i * 4 + 2 by omega, show (i + 1) * 4 + 3 - 4 = i * 4 + 3 by omega, ih]
theorem OkL.set_ {l : List Ins} (h : OkL l) (n : Nat) {i : Ins} (hi : i.Ok) : OkL (l.set n i) := fun x hx => by
  rcases List.mem_or_eq_of_mem_set hx with h1 | h1
  · exact h x h1
  · rw [h1]; exact hi
theorem put_six {v2 : World} {B g n c : Nat} {l : List Ins} (h : v2.ownsRow B 40 4 (.slice (some ⟨g, 0, none⟩) n c) n (progC l)) (hl : l.length = n) (h6 : 6 < n) :
    (v2.setCells g 24 [.int .u16 96, .int .u8 0, .int .u8 0, .int .u32 15]).ownsRow B 40 4 (.slice (some ⟨g, 0, none⟩) n c) n (progC (l.set 6 ⟨96, 0, 0, 15⟩)) ∧ v2.grownBy (v2.setCells g 24 [.int .u16 96, .int .u8 0, .int .u8 0, .int .u32 15]) (some g) := by
  have e : ((((progC l).set 24 (.int .u16 96)).set 25 (.int .u8 0)).set 26 (.int .u8 0)).set 27 (.int .u32 15) = progC (l.set 6 ⟨96, 0, 0, 15⟩) := progC_set l 6 96 0 0 15 (by omega)
  have o3 := ((((h.stored 24 (.int .u16 96)).1.stored 25 (.int .u8 0)).1.stored 26 (.int .u8 0)).1.stored 27 (.int .u32 15)).1
  rw [e] at o3
  exact ⟨o3, (((of_set v2 g 24 (.int .u16 96)).trans (of_set _ g 25 (.int .u8 0))).trans (of_set _ g 26 (.int .u8 0))).trans (of_set _ g 27 (.int .u32 15))⟩
theorem six_there {v2 : World} {B g n c : Nat} {l : List Ins} (h : v2.ownsRow B 40 4 (.slice (some ⟨g, 0, none⟩) n c) n (progC l)) (hl : l.length = n) (h6 : 6 < n) : v2.there g 24 4 := fun j hj => by
  have hlen : (progC l).length = l.length * 4 := progC_length l
  have hj2 : 24 + j < (progC l).length := by omega
  refine ⟨?_, h.frozenAt _⟩
  rw [h.cellAt (24 + j) (by omega), List.getElem?_eq_getElem hj2]; rfl
theorem own_most {w : World} {B n size d : Nat} {e : TypeId} {p : Option Addr} {xs : List Value} (h : w.ownsRow B e size (.slice p n d) n xs) : n ≤ d ∧ d ≤ maxLen := by
  rcases h.2 with ⟨hv, hn⟩ | ⟨g, cap, cur, hv, hg, hh, hc, hm, r⟩
  · injection hv with h1 h2 h3
    subst h3 hn
    exact ⟨Nat.le_refl _, Nat.zero_le _⟩
  · injection hv with h1 h2 h3
    subst h3
    exact ⟨hc, hm⟩
set_option maxRecDepth 100000 in
set_option maxHeartbeats 16000000 in
theorem walk {G : World → Prop} (HC : VmC G) (a0 : Ins) (a1 : Int) (a2 : Int) (a3 : Int) (a4 : Dat) (w : World) (hG : G w) (w0 : a0.Ok) (w1 : (Lit.int .u32 a1).wf = true) (w2 : (Lit.int .u32 a2).wf = true) (w3 : (Lit.int .u32 a3).wf = true) (w4 : a4.Ok) :
    Calls Tryd.prog 4 #[.agg #[.int .u16 a0.c, .int .u8 a0.jt, .int .u8 a0.jf, .int .u32 a0.k], .int .u32 a1, .int .u32 a2, .int .u32 a3, datV a4] w fun e w' => e = .returned (.bool true) ∧ Below w.heap.size w w' := by
  obtain ⟨i0, ki, kz0, kz1, kz2⟩ := info_parts insn_info
  have KI := Lib.hid ki
  have K0 := Lib.hid kz0
  have K1 := Lib.hid kz1
  have K2 := Lib.hid kz2
  obtain ⟨x10, x11⟩ := bounds_u32 w1
  obtain ⟨x20, x21⟩ := bounds_u32 w2
  obtain ⟨x30, x31⟩ := bounds_u32 w3
  obtain ⟨kk, hkk⟩ : ∃ kk, kk = a0.k % 16 := ⟨_, rfl⟩
  have k16 : 0 ≤ kk ∧ kk < 16 := by omega
  have okP : OkL [⟨0, 0, 0, a3⟩, ⟨2, 0, 0, kk⟩, ⟨1, 0, 0, a2⟩, ⟨0, 0, 0, a1⟩, a0, ⟨3, 0, 0, 15⟩, ⟨22, 0, 0, 0⟩] := OkL.cons (by constructor <;> simp <;> omega) (OkL.cons (by constructor <;> simp <;> omega) (OkL.cons (by constructor <;> simp <;> omega) (OkL.cons (by constructor <;> simp <;> omega) (OkL.cons w0 (OkL.cons (by constructor <;> decide) (OkL.cons (by constructor <;> decide) OkL.nil))))))
  have HON := Lib.hid (fun (w w' : World) => HC.on (w := w) (w' := w'))
  have HX := Lib.hid (fun (W : World) (q : Option Addr) (n c : Nat) (l : List Ins) (g : G W) (hl : l.length = n) (hn : n ≤ 1000) (ok : OkL l) (h1 : n ≤ c) (h2 : c ≤ maxLen) (h3 : q = none → c = 0) (h : RdI W W.heap.size q l) => HC.run q n c l a4 W g hl hn ok w4 h1 h2 h3 h)
  have HV := Lib.hid (fun (W : World) (q : Option Addr) (n c : Nat) (l : List Ins) (hl : l.length = n) (hn : n ≤ 1000) (ok : OkL l) (h : RdI W W.heap.size q l) => refRun q n c l a4 W hl hn ok w4 h)
  have HG0 := Lib.hid hG
  have HIN := Lib.hid (show (Tryd.prog.info? 40).map (·.size) = some (#[Value.int .u16 96, .int .u8 0, .int .u8 0, .int .u32 15] : Array Value).size by kernel_rfl)
  have HOC := Lib.hid (show (#[Value.int .u16 96, .int .u8 0, .int .u8 0, .int .u32 15] : Array Value).all (·.oneCell') = true by kernel_rfl)
  have a0k0 := w0.k0
  have a0k1 := w0.k1
  obtain ⟨W, hW⟩ : ∃ W, W = ((w.alloc (.cells #[.int .u16 a0.c, .int .u8 a0.jt, .int .u8 a0.jf, .int .u32 a0.k] 40)).alloc (.cells (datC a4) 27)).alloc (.cells #[.int .u16 0, .int .u8 0, .int .u8 0, .int .u32 a3, .int .u16 2, .int .u8 0, .int .u8 0, .int .u32 kk, .int .u16 1, .int .u8 0, .int .u8 0, .int .u32 a2, .int .u16 0, .int .u8 0, .int .u8 0, .int .u32 a1, .int .u16 a0.c, .int .u8 a0.jt, .int .u8 a0.jf, .int .u32 a0.k, .int .u16 3, .int .u8 0, .int .u8 0, .int .u32 15, .int .u16 22, .int .u8 0, .int .u8 0, .int .u32 0] 40) := ⟨_, rfl⟩
  have bx : BoxD W (w.heap.size + 1) a4 := by
    have h := BoxD.new (w.alloc (.cells #[.int .u16 a0.c, .int .u8 a0.jt, .int .u8 a0.jf, .int .u32 a0.k] 40)) a4
    rw [World.size_alloc] at h
    rw [hW]; exact h.alloc _
  have B0 : Below w.heap.size w W := by rw [hW]; exact (((Below.refl _ _).alloc (Nat.le_refl _) _).alloc (by simp) _).alloc (by simp; omega) _
  have own : W.ownsRow (w.heap.size + 2) 40 4 (.slice (some ⟨w.heap.size + 2, 0, none⟩) 7 7) 7 (progC [⟨0, 0, 0, a3⟩, ⟨2, 0, 0, kk⟩, ⟨1, 0, 0, a2⟩, ⟨0, 0, 0, a1⟩, a0, ⟨3, 0, 0, 15⟩, ⟨22, 0, 0, 0⟩]) := by
    have h := World.ownsRow_lit (base := w.heap.size + 2) (e := 40) (size := 4) ((w.alloc (.cells #[.int .u16 a0.c, .int .u8 a0.jt, .int .u8 a0.jf, .int .u32 a0.k] 40)).alloc (.cells (datC a4) 27)) #[.int .u16 0, .int .u8 0, .int .u8 0, .int .u32 a3, .int .u16 2, .int .u8 0, .int .u8 0, .int .u32 kk, .int .u16 1, .int .u8 0, .int .u8 0, .int .u32 a2, .int .u16 0, .int .u8 0, .int .u8 0, .int .u32 a1, .int .u16 a0.c, .int .u8 a0.jt, .int .u8 a0.jf, .int .u32 a0.k, .int .u16 3, .int .u8 0, .int .u8 0, .int .u32 15, .int .u16 22, .int .u8 0, .int .u8 0, .int .u32 0] 7 (by simp) (by unfold maxLen; omega) rfl
    rw [World.size_alloc, World.size_alloc] at h
    rw [hW]; exact h
  have HP := Lib.hid okP
  clear HC hG w0 w1 w2 w3 w4 ki kz0 kz1 kz2 okP
  unfold datV at *
  unfold datC at *
  go_enter Tryd.func4, Tryd.ntmps4
  go_wp2_with fail
  rw [← hkk]
  clear hkk
  rw [← hW]
  clear hW
  go_loopw [11, 12] (fun v i wr => ∃ k : Nat, k ≤ 2 ∧ i = .int .i64 k ∧ ∃ (n : Nat) (l : List Ins), Hid (n = 7 + k) ∧ Hid (OkL l) ∧ Hid (l.length = n) ∧ wr.ownsRow (w.heap.size + 2) 40 4 v n (progC l) ∧ Hid (BoxD wr (w.heap.size + 1) a4) ∧ Below w.heap.size w wr) (fun _ i _ => 2 - (intOf i).toNat)
  case atStart => exact ⟨0, by omega, rfl, 7, _, rfl, HP, rfl, own, bx, B0⟩
  case round =>
    clear own bx B0 HP
    obtain ⟨k, hk, rfl, n, l, hn, hok, hl, own, bx, hb⟩ := hrel
    obtain ⟨W', rfl⟩ : ∃ wo : World, wo = wr := ⟨_, rfl⟩
    by_cases hlt : k < 2
    · obtain ⟨g, c, rfl⟩ := own_some own (by have := hn.out; omega)
      have GW0 := HON.out _ _ HG0.out hb
      have M0 := Lib.hid (own_most own)
      have n1 : (6 : Int) < n := by have := hn.out; omega
      have n2 : n ≤ 8 := by have := hn.out; omega
      have hgB : w.heap.size + 2 ≤ g := (own.lt g rfl).1
      have R0 : RdI W' W'.heap.size (some ⟨g, 0, none⟩) l := by obtain ⟨_, _, hv, h2, _⟩ := own_shapeI own; injection hv with h1 _ _; rw [h1]; exact h2
      have HW := Lib.hid own
      obtain ⟨r, hr⟩ : ∃ r, r = runL l a4 := ⟨_, rfl⟩
      have HX1 := Lib.hid (fun G (h : RdI W' W'.heap.size (some ⟨g, 0, none⟩) l) => HX.out W' (some ⟨g, 0, none⟩) n c l G hl.out (by omega) hok.out M0.out.1 M0.out.2 (fun h => by cases h) h)
      have HV1 := Lib.hid (fun V (h : RdI V V.heap.size (some ⟨g, 0, none⟩) l) => HV.out V (some ⟨g, 0, none⟩) n c l hl.out (by omega) hok.out h)
      rw [← hr] at HX1 HV1
      obtain ⟨ans, steps, pl, err⟩ := r
      unfold RunV at HX1
      unfold RunTo at HV1
      simp only at HX1 HV1
      have t1 : (ans != ans) = false := by simp
      have t2 : ((steps : Int) != steps) = false := by simp
      have t3 : (err != err) = false := by simp
      have okn : OkL (l.set 6 ⟨96, 0, 0, 15⟩ ++ [⟨22, 0, 0, 0⟩]) := OkL.app (OkL.set_ hok.out 6 (by constructor <;> decide)) (OkL.cons (by constructor <;> decide) OkL.nil)
      have HOK := Lib.hid okn
      clear own hr HX HV okn
      obtain ⟨x0, x1, x2, x3, x4, x5, x6, x7, x8⟩ := bx.out.cells
      go_wp2_with (first
        | (go_at_call 9; ((with_reducible refine (HX1.out GW0 R0).mono ?_); rintro e v1 ⟨rfl, b1⟩); have R1 := R0.on b1; have bx1 := Lib.hid (BoxD.on bx.out b1); have HW1 := Lib.hid (own_on HW.out b1); clear x0 x1 x2 x3 x4 x5 x6 x7 x8; obtain ⟨x0, x1, x2, x3, x4, x5, x6, x7, x8⟩ := bx1.out.cells)
        | (go_at_call 11; ((with_reducible refine (HV1.out _ R1).mono ?_); rintro e v2 ⟨vl, rfl, _, b2⟩); have HW2 := Lib.hid (own_on HW1.out b2); have HB2 := Lib.hid (thn (thn hb b1) b2); have bx2 := Lib.hid (BoxD.on bx1.out b2); have HTH := Lib.hid (six_there HW2.out hl.out (by omega)); have HP6 := Lib.hid (put_six HW2.out hl.out (by omega)); clear x0 x1 x2 x3 x4 x5 x6 x7 x8)
        | ((with_reducible show wpList _ _ _ (⟨none, .store 40 (.tmp 68) (.tmp 67), _, _, _, _⟩ :: _) _ _)
           refine wpList_store_mid rfl 40 (.tmp 68) (.tmp 67) rfl g 24 #[.int .u16 96, .int .u8 0, .int .u8 0, .int .u32 15] rfl rfl HTH.out HIN.out HOC.out ?_
           obtain ⟨V, hV⟩ : ∃ V, V = v2.setCells g 24 [.int .u16 96, .int .u8 0, .int .u8 0, .int .u32 15] := ⟨_, rfl⟩
           rw [← hV] at HP6
           change wpList _ _ _ _ _ (v2.setCells g 24 [.int .u16 96, .int .u8 0, .int .u8 0, .int .u32 15])
           rw [← hV]
           have O3 := Lib.hid HP6.out.1
           have BV := Lib.hid (HB2.out.grown HP6.out.2 HB2.out.size (fun k hk => by injection hk with hk; omega))
           have bxV := Lib.hid (BoxD.but bx2.out HP6.out.2 (by omega))
           have HN := Lib.hid (show ∀ j u, (insC ⟨22, 0, 0, 0⟩)[j]? = some u → (V.alloc (.cells #[.int .u16 22, .int .u8 0, .int .u8 0, .int .u32 0] 40)).cell? ((⟨V.heap.size, 0, none⟩ : Addr).add j) = some u from news_lit V #[.int .u16 22, .int .u8 0, .int .u8 0, .int .u32 0] 40 (insC ⟨22, 0, 0, 0⟩) rfl)
           have hc1 : n + 1 ≤ maxLen := by unfold maxLen; omega
           have hc2 : (n + 1) * 8 ≤ 140737488355328 := by omega
           have hc3 : w.heap.size + 2 ≤ (V.alloc (.cells #[.int .u16 22, .int .u8 0, .int .u8 0, .int .u32 0] 40)).heap.size := by have := (O3.out.lt g rfl).2; rw [World.size_alloc]; omega
           clear HP6 hV HTH)
        | (at_builtin
           refine wpList_append_own _ rfl (.tmp 69) (.tmp 71) 22 rfl (w.heap.size + 2) 40 i0 _ 4 8 Tryd.underlying22 KI.out K0.out K1.out K2.out rfl (by decide) _ n (progC (l.set 6 ⟨96, 0, 0, 15⟩)) rfl (O3.out.alloc _) ⟨V.heap.size, 0, none⟩ 1 1 (insC ⟨22, 0, 0, 0⟩) rfl rfl HN.out (insC_one _) hc1 hc2 hc3 ?_
           intro v5 w5 o5 hg5 _))
      go_roundw
      case rel =>
        refine ⟨k + 1, by omega, by go_num, n + 1, l.set 6 ⟨96, 0, 0, 15⟩ ++ [⟨22, 0, 0, 0⟩], Lib.hid (by have := hn.out; omega), HOK, Lib.hid (by rw [List.length_append, List.length_set, hl.out]; rfl), ?_, Lib.hid (BoxD.grown (bxV.out.alloc _) (O3.out.alloc _) (by decide) hg5), ?_⟩
        · rw [progC_app]; exact o5
        · exact (BV.out.alloc BV.out.size _).grown hg5 (by have := hc3; omega) (fun j hj => by have := (O3.out.lt j hj).1; omega)
      case measure => simp [intOf]; omega
    · obtain rfl : k = 2 := by omega
      go_wp2_with fail
      go_ret
      exact ⟨rfl, hb⟩

set_option maxRecDepth 100000 in
theorem lifted (HC : VmC GW) (os : Os) (started : os.Started) (H : Type) (enc : TypeId × Value → H) :
    ReturnsInHanded {} Tryd.checked os 4 .any (fun w args => (Rows.vmOneSpec.pre enc Tryd.prog Tryd.f4 [] false w args ∧ laidMetH Tryd.prog listed w) ∧ sizedMet enc Tryd.prog Tryd.f4 (OpenSpec.ofChange Rows.vmOneSpec) false w args)
      (Rows.vmOneSpec.post enc Tryd.prog Tryd.f4 false true false false) := by
  refine returnsInHanded_of_change_and (C := Tryd.checked) (X := fun w _ => laidMetH Tryd.prog listed w) (fun _ _ _ hh h => h.of_heap hh) ownKnob_none started (by kernel_rfl) Tryd.func4
    (ChangeSpec.witness_shaped (enc := enc) (C := Tryd.checked) (os := os) (X := fun w _ => laidMetH Tryd.prog listed w) false (World.doorLaid Tryd.prog 400 os) #[.agg #[.int .u16 0, .int .u8 0, .int .u8 0, .int .u32 0], .int .u32 0, .int .u32 0, .int .u32 0, .agg #[.int .u32 0, .int .u32 0, .int .u64 0, .int .u64 0, .int .u64 0, .int .u64 0, .int .u64 0, .int .u64 0, .int .u64 0]] 8 rfl (World.shaped_of_RefB (by kernel_rfl) (by kernel_rfl)) (by kernel_rfl) (by kernel_rfl) (by kernel_rfl) (door_met os _)) ?_
  intro W base args ds gs before hval0 hW _ _ hL _
  have hG : GW W := of_laid hL
  have hval : ∀ (j : Nat) t v, Tryd.f4.params[j]? = some t → args[j]? = some v → Value.okWide Tryd.prog W .any base t v := hval0
  have hW' := hW
  obtain ⟨p, q, hA0, hV, rfl, hfz, hnd⟩ := hW
  have hA : DataW.TrodAll enc Tryd.prog W 0 (fun _ => true) true Tryd.f4.params.toList args.toList ds p := hA0
  rw [Tryd.params4] at hA hval
  obtain ⟨v0, vs0, d0, ds0, p0, q0, hargs, rfl, rfl, h0, r0⟩ := trodAll_cons hA
  obtain ⟨v1, vs1, d1, ds1, p1, q1, rfl, rfl, rfl, h1, r1⟩ := trodAll_cons r0
  obtain ⟨v2, vs2, d2, ds2, p2, q2, rfl, rfl, rfl, h2, r2⟩ := trodAll_cons r1
  obtain ⟨v3, vs3, d3, ds3, p3, q3, rfl, rfl, rfl, h3, r3⟩ := trodAll_cons r2
  obtain ⟨v4, vs4, d4, ds4, p4, q4, rfl, rfl, rfl, h4, r4⟩ := trodAll_cons r3
  obtain ⟨rfl, rfl, rfl⟩ := trodAll_nil r4
  obtain rfl : args = #[v0, v1, v2, v3, v4] := by cases args; simp_all
  obtain ⟨rfl, rfl⟩ := trodVars_none hV
  have k0 := h0
  have lt0 : ∀ x ∈ p0, x.block < W.heap.size := by obtain ⟨m, hm⟩ := k0; exact DataW.trod_lt m _ _ _ hm
  obtain ⟨a0, w0, rfl⟩ := insn_open (hval 0 40 v0 rfl rfl) h0
  obtain ⟨a1, rfl, rfl, rfl, w1⟩ := open_int Tryd.underlying23 (hval 1 23 v1 rfl rfl) h1
  obtain ⟨a2, rfl, rfl, rfl, w2⟩ := open_int Tryd.underlying23 (hval 2 23 v2 rfl rfl) h2
  obtain ⟨a3, rfl, rfl, rfl, w3⟩ := open_int Tryd.underlying23 (hval 3 23 v3 rfl rfl) h3
  have k4 := h4
  have lt4 : ∀ x ∈ p4, x.block < W.heap.size := by obtain ⟨m, hm⟩ := k4; exact DataW.trod_lt m _ _ _ hm
  obtain ⟨a4, w4, rfl⟩ := data_open (hval 4 27 v4 rfl rfl) h4
  clear hA0 hval0
  refine (walk HC a0 a1 a2 a3 a4 W hG w0 w1 w2 w3 w4).mono fun e W' ⟨he, bel⟩ => ?_
  subst he
  exact ⟨_, rfl, _, _, _, [], _, [], hW', trodAll_mk1 (shut_bool Tryd.underlying4 _), (trodAll_cons_mk (Below.trod laidOut (by kernel_rfl) (of_decide_eq_true (by kernel_rfl)) k0 bel lt0) (trodAll_cons_mk (shut_int Tryd.underlying23 w1) (trodAll_cons_mk (shut_int Tryd.underlying23 w2) (trodAll_cons_mk (shut_int Tryd.underlying23 w3) (trodAll_cons_mk (Below.trod laidOut (by kernel_rfl) (of_decide_eq_true (by kernel_rfl)) k4 bel lt4) trodAll_mk0))))), rfl, bel.frame _, fun h => by cases h⟩

theorem over (HC : VmC GW) : Rows.vmOneRow.holds Tryd.pinned (OpenSpec.ofChange Rows.vmOneSpec) :=
  OpenClaim.holds_of_wide 4 Tryd.f4 rfl rfl rfl rfl rfl rfl rfl ⟨rfl, rfl, rfl, rfl, rfl⟩ rfl rfl rfl rfl rfl (by kernel_rfl) Tryd.func4 (by kernel_rfl)
    (of_decide_eq_true (by kernel_rfl)) (by unfold Func.isWrapper; first | (rw [if_pos (by decide +kernel)]; kernel_rfl) | (rw [if_neg (by decide +kernel)]; exact ⟨rfl, rfl⟩))
    (fun os started H enc _ => lifted HC os started H enc)

/-- The row's statement. -/
theorem row_holds : Rows.VmOneSaid := over vmC
/-- The statement: the row, its table tied to the program's text. -/
theorem proved : Rows.VmOneCardSaid :=
  Claim7.holds_tied_plain_at .later [] [.data] true Rows.vmOneCard.stood.harness Rows.vmOneCard.stood.looks
    row_holds (fun _ h => by cases h) (by kernel_rfl) (fun _ h => by cases h) vmOne_row_tie rfl ⟨rfl, rfl⟩ (by kernel_rfl) rfl
    (fun f fn hf hfn => by
      obtain rfl : f = 4 := Option.some.inj ((show Tryd.prog.funcNamed "vestibule/vestibulelaw04.VmOne" = some 4 by kernel_rfl).symm.trans hf) |>.symm
      obtain rfl : fn = Tryd.f4 := (Option.some.inj (Tryd.func4.symm.trans hfn)).symm
      exact ⟨by kernel_rfl, fun j t ht => by
        have hm : t ∈ Tryd.f4.params.toList := by simpa using Array.mem_of_getElem? ht
        have hall : (Tryd.f4.params.toList.all fun u => !Tryd.prog.wantsStandIn u) = true := by kernel_rfl
        exact (show Tryd.prog.wantsStandIn t = false by simpa using List.all_eq_true.1 hall t hm)⟩)
    (by kernel_rfl)
#print axioms proved

end Go.Proofs.YtinfbmfmmbibbaaDoor.vmOne
