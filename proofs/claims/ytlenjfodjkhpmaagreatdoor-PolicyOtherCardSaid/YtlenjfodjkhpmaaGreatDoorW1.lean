/- The landed policy: Lines, of a policy that may be. Conditions: the tables of architectures, families, namespaces lie in their variables; names of at most 1,000 bytes, lists of at most 400. -/
import Derived.Test.YtlenjfodjkhpmaaGreatDoorV8
import Derived.Test.YtlenjfodjkhpmaaGreatDoorV4
namespace Go.Proofs.YtlenjfodjkhpmaaGreatDoor
set_option maxRecDepth 100000
open Go.Lib (hid)
open Go.RowKit
set_option linter.unusedVariables false
set_option linter.unusedSimpArgs false
attribute [local go_sem ↓] Go.wp_at_zero Go.wp_at_succ

set_option maxHeartbeats 16000000 in
theorem lw1_c19 (k : ByteArray) (b m : Nat) (q : Option Addr) (n c : Nat) (L : List Cl) (w : World) (hG : GN w) (hb : w.cell? ⟨b, 0, none⟩ = some (.string k)) (hk : k.size ≤ 1000) (hl : n = L.length) (hn : n ≤ 400) (h : LsAt w q L) (hs : ∀ e ∈ L, e.1.size ≤ 1000 ∧ e.2 < 4294967296) : Calls Tryz.prog 81 #[.agg #[.int .u8 (m : Nat), .slice q n c], .pointer (some ⟨b, 0, none⟩)] w fun e w' => OutS w (listW k m L) e w' := by
 have BW0 := below16 w (.cells #[.int .u8 (m : Nat), .slice q n c] 27)
 obtain ⟨W, hW⟩ : ∃ W, W = w.alloc (.cells #[.int .u8 (m : Nat), .slice q n c] 27) := ⟨_, rfl⟩
 have SW := hid (show W.heap[w.heap.size]? = some (.cells #[.int .u8 (m : Nat), .slice q n c] 27 (0, 0)) from hW ▸ heap_alloc_new w _)
 rw [← hW] at BW0
 have BW := hid BW0
 have HWW := hid hW
 have KW := hid ((BW0.cell (World.block_lt_of_cell? w _ hb)).trans hb)
 unfold listW
 by_cases h1 : m = 1
 ·rw [if_pos h1]
  have t1 : ((m : Int) == 1) = true := beq_iff_eq.2 (by omega)
  have HAL := hid (fun (X : World) (bx : Below w.heap.size w X) => allow_c19 k m q n c L X (GN.on hG bx) hk hl hn (h.on bx) hs)
  unfold lsV at HAL
  have k0 := KW.out
  have k0' := KW.out
  rw [HWW.out] at k0'
  obtain ⟨s0, s1⟩ := lbox19 SW.out
  clear h hl hs hn hG hk hb BW0 hW h1
  go_enter Tryz.func81, Tryz.ntmps81
  go_wp2_with (go_at_call 82; rw [← HWW.out]; ((with_reducible refine (HAL.out W BW.out).mono ?_); rintro e w1 ⟨q1, c1, rfl, o1, b1⟩))
  go_ret
  exact ⟨q1, c1, rfl, owns_low16 o1 BW.out.size, thn16 BW.out b1⟩
 ·have t1 : ((m : Int) == 1) = false := beq_eq_false_iff_ne.2 (by omega)
  rw [if_neg h1]
  by_cases h2 : m = 2
  ·rw [if_pos h2]
   have t2 : ((m : Int) == 2) = true := beq_iff_eq.2 (by omega)
   have HEN := hid (fun (X : World) (bx : Below w.heap.size w X) => ent_t19 m q n c L X (GN.on hG bx) hl (by omega) (h.on bx) hs)
   unfold lsV at HEN
   have hle := entW_len allB L
   have HLN := hid (fun (X : World) (q1 : Option Addr) (c1 : Nat) (hw : WrdAt X q1 (entW allB L).length c1 (entW allB L)) => line_c19 k (⟨#[126]⟩ : ByteArray) q1 (entW allB L).length c1 (entW allB L) X hw hk (by decide) (by omega) (join_size19 _ (entW_size19 hs) (by omega)))
   generalize lineW k (⟨#[126]⟩ : ByteArray) (entW allB L) = X1 at HLN ⊢
   have Q0 : W.cell? ⟨b, 0, none⟩ = some (.string k) ∧ W.cell? ⟨w.heap.size, 0, none⟩ = some (.int .u8 (m : Nat)) ∧ W.cell? ⟨w.heap.size, 1, none⟩ = some (.slice q n c) ∧ Below w.heap.size w W := ⟨KW.out, (lbox19 SW.out).1, (lbox19 SW.out).2, BW0⟩
   have keep := hid (fun (V V' : World) (h : V.cell? ⟨b, 0, none⟩ = some (.string k) ∧ V.cell? ⟨w.heap.size, 0, none⟩ = some (.int .u8 (m : Nat)) ∧ V.cell? ⟨w.heap.size, 1, none⟩ = some (.slice q n c) ∧ Below w.heap.size w V) (bx : Below V.heap.size V V') => (⟨(bx.cell (World.block_lt_of_cell? V _ h.1)).trans h.1, (bx.cell (World.block_lt_of_cell? V _ h.2.1)).trans h.2.1, (bx.cell (World.block_lt_of_cell? V _ h.2.2.1)).trans h.2.2.1, thn16 h.2.2.2 bx⟩ : V'.cell? ⟨b, 0, none⟩ = some (.string k) ∧ V'.cell? ⟨w.heap.size, 0, none⟩ = some (.int .u8 (m : Nat)) ∧ V'.cell? ⟨w.heap.size, 1, none⟩ = some (.slice q n c) ∧ Below w.heap.size w V'))
   have Q := hid Q0
   obtain ⟨k0, s0, s1, _⟩ := Q0
   have Q2 := hid (keep.out _ _ Q.out (show Below W.heap.size W W.drew from (Below.refl _ _).drew))
   clear h hl hs hn hG hk hb BW0 hW hle h1 h2
   go_enter Tryz.func81, Tryz.ntmps81
   go_wp2
   rw [← HWW.out]
   go_wp2_with fail
   go_region_held3 (fun w' => w'.cell? ⟨b, 0, none⟩ = some (.string k) ∧ w'.cell? ⟨w.heap.size, 0, none⟩ = some (.int .u8 (m : Nat)) ∧ w'.cell? ⟨w.heap.size, 1, none⟩ = some (.slice q n c) ∧ Below w.heap.size w w') (first | assumption | exact Q2.out | exact Q.out | exact keep.out _ _ (by assumption) (by assumption) | exact keep.out _ _ (by assumption) (below16 _ _)) (first
    | (go_at_call 83; ((with_reducible refine (HEN.out _ (by assumption : _ ∧ _ ∧ _ ∧ Below _ _ _).2.2.2).mono ?_); rintro e w1 ⟨q1, c1, rfl, o1, b1⟩); have L1 := hid (HLN.out w1 q1 c1 (wrd_own o1)); clear o1)
    | (go_at_call 79; ((with_reducible refine (L1.out).mono ?_); rintro e w2 ⟨rfl, b2⟩)))
   all_goals
    go_wp2_with fail
    go_ret
    have B2 := thn16 (thn16 BW.out ((Below.refl W.heap.size W).drew.trans b1)) b2
    exact ⟨_, _, rfl, one_row19 w2 X1 B2.size, B2.alloc B2.size _⟩
  ·have t2 : ((m : Int) == 2) = false := beq_eq_false_iff_ne.2 (by omega)
   rw [if_neg h2]
   obtain ⟨s0, s1⟩ := lbox19 SW.out
   clear h hl hs hn hG hk hb BW0 hW h1 h2
   go_enter Tryz.func81, Tryz.ntmps81
   go_wp2
   rw [← HWW.out]
   go_wp2_with fail
   go_ret
   exact ⟨none, 0, rfl, World.ownsRow_nil _ _ _ _, BW.out⟩
set_option maxHeartbeats 4000000 in
theorem lw_new19 (k : ByteArray) (w : World) : Calls Tryz.prog 39 #[.string k] w fun e w' => e = .returned (.func (.func 81) #[] #[.pointer (some ⟨w.heap.size, 0, none⟩)]) ∧ w' = w.alloc (.cells #[.string k] 9) := by
 go_enter Tryz.func39, Tryz.ntmps39
 go_wp2
 go_ret
 exact ⟨rfl, rfl⟩
set_option maxRecDepth 100000
open Go.Lib (hid)
open Go.RowKit
set_option linter.unusedVariables false
set_option linter.unusedSimpArgs false
attribute [local go_sem ↓] Go.wp_at_zero Go.wp_at_succ

abbrev kArW : ByteArray := (⟨#[83, 121, 115, 116, 101, 109, 67, 97, 108, 108, 65, 114, 99, 104, 105, 116, 101, 99, 116, 117, 114, 101, 115]⟩ : ByteArray)
abbrev kFiW : ByteArray := (⟨#[83, 121, 115, 116, 101, 109, 67, 97, 108, 108, 70, 105, 108, 116, 101, 114]⟩ : ByteArray)
abbrev kLoW : ByteArray := (⟨#[83, 121, 115, 116, 101, 109, 67, 97, 108, 108, 76, 111, 103]⟩ : ByteArray)
abbrev kSpW : ByteArray := (⟨#[82, 101, 115, 116, 114, 105, 99, 116, 78, 97, 109, 101, 115, 112, 97, 99, 101, 115]⟩ : ByteArray)
abbrev kWrW : ByteArray := (⟨#[77, 101, 109, 111, 114, 121, 68, 101, 110, 121, 87, 114, 105, 116, 101, 69, 120, 101, 99, 117, 116, 101]⟩ : ByteArray)
abbrev kPeW : ByteArray := (⟨#[76, 111, 99, 107, 80, 101, 114, 115, 111, 110, 97, 108, 105, 116, 121]⟩ : ByteArray)
abbrev kReW : ByteArray := (⟨#[82, 101, 115, 116, 114, 105, 99, 116, 82, 101, 97, 108, 116, 105, 109, 101]⟩ : ByteArray)
abbrev kNoW : ByteArray := (⟨#[78, 111, 78, 101, 119, 80, 114, 105, 118, 105, 108, 101, 103, 101, 115]⟩ : ByteArray)
def nmN (n : Int) : ByteArray := (nameR spcT n.toNat).getD ⟨#[]⟩
def linesL (P : Pol) : List (List ByteArray) := [losW kArW ⟨#[]⟩ (P.ar.map nameA8), listW kFiW P.fl.1 P.fl.2, denW P.dn, listW kLoW P.lg.1 P.lg.2, famW P.fm P.fa, losW kSpW (⟨#[126]⟩ : ByteArray) ((natI (flagsR P.sp)).map nmN), yesW kWrW P.b1, yesW kPeW P.b2, yesW kReW P.b3, yesW kNoW P.b4]
def linesW (P : Pol) : List ByteArray := (linesL P).flatten
theorem flag_nums19 {w : World} {B n : Nat} {q : Option Addr} {c : Nat} {l : List Nat} (h : w.ownsRow B 30 1 (.slice q n c) n (u64N l)) : NumsAt .u64 w q (natI l) := by
 intro i x hx
 unfold natI at hx
 rw [List.getElem?_map] at hx
 obtain ⟨y, hy, rfl⟩ := Option.map_eq_some_iff.1 hx
 rcases h.2 with ⟨hv, hz⟩ | ⟨g, cap, cur, hv, hb, hg, hnc, hm, hs, ht⟩
 ·have h1 := h.1
  cases hv
  rw [u64N_len] at h1
  have h2 : l = [] := List.eq_nil_of_length_eq_zero (by omega)
  rw [h2] at hy
  simp at hy
 ·injection hv with e1 e2 e3
  subst e1 e3
  refine ⟨g, 0, rfl, ?_⟩
  have := h.cells (g := g) rfl i _ (u64N_get hy)
  rw [Addr.add_lit] at this
  exact this
theorem nmA_size19 (a : Int) : (nameA8 a).size ≤ 2000 := by
 unfold nameA8
 split
 ·rename_i h
  have : ∀ k, k < 6 → (archN.getD k ⟨#[]⟩).size ≤ 2000 := by decide
  exact this _ (by omega)
 ·decide
theorem nmR_size19 {l : List En10} (h : (l.all fun e => decide (e.1.size ≤ 2000)) = true) (n : Nat) : ((nameR l n).getD ⟨#[]⟩).size ≤ 2000 := by
 induction l with
 | nil => show (0 : Nat) ≤ 2000; decide
 | cons e r ih =>
  rw [List.all_cons, Bool.and_eq_true] at h
  unfold nameR
  split
  ·exact of_decide_eq_true h.1
  ·exact ih h.2
theorem nmF_size19 (n : Int) : (nmF n).size ≤ 2000 := nmR_size19 (by decide) _
theorem nmN_size19 (n : Int) : (nmN n).size ≤ 2000 := nmR_size19 (by decide) _
theorem flags_len19 (x : Nat) : (flagsR x).length ≤ 8 := by
 unfold flagsR flagsTo
 rw [List.length_map]
 exact Nat.le_trans (List.length_filter_le _ _) (by rw [List.length_take]; omega)
theorem list_len19 (k : ByteArray) (m : Nat) (L : List Cl) : (listW k m L).length ≤ 4 := by
 have a1 := los_len19 k ⟨#[]⟩ (entW ownB L)
 have a2 := los_len19 k (⟨#[126]⟩ : ByteArray) (entW actB L)
 have a3 : (baseW k L).length ≤ 2 := by unfold baseW; split <;> simp
 unfold listW
 split
 ·unfold allowW
  simp only [List.flatten_cons, List.flatten_nil, List.length_append, List.length_nil]
  omega
 ·split
  ·simp
  ·simp
theorem yes_len19 (k : ByteArray) (b : Bool) : (yesW k b).length ≤ 1 := by unfold yesW; split <;> simp
theorem lines_len19 (P : Pol) : (linesL P).flatten.length ≤ 100 := by
 have a0 := los_len19 kArW ⟨#[]⟩ (P.ar.map nameA8)
 have a1 := list_len19 kFiW P.fl.1 P.fl.2
 have a2 : (denW P.dn).length ≤ 1 := by unfold denW; split <;> simp
 have a3 := list_len19 kLoW P.lg.1 P.lg.2
 have a4 : (famW P.fm P.fa).length ≤ 1 := by unfold famW; repeat' split
                                             all_goals simp
 have a5 := los_len19 kSpW (⟨#[126]⟩ : ByteArray) ((natI (flagsR P.sp)).map nmN)
 have a6 := yes_len19 kWrW P.b1
 have a7 := yes_len19 kPeW P.b2
 have a8 := yes_len19 kReW P.b3
 have a9 := yes_len19 kNoW P.b4
 unfold linesL
 simp only [List.flatten_cons, List.flatten_nil, List.length_append, List.length_nil]
 omega
set_option maxHeartbeats 64000000 in
theorem lines_yes19 (p : Pls) (P : Pol) (w : World) (hG : G18 w) (ok : P.Ok) (hP : PolAt w p P) (ha : P.ar.length ≤ 400) (hfl : P.fl.2.length ≤ 400) (hll : P.lg.2.length ≤ 400) (hm : P.fa.length ≤ 400) (hf1 : ∀ e ∈ P.fl.2, e.1.size ≤ 1000) (hl1 : ∀ e ∈ P.lg.2, e.1.size ≤ 1000) (hM : mayP P = true) : Calls Tryz.prog 18 #[plV p P] w fun e w' => ∃ q c, e = .returned (.tuple #[.slice q (linesW P).length c, .int .i64 0]) ∧ w'.ownsRow w.heap.size 9 1 (.slice q (linesW P).length c) (linesW P).length (sG (linesW P)) ∧ Below w.heap.size w w' := by
 obtain ⟨aq1, an1, ac1, fq1, fn1, fc1, lq1, ln1, lc1, mq1, mn1, mc1⟩ := p
 have hnl : ∀ L : List Nat, (natI L).length = L.length := fun L => by unfold natI; exact List.length_map _
 have HMY := hid (fun (X : World) (b : Below w.heap.size w X) => may_yes19 ⟨aq1, an1, ac1, fq1, fn1, fc1, lq1, ln1, lc1, mq1, mn1, mc1⟩ P X (hG.on b) ok (hP.on b) (by omega) (by omega) (by omega) (by omega) hM)
 have H1 := hid (fun (X : World) (b : Below w.heap.size w X) => show Calls Tryz.prog 37 #[.slice aq1 an1 ac1, .func (.func 38) #[] #[]] X (fun e w' => OutS X (P.ar.map nameA8) e w') from texts_i19 aq1 an1 ac1 P.ar nameA8 X hP.al (by have := hP.al; simp only at this; omega) (hP.ar.on b) (fun y W _ b2 => name8 y W ((hG.on b).ar.on b2)))
 have H2 := hid (fun (X : World) (q1 : Option Addr) (c1 : Nat) (hw : WrdAt X q1 (P.ar.map nameA8).length c1 (P.ar.map nameA8)) => los_c19 kArW ⟨#[]⟩ q1 (P.ar.map nameA8).length c1 (P.ar.map nameA8) X hw (by decide) (by decide) (by rw [List.length_map]; omega) (join_size19 _ (fun x hx => by obtain ⟨y, _, rfl⟩ := List.mem_map.1 hx; exact nmA_size19 y) (by rw [List.length_map]; omega)))
 have H3 := hid (fun (X : World) => lw_new19 kFiW X)
 have H4 := hid (fun (X : World) (g : Nat) (b : Below w.heap.size w X) (hk : X.cell? ⟨g, 0, none⟩ = some (.string kFiW)) => lw1_c19 kFiW g P.fl.1 fq1 fn1 fc1 P.fl.2 X (hG.on b).nm hk (by decide) hP.fl (by have := hP.fl; simp only at this; omega) (hP.fi.on b) (fun e he => ⟨hf1 e he, ok.f32 e he⟩))
 have H5 := hid (fun (X : World) (b : Below w.heap.size w X) => den_c19 P.dn X (hG.on b).nm ok.d32 (Nat.le_trans (errnoName_size _) (by decide)))
 have H6 := hid (fun (X : World) => lw_new19 kLoW X)
 have H7 := hid (fun (X : World) (g : Nat) (b : Below w.heap.size w X) (hk : X.cell? ⟨g, 0, none⟩ = some (.string kLoW)) => lw1_c19 kLoW g P.lg.1 lq1 ln1 lc1 P.lg.2 X (hG.on b).nm hk (by decide) hP.ll (by have := hP.ll; simp only at this; omega) (hP.lo.on b) (fun e he => ⟨hl1 e he, ok.l32 e he⟩))
 have H8 := hid (fun (X : World) (b : Below w.heap.size w X) => fam_c19 P.fm mq1 mn1 mc1 P.fa X (hG.on b).nm ok.m8 hP.ml (by have := hP.ml; simp only at this; omega) (hP.fa.on b) (join_size19 _ (fun x hx => by obtain ⟨y, _, rfl⟩ := List.mem_map.1 hx; exact nmF_size19 y) (by rw [List.length_map, hnl]; omega)))
 have H9 := hid (fun (X : World) (b : Below w.heap.size w X) => flagsN P.sp ok.s64 X (hG.on b).nm)
 have hfl8 := flags_len19 P.sp
 have H10 := hid (fun (X : World) (b : Below w.heap.size w X) (q9 : Option Addr) (c9 : Nat) (hN : NumsAt .u64 X q9 (natI (flagsR P.sp))) => show Calls Tryz.prog 42 #[.slice q9 (flagsR P.sp).length c9, .func (.func 44) #[] #[]] X (fun e w' => OutS X ((natI (flagsR P.sp)).map nmN) e w') from texts_n19 q9 (flagsR P.sp).length c9 (natI (flagsR P.sp)) nmN X (hnl _).symm (by omega) hN (fun y W hy b2 => by
  obtain ⟨x, _, rfl⟩ := List.mem_map.1 hy
  exact spaceNameN x W ((hG.on b).nm.on b2)))
 have H11 := hid (fun (X : World) (q1 : Option Addr) (c1 : Nat) (hw : WrdAt X q1 ((natI (flagsR P.sp)).map nmN).length c1 ((natI (flagsR P.sp)).map nmN)) => los_c19 kSpW (⟨#[126]⟩ : ByteArray) q1 ((natI (flagsR P.sp)).map nmN).length c1 ((natI (flagsR P.sp)).map nmN) X hw (by decide) (by decide) (by rw [List.length_map, hnl]; omega) (join_size19 _ (fun x hx => by obtain ⟨y, _, rfl⟩ := List.mem_map.1 hx; exact nmN_size19 y) (by rw [List.length_map, hnl]; omega)))
 have H12 := hid (fun (X : World) => yes_c19 kWrW P.b1 X (by decide))
 have H13 := hid (fun (X : World) => yes_c19 kPeW P.b2 X (by decide))
 have H14 := hid (fun (X : World) => yes_c19 kReW P.b3 X (by decide))
 have H15 := hid (fun (X : World) => yes_c19 kNoW P.b4 X (by decide))
 have hlen := lines_len19 P
 unfold linesL at hlen
 unfold linesW linesL
 generalize hNA : P.ar.map nameA8 = NA at H1 H2 hlen ⊢
 generalize hNN : (natI (flagsR P.sp)).map nmN = NN at H10 H11 hlen ⊢
 generalize hA0 : losW kArW ⟨#[]⟩ NA = A0 at H2 hlen ⊢
 generalize hA1 : listW kFiW P.fl.1 P.fl.2 = A1 at H4 hlen ⊢
 generalize hA2 : denW P.dn = A2 at H5 hlen ⊢
 generalize hA3 : listW kLoW P.lg.1 P.lg.2 = A3 at H7 hlen ⊢
 generalize hA4 : famW P.fm P.fa = A4 at H8 hlen ⊢
 generalize hA5 : losW kSpW (⟨#[126]⟩ : ByteArray) NN = A5 at H11 hlen ⊢
 generalize hA6 : yesW kWrW P.b1 = A6 at H12 hlen ⊢
 generalize hA7 : yesW kPeW P.b2 = A7 at H13 hlen ⊢
 generalize hA8 : yesW kReW P.b3 = A8 at H14 hlen ⊢
 generalize hA9 : yesW kNoW P.b4 = A9 at H15 hlen ⊢
 have HCC := hid (fun (x : World) (q2 : Option Addr) (c2 : Nat) (q4 : Option Addr) (c4 : Nat) (q5 : Option Addr) (c5 : Nat) (q7 : Option Addr) (c7 : Nat) (q8 : Option Addr) (c8 : Nat) (q11 : Option Addr) (c11 : Nat) (q12 : Option Addr) (c12 : Nat) (q13 : Option Addr) (c13 : Nat) (q14 : Option Addr) (c14 : Nat) (q15 : Option Addr) (c15 : Nat) (h2 : WrdAt x q2 A0.length c2 A0) (h4 : WrdAt x q4 A1.length c4 A1) (h5 : WrdAt x q5 A2.length c5 A2) (h7 : WrdAt x q7 A3.length c7 A3) (h8 : WrdAt x q8 A4.length c8 A4) (h11 : WrdAt x q11 A5.length c11 A5) (h12 : WrdAt x q12 A6.length c12 A6) (h13 : WrdAt x q13 A7.length c13 A7) (h14 : WrdAt x q14 A8.length c14 A8) (h15 : WrdAt x q15 A9.length c15 A9) => (show Calls Tryz.prog 35 #[.slice (some ⟨x.heap.size, 0, none⟩) 10 10] (x.alloc (.cells #[.slice q2 A0.length c2, .slice q4 A1.length c4, .slice q5 A2.length c5, .slice q7 A3.length c7, .slice q8 A4.length c8, .slice q11 A5.length c11, .slice q12 A6.length c12, .slice q13 A7.length c13, .slice q14 A8.length c14, .slice q15 A9.length c15] 44)) (fun e w' => OutS (x.alloc (.cells #[.slice q2 A0.length c2, .slice q4 A1.length c4, .slice q5 A2.length c5, .slice q7 A3.length c7, .slice q8 A4.length c8, .slice q11 A5.length c11, .slice q12 A6.length c12, .slice q13 A7.length c13, .slice q14 A8.length c14, .slice q15 A9.length c15] 44)) [A0, A1, A2, A3, A4, A5, A6, A7, A8, A9].flatten e w') from concat_lit19 [(q2, A0.length, c2), (q4, A1.length, c4), (q5, A2.length, c5), (q7, A3.length, c7), (q8, A4.length, c8), (q11, A5.length, c11), (q12, A6.length, c12), (q13, A7.length, c13), (q14, A8.length, c14), (q15, A9.length, c15)] [A0, A1, A2, A3, A4, A5, A6, A7, A8, A9] x rfl (show 10 ≤ 100 by decide) (fun k t ws e1 e2 => by
  match k with
  | 0 => injection e1 with e1; injection e2 with e2; subst e1 e2; exact h2
  | 1 => injection e1 with e1; injection e2 with e2; subst e1 e2; exact h4
  | 2 => injection e1 with e1; injection e2 with e2; subst e1 e2; exact h5
  | 3 => injection e1 with e1; injection e2 with e2; subst e1 e2; exact h7
  | 4 => injection e1 with e1; injection e2 with e2; subst e1 e2; exact h8
  | 5 => injection e1 with e1; injection e2 with e2; subst e1 e2; exact h11
  | 6 => injection e1 with e1; injection e2 with e2; subst e1 e2; exact h12
  | 7 => injection e1 with e1; injection e2 with e2; subst e1 e2; exact h13
  | 8 => injection e1 with e1; injection e2 with e2; subst e1 e2; exact h14
  | 9 => injection e1 with e1; injection e2 with e2; subst e1 e2; exact h15
  | j + 10 => simp at e1) (by omega)))
 obtain ⟨BB, hBB⟩ : ∃ B, B = [A0, A1, A2, A3, A4, A5, A6, A7, A8, A9] := ⟨_, rfl⟩
 rw [← hBB] at HCC ⊢
 have S0 := (by
  have h1 : (w.alloc (.cells (plC ⟨aq1, an1, ac1, fq1, fn1, fc1, lq1, ln1, lc1, mq1, mn1, mc1⟩ P).toArray 32)).heap[w.heap.size]? = some (.cells (plC ⟨aq1, an1, ac1, fq1, fn1, fc1, lq1, ln1, lc1, mq1, mn1, mc1⟩ P).toArray 32 (0, 0)) := heap_alloc_new w _
  obtain ⟨f0, f1, f2, f3, f4, f5, f6, f7, f8, f9, f10, f11, f12⟩ := pcells17 h1
  exact ⟨f0, f1, f2, f3, f4, f5, f6, f7, f8, f9, f10, f11, f12, below16 w _⟩ : (w.alloc (.cells (plC ⟨aq1, an1, ac1, fq1, fn1, fc1, lq1, ln1, lc1, mq1, mn1, mc1⟩ P).toArray 32)).cell? ⟨w.heap.size, 0, none⟩ = some (.slice aq1 an1 ac1) ∧ (w.alloc (.cells (plC ⟨aq1, an1, ac1, fq1, fn1, fc1, lq1, ln1, lc1, mq1, mn1, mc1⟩ P).toArray 32)).cell? ⟨w.heap.size, 1, none⟩ = some (.int .u8 (P.fl.1 : Nat)) ∧ (w.alloc (.cells (plC ⟨aq1, an1, ac1, fq1, fn1, fc1, lq1, ln1, lc1, mq1, mn1, mc1⟩ P).toArray 32)).cell? ⟨w.heap.size, 2, none⟩ = some (.slice fq1 fn1 fc1) ∧ (w.alloc (.cells (plC ⟨aq1, an1, ac1, fq1, fn1, fc1, lq1, ln1, lc1, mq1, mn1, mc1⟩ P).toArray 32)).cell? ⟨w.heap.size, 3, none⟩ = some (.int .u32 (P.dn : Nat)) ∧ (w.alloc (.cells (plC ⟨aq1, an1, ac1, fq1, fn1, fc1, lq1, ln1, lc1, mq1, mn1, mc1⟩ P).toArray 32)).cell? ⟨w.heap.size, 4, none⟩ = some (.int .u8 (P.lg.1 : Nat)) ∧ (w.alloc (.cells (plC ⟨aq1, an1, ac1, fq1, fn1, fc1, lq1, ln1, lc1, mq1, mn1, mc1⟩ P).toArray 32)).cell? ⟨w.heap.size, 5, none⟩ = some (.slice lq1 ln1 lc1) ∧ (w.alloc (.cells (plC ⟨aq1, an1, ac1, fq1, fn1, fc1, lq1, ln1, lc1, mq1, mn1, mc1⟩ P).toArray 32)).cell? ⟨w.heap.size, 6, none⟩ = some (.slice mq1 mn1 mc1) ∧ (w.alloc (.cells (plC ⟨aq1, an1, ac1, fq1, fn1, fc1, lq1, ln1, lc1, mq1, mn1, mc1⟩ P).toArray 32)).cell? ⟨w.heap.size, 7, none⟩ = some (.int .u8 (P.fm : Nat)) ∧ (w.alloc (.cells (plC ⟨aq1, an1, ac1, fq1, fn1, fc1, lq1, ln1, lc1, mq1, mn1, mc1⟩ P).toArray 32)).cell? ⟨w.heap.size, 8, none⟩ = some (.int .u64 (P.sp : Nat)) ∧ (w.alloc (.cells (plC ⟨aq1, an1, ac1, fq1, fn1, fc1, lq1, ln1, lc1, mq1, mn1, mc1⟩ P).toArray 32)).cell? ⟨w.heap.size, 9, none⟩ = some (.bool P.b1) ∧ (w.alloc (.cells (plC ⟨aq1, an1, ac1, fq1, fn1, fc1, lq1, ln1, lc1, mq1, mn1, mc1⟩ P).toArray 32)).cell? ⟨w.heap.size, 10, none⟩ = some (.bool P.b2) ∧ (w.alloc (.cells (plC ⟨aq1, an1, ac1, fq1, fn1, fc1, lq1, ln1, lc1, mq1, mn1, mc1⟩ P).toArray 32)).cell? ⟨w.heap.size, 11, none⟩ = some (.bool P.b3) ∧ (w.alloc (.cells (plC ⟨aq1, an1, ac1, fq1, fn1, fc1, lq1, ln1, lc1, mq1, mn1, mc1⟩ P).toArray 32)).cell? ⟨w.heap.size, 12, none⟩ = some (.bool P.b4) ∧ Below w.heap.size w (w.alloc (.cells (plC ⟨aq1, an1, ac1, fq1, fn1, fc1, lq1, ln1, lc1, mq1, mn1, mc1⟩ P).toArray 32)))
 have keep := hid (fun (V V' : World) (h : V.cell? ⟨w.heap.size, 0, none⟩ = some (.slice aq1 an1 ac1) ∧ V.cell? ⟨w.heap.size, 1, none⟩ = some (.int .u8 (P.fl.1 : Nat)) ∧ V.cell? ⟨w.heap.size, 2, none⟩ = some (.slice fq1 fn1 fc1) ∧ V.cell? ⟨w.heap.size, 3, none⟩ = some (.int .u32 (P.dn : Nat)) ∧ V.cell? ⟨w.heap.size, 4, none⟩ = some (.int .u8 (P.lg.1 : Nat)) ∧ V.cell? ⟨w.heap.size, 5, none⟩ = some (.slice lq1 ln1 lc1) ∧ V.cell? ⟨w.heap.size, 6, none⟩ = some (.slice mq1 mn1 mc1) ∧ V.cell? ⟨w.heap.size, 7, none⟩ = some (.int .u8 (P.fm : Nat)) ∧ V.cell? ⟨w.heap.size, 8, none⟩ = some (.int .u64 (P.sp : Nat)) ∧ V.cell? ⟨w.heap.size, 9, none⟩ = some (.bool P.b1) ∧ V.cell? ⟨w.heap.size, 10, none⟩ = some (.bool P.b2) ∧ V.cell? ⟨w.heap.size, 11, none⟩ = some (.bool P.b3) ∧ V.cell? ⟨w.heap.size, 12, none⟩ = some (.bool P.b4) ∧ Below w.heap.size w V) (b : Below V.heap.size V V') => (by
  obtain ⟨f0, f1, f2, f3, f4, f5, f6, f7, f8, f9, f10, f11, f12, hb⟩ := h
  exact ⟨(b.cell (World.block_lt_of_cell? V _ f0)).trans f0, (b.cell (World.block_lt_of_cell? V _ f1)).trans f1, (b.cell (World.block_lt_of_cell? V _ f2)).trans f2, (b.cell (World.block_lt_of_cell? V _ f3)).trans f3, (b.cell (World.block_lt_of_cell? V _ f4)).trans f4, (b.cell (World.block_lt_of_cell? V _ f5)).trans f5, (b.cell (World.block_lt_of_cell? V _ f6)).trans f6, (b.cell (World.block_lt_of_cell? V _ f7)).trans f7, (b.cell (World.block_lt_of_cell? V _ f8)).trans f8, (b.cell (World.block_lt_of_cell? V _ f9)).trans f9, (b.cell (World.block_lt_of_cell? V _ f10)).trans f10, (b.cell (World.block_lt_of_cell? V _ f11)).trans f11, (b.cell (World.block_lt_of_cell? V _ f12)).trans f12, thn16 hb b⟩ : V'.cell? ⟨w.heap.size, 0, none⟩ = some (.slice aq1 an1 ac1) ∧ V'.cell? ⟨w.heap.size, 1, none⟩ = some (.int .u8 (P.fl.1 : Nat)) ∧ V'.cell? ⟨w.heap.size, 2, none⟩ = some (.slice fq1 fn1 fc1) ∧ V'.cell? ⟨w.heap.size, 3, none⟩ = some (.int .u32 (P.dn : Nat)) ∧ V'.cell? ⟨w.heap.size, 4, none⟩ = some (.int .u8 (P.lg.1 : Nat)) ∧ V'.cell? ⟨w.heap.size, 5, none⟩ = some (.slice lq1 ln1 lc1) ∧ V'.cell? ⟨w.heap.size, 6, none⟩ = some (.slice mq1 mn1 mc1) ∧ V'.cell? ⟨w.heap.size, 7, none⟩ = some (.int .u8 (P.fm : Nat)) ∧ V'.cell? ⟨w.heap.size, 8, none⟩ = some (.int .u64 (P.sp : Nat)) ∧ V'.cell? ⟨w.heap.size, 9, none⟩ = some (.bool P.b1) ∧ V'.cell? ⟨w.heap.size, 10, none⟩ = some (.bool P.b2) ∧ V'.cell? ⟨w.heap.size, 11, none⟩ = some (.bool P.b3) ∧ V'.cell? ⟨w.heap.size, 12, none⟩ = some (.bool P.b4) ∧ Below w.heap.size w V'))
 rw [show plV ⟨aq1, an1, ac1, fq1, fn1, fc1, lq1, ln1, lc1, mq1, mn1, mc1⟩ P = .agg #[.slice aq1 an1 ac1, .int .u8 (P.fl.1 : Nat), .slice fq1 fn1 fc1, .int .u32 (P.dn : Nat), .int .u8 (P.lg.1 : Nat), .slice lq1 ln1 lc1, .slice mq1 mn1 mc1, .int .u8 (P.fm : Nat), .int .u64 (P.sp : Nat), .bool P.b1, .bool P.b2, .bool P.b3, .bool P.b4] from rfl] at HMY ⊢
 obtain ⟨W, hW⟩ : ∃ W, W = w.alloc (.cells #[.slice aq1 an1 ac1, .int .u8 (P.fl.1 : Nat), .slice fq1 fn1 fc1, .int .u32 (P.dn : Nat), .int .u8 (P.lg.1 : Nat), .slice lq1 ln1 lc1, .slice mq1 mn1 mc1, .int .u8 (P.fm : Nat), .int .u64 (P.sp : Nat), .bool P.b1, .bool P.b2, .bool P.b3, .bool P.b4] 32) := ⟨_, rfl⟩
 have S0 : W.cell? ⟨w.heap.size, 0, none⟩ = some (.slice aq1 an1 ac1) ∧ W.cell? ⟨w.heap.size, 1, none⟩ = some (.int .u8 (P.fl.1 : Nat)) ∧ W.cell? ⟨w.heap.size, 2, none⟩ = some (.slice fq1 fn1 fc1) ∧ W.cell? ⟨w.heap.size, 3, none⟩ = some (.int .u32 (P.dn : Nat)) ∧ W.cell? ⟨w.heap.size, 4, none⟩ = some (.int .u8 (P.lg.1 : Nat)) ∧ W.cell? ⟨w.heap.size, 5, none⟩ = some (.slice lq1 ln1 lc1) ∧ W.cell? ⟨w.heap.size, 6, none⟩ = some (.slice mq1 mn1 mc1) ∧ W.cell? ⟨w.heap.size, 7, none⟩ = some (.int .u8 (P.fm : Nat)) ∧ W.cell? ⟨w.heap.size, 8, none⟩ = some (.int .u64 (P.sp : Nat)) ∧ W.cell? ⟨w.heap.size, 9, none⟩ = some (.bool P.b1) ∧ W.cell? ⟨w.heap.size, 10, none⟩ = some (.bool P.b2) ∧ W.cell? ⟨w.heap.size, 11, none⟩ = some (.bool P.b3) ∧ W.cell? ⟨w.heap.size, 12, none⟩ = some (.bool P.b4) ∧ Below w.heap.size w W := by rw [hW]; exact S0
 have Q0 := hid S0
 have HWW := hid hW
 obtain ⟨f0, f1, f2, f3, f4, f5, f6, f7, f8, f9, f10, f11, f12, hb0⟩ := S0
 have HB0 := hid hb0
 have hbt : (!true) = false := rfl
 clear hG ok hP ha hfl hll hm hf1 hl1 hM hW hb0 hlen hnl hfl8 hBB hNA hNN hA0 hA1 hA2 hA3 hA4 hA5 hA6 hA7 hA8 hA9
 go_enter Tryz.func18, Tryz.ntmps18
 go_wp2_with (go_at_call 20; rw [← HWW.out]; ((with_reducible refine (HMY.out W HB0.out).mono ?_); rintro e w1 ⟨rfl, bm⟩))
 have Q1 := hid (keep.out _ _ Q0.out bm)
 have Q2 := hid (keep.out _ _ Q1.out (show Below w1.heap.size w1 w1.drew from (Below.refl _ _).drew))
 obtain ⟨g0, g1, g2, g3, g4, g5, g6, g7, g8, g9, g10, g11, g12, _⟩ := Q1.out
 clear f0 f1 f2 f3 f4 f5 f6 f7 f8 f9 f10 f11 f12
 go_wp2_with fail
 go_region_held3 (fun w' => w'.cell? ⟨w.heap.size, 0, none⟩ = some (.slice aq1 an1 ac1) ∧ w'.cell? ⟨w.heap.size, 1, none⟩ = some (.int .u8 (P.fl.1 : Nat)) ∧ w'.cell? ⟨w.heap.size, 2, none⟩ = some (.slice fq1 fn1 fc1) ∧ w'.cell? ⟨w.heap.size, 3, none⟩ = some (.int .u32 (P.dn : Nat)) ∧ w'.cell? ⟨w.heap.size, 4, none⟩ = some (.int .u8 (P.lg.1 : Nat)) ∧ w'.cell? ⟨w.heap.size, 5, none⟩ = some (.slice lq1 ln1 lc1) ∧ w'.cell? ⟨w.heap.size, 6, none⟩ = some (.slice mq1 mn1 mc1) ∧ w'.cell? ⟨w.heap.size, 7, none⟩ = some (.int .u8 (P.fm : Nat)) ∧ w'.cell? ⟨w.heap.size, 8, none⟩ = some (.int .u64 (P.sp : Nat)) ∧ w'.cell? ⟨w.heap.size, 9, none⟩ = some (.bool P.b1) ∧ w'.cell? ⟨w.heap.size, 10, none⟩ = some (.bool P.b2) ∧ w'.cell? ⟨w.heap.size, 11, none⟩ = some (.bool P.b3) ∧ w'.cell? ⟨w.heap.size, 12, none⟩ = some (.bool P.b4) ∧ Below w.heap.size w w') (first | assumption | exact Q2.out | exact Q1.out | exact keep.out _ _ (by assumption) (by assumption) | exact keep.out _ _ (by assumption) (below16 _ _)) (first
 | (go_at_call 37; ((with_reducible refine (H1.out _ (by assumption : _ ∧ _ ∧ _ ∧ _ ∧ _ ∧ _ ∧ _ ∧ _ ∧ _ ∧ _ ∧ _ ∧ _ ∧ _ ∧ Below _ _ _).2.2.2.2.2.2.2.2.2.2.2.2.2).mono ?_); rintro e x1 ⟨q1, c1, rfl, o1, b1⟩); have O1 := hid (wrd_own o1); clear o1; have L2 := hid (H2.out x1 q1 c1 O1.out))
 | (go_at_call 36; ((with_reducible refine (L2.out).mono ?_); rintro e x2 ⟨q2, c2, rfl, o2, b2⟩); have O2 := hid (wrd_own o2); clear o2)
 | (go_at_call 39; ((with_reducible refine (H3.out _).mono ?_); rintro e x3 ⟨rfl, hx3⟩); have b3 := (show Below x2.heap.size x2 x3 from hx3 ▸ below16 x2 _); have K3 := hid (show x3.cell? ⟨x2.heap.size, 0, none⟩ = some (.string kFiW) from hx3 ▸ (cell_of_row _ x2.heap.size 0 _ _ (0, 0) (heap_alloc_new x2 _)).trans rfl); clear hx3)
 | (go_at_call 81; ((with_reducible refine (H4.out x3 x2.heap.size (by assumption : _ ∧ _ ∧ _ ∧ _ ∧ _ ∧ _ ∧ _ ∧ _ ∧ _ ∧ _ ∧ _ ∧ _ ∧ _ ∧ Below _ _ _).2.2.2.2.2.2.2.2.2.2.2.2.2 K3.out).mono ?_); rintro e x4 ⟨q4, c4, rfl, o4, b4⟩); have O4 := hid (wrd_own o4); clear o4)
 | (go_at_call 40; ((with_reducible refine (H5.out _ (by assumption : _ ∧ _ ∧ _ ∧ _ ∧ _ ∧ _ ∧ _ ∧ _ ∧ _ ∧ _ ∧ _ ∧ _ ∧ _ ∧ Below _ _ _).2.2.2.2.2.2.2.2.2.2.2.2.2).mono ?_); rintro e x5 ⟨q5, c5, rfl, o5, b5⟩); have O5 := hid (wrd_own o5); clear o5)
 | (go_at_call 39; ((with_reducible refine (H6.out _).mono ?_); rintro e x6 ⟨rfl, hx6⟩); have b6 := (show Below x5.heap.size x5 x6 from hx6 ▸ below16 x5 _); have K6 := hid (show x6.cell? ⟨x5.heap.size, 0, none⟩ = some (.string kLoW) from hx6 ▸ (cell_of_row _ x5.heap.size 0 _ _ (0, 0) (heap_alloc_new x5 _)).trans rfl); clear hx6)
 | (go_at_call 81; ((with_reducible refine (H7.out x6 x5.heap.size (by assumption : _ ∧ _ ∧ _ ∧ _ ∧ _ ∧ _ ∧ _ ∧ _ ∧ _ ∧ _ ∧ _ ∧ _ ∧ _ ∧ Below _ _ _).2.2.2.2.2.2.2.2.2.2.2.2.2 K6.out).mono ?_); rintro e x7 ⟨q7, c7, rfl, o7, b7⟩); have O7 := hid (wrd_own o7); clear o7)
 | (go_at_call 41; ((with_reducible refine (H8.out _ (by assumption : _ ∧ _ ∧ _ ∧ _ ∧ _ ∧ _ ∧ _ ∧ _ ∧ _ ∧ _ ∧ _ ∧ _ ∧ _ ∧ Below _ _ _).2.2.2.2.2.2.2.2.2.2.2.2.2).mono ?_); rintro e x8 ⟨q8, c8, rfl, o8, b8⟩); have O8 := hid (wrd_own o8); clear o8)
 | (go_at_call 43; ((with_reducible refine (H9.out _ (by assumption : _ ∧ _ ∧ _ ∧ _ ∧ _ ∧ _ ∧ _ ∧ _ ∧ _ ∧ _ ∧ _ ∧ _ ∧ _ ∧ Below _ _ _).2.2.2.2.2.2.2.2.2.2.2.2.2).mono ?_); rintro e x9 ⟨q9, c9, rfl, o9, b9⟩); have L10 := hid (H10.out x9 (thn16 ((by assumption : _ ∧ _ ∧ _ ∧ _ ∧ _ ∧ _ ∧ _ ∧ _ ∧ _ ∧ _ ∧ _ ∧ _ ∧ _ ∧ Below w.heap.size w x8).2.2.2.2.2.2.2.2.2.2.2.2.2) b9) q9 c9 (flag_nums19 o9)); clear o9)
 | (go_at_call 42; ((with_reducible refine (L10.out).mono ?_); rintro e x10 ⟨q10, c10, rfl, o10, b10⟩); have O10 := hid (wrd_own o10); clear o10; have L11 := hid (H11.out x10 q10 c10 O10.out))
 | (go_at_call 36; ((with_reducible refine (L11.out).mono ?_); rintro e x11 ⟨q11, c11, rfl, o11, b11⟩); have O11 := hid (wrd_own o11); clear o11)
 | (go_at_call 45; ((with_reducible refine (H12.out _).mono ?_); rintro e x12 ⟨q12, c12, rfl, o12, b12⟩); have O12 := hid (wrd_own o12); clear o12)
 | (go_at_call 45; ((with_reducible refine (H13.out _).mono ?_); rintro e x13 ⟨q13, c13, rfl, o13, b13⟩); have O13 := hid (wrd_own o13); clear o13)
 | (go_at_call 45; ((with_reducible refine (H14.out _).mono ?_); rintro e x14 ⟨q14, c14, rfl, o14, b14⟩); have O14 := hid (wrd_own o14); clear o14)
 | (go_at_call 45; ((with_reducible refine (H15.out _).mono ?_); rintro e x15 ⟨q15, c15, rfl, o15, b15⟩); have O15 := hid (wrd_own o15); clear o15; have HZ := hid (show w.heap.size ≤ x15.heap.size from Nat.le_trans (by assumption : _ ∧ _ ∧ _ ∧ _ ∧ _ ∧ _ ∧ _ ∧ _ ∧ _ ∧ _ ∧ _ ∧ _ ∧ _ ∧ Below w.heap.size w x14).2.2.2.2.2.2.2.2.2.2.2.2.2.size b15.size); have G15 := hid (Below.refl x15.heap.size x15); have G14 := hid (thn16 b15 G15.out); have G13 := hid (thn16 b14 G14.out); have G12 := hid (thn16 b13 G13.out); have G11 := hid (thn16 b12 G12.out); have G10 := hid (thn16 b11 G11.out); have G9 := hid (thn16 b10 G10.out); have G8 := hid (thn16 b9 G9.out); have G7 := hid (thn16 b8 G8.out); have G6 := hid (thn16 b7 G7.out); have G5 := hid (thn16 b6 G6.out); have G4 := hid (thn16 b5 G5.out); have G3 := hid (thn16 b4 G4.out); have G2 := hid (thn16 b3 G3.out); have bA := below16 x15 (.cells #[.slice q2 A0.length c2, .slice q4 A1.length c4, .slice q5 A2.length c5, .slice q7 A3.length c7, .slice q8 A4.length c8, .slice q11 A5.length c11, .slice q12 A6.length c12, .slice q13 A7.length c13, .slice q14 A8.length c14, .slice q15 A9.length c15] 44); have C16 := hid (show Calls Tryz.prog 35 #[.slice (some ⟨x15.heap.size, 0, none⟩) 10 10] (x15.alloc (.cells #[.slice q2 A0.length c2, .slice q4 A1.length c4, .slice q5 A2.length c5, .slice q7 A3.length c7, .slice q8 A4.length c8, .slice q11 A5.length c11, .slice q12 A6.length c12, .slice q13 A7.length c13, .slice q14 A8.length c14, .slice q15 A9.length c15] 44)) (fun e w' => OutS (x15.alloc (.cells #[.slice q2 A0.length c2, .slice q4 A1.length c4, .slice q5 A2.length c5, .slice q7 A3.length c7, .slice q8 A4.length c8, .slice q11 A5.length c11, .slice q12 A6.length c12, .slice q13 A7.length c13, .slice q14 A8.length c14, .slice q15 A9.length c15] 44)) BB.flatten e w') from HCC.out x15 q2 c2 q4 c4 q5 c5 q7 c7 q8 c8 q11 c11 q12 c12 q13 c13 q14 c14 q15 c15 (O2.out.on G2.out) (O4.out.on G4.out) (O5.out.on G5.out) (O7.out.on G7.out) (O8.out.on G8.out) (O11.out.on G11.out) (O12.out.on G12.out) (O13.out.on G13.out) (O14.out.on G14.out) (O15.out.on G15.out)))
 | (go_at_call 35; ((with_reducible refine (C16.out).mono ?_); rintro e x16 ⟨q16, c16, rfl, o16, b16⟩)))
 all_goals
  go_wp2_with fail
  go_ret2
  exact ⟨q16, c16, by first | rfl | (rw [List.length_flatten]; rfl), owns_low16 o16 (by rw [World.size_alloc]; exact Nat.le_succ_of_le HZ.out), (by assumption : _ ∧ _ ∧ _ ∧ _ ∧ _ ∧ _ ∧ _ ∧ _ ∧ _ ∧ _ ∧ _ ∧ _ ∧ _ ∧ Below w.heap.size w x16).2.2.2.2.2.2.2.2.2.2.2.2.2⟩
end Go.Proofs.YtlenjfodjkhpmaaGreatDoor
