/- The statement InsnPieces holds: the bytes of two programs, one behind the other, are those of both, and one that is otherwise has other bytes. No condition. -/
import Derived.Test.YtekmbhjdacaphaaDoorRows
import Derived.Test.YtekmbhjdacaphaaDoorCards
import Derived.Test.YtekmbhjdacaphaaDoorTie
import Derived.SevenTiedAt
import Derived.Test.YtekmbhjdacaphaaDoorFr
import Derived.Test.YtekmbhjdacaphaaDoorLw
import Derived.Test.YtekmbhjdacaphaaDoorIt
import Derived.Test.YtekmbhjdacaphaaDoorFi
import Derived.Deep.RegionLaw
import Derived.Deep.Cut
namespace Go.Proofs.YtekmbhjdacaphaaDoor.insnPieces
open Go.ChangeShapes Go.WideShapes Go.ChangeAt Go.RowKit
open Go.ChangeMaps (open_string shut_string)
set_option linter.unusedVariables false
attribute [local go_sem ↓] Go.wp_at_zero Go.wp_at_succ

theorem keepS {v w' : World} {p : Addr} {u : Value} (hb : Below v.heap.size v w') (h : v.cell? p = some u) : w'.cell? p = some u := (hb.cell (World.block_lt_of_cell? v p h)).trans h
theorem own_far {w w' : World} {B n size : Nat} {e : TypeId} {v : Value} {xs : List Value} {g : Nat} (h : w.ownsRow B e size v n xs) (hg : w.grownBy w' (some g)) (hlt : g < B) : w'.ownsRow B e size v n xs := by
  have hl := h.lt
  obtain ⟨h1, h2⟩ := h
  refine ⟨h1, ?_⟩
  rcases h2 with h2 | ⟨g', cap, cur, hv, hg', hh, r⟩
  · exact Or.inl h2
  · exact Or.inr ⟨g', cap, cur, hv, hg', by rw [hg.block g' (hl g' (by rw [hv]; rfl)).2 (fun e => by injection e with e; omega)]; exact hh, r⟩
theorem keepB {v w' : World} {B : Nat} {p : Addr} {u : Value} (hb : Below B v w') (hp : p.block < B) (h : v.cell? p = some u) : w'.cell? p = some u := (hb.cell hp).trans h
theorem at_news {w : World} {B : Nat} {p : Option Addr} {l : List Ins} (h : RdI w B p l) : ∀ ad, p = some ad → ∀ j u, (progC l)[j]? = some u → w.cell? (ad.add j) = some u := by
  intro ad he j u hu
  have hn : 0 < l.length := by
    rcases Nat.eq_zero_or_pos l.length with h0 | h0
    · obtain rfl : l = [] := List.eq_nil_of_length_eq_zero h0
      simp [progC] at hu
    · exact h0
  obtain ⟨ad', he', hc⟩ := h.news hn
  rw [he] at he'
  injection he' with he'
  subst he'
  exact hc j u hu
theorem none_len {w : World} {B n c : Nat} {p : Option Addr} {l : List Ins} (h : RdI w B p l) (hl : l.length = n) (hp : p = none → c = 0) : p = none → n = 0 ∧ c = 0 := by
  intro he
  refine ⟨?_, hp he⟩
  rcases Nat.eq_zero_or_pos l.length with h0 | h0
  · omega
  · obtain ⟨ad', he', hc⟩ := h.news h0
    rw [he] at he'; cases he'
theorem same_eq {l m : List Ins} (h : OkL l) (k : OkL m) : (sameI l m == sameB (progB l) (progB m)) = true := by
  by_cases e : l = m
  · subst e; rw [sameI_true rfl, sameB_self]; rfl
  · rw [sameI_false e, sameB_false (fun e' => e (progB_inj h k e'))]; rfl
theorem step_append_fits {P : Program} {ops : Array Oper} {o : Oper} {a : Act} {w : World} {K : Act → World → Prop} {Q : Exit → Act → World → Prop} {E : Prop}
    (hg : o.guard = none) (s x : Operand) (t : TypeId) (hop : o.op = Op.call { callee := Callee.builtin Builtin.append, args := #[s, x], argTypes := #[t, t] })
    (base : Nat) (e : TypeId) (i : TypeInfo) (size : Nat) (h1 : P.underlying t = some (.slice e)) (h2 : P.info? e = some i) (h4 : i.size = size)
    (g k cap : Nat) (xs : List Value) (hs : a.eval s = .slice (some ⟨g, 0, none⟩) k cap) (hown : w.ownsRow base e size (.slice (some ⟨g, 0, none⟩) k cap) k xs) (ad : Addr) (m c : Nat) (news : List Value) (hx : a.eval x = .slice (some ad) m c) (hn : news.length = m * size)
    (hc : ∀ j u, news[j]? = some u → w.cell? (ad.add j) = some u) (h1c : ∀ u ∈ news, u.oneCell' = true) (b1 : k + m ≤ cap)
    (hK : ∀ w', w'.ownsRow base e size (.slice (some ⟨g, 0, none⟩) (k + m) cap) (k + m) (xs ++ news) → w.grownBy w' (some g) → K (a.put o.dst (.slice (some ⟨g, 0, none⟩) (k + m) cap)) w') :
    if Region.wanted o (yielded ops a.tmps) = true then Oper.wp P o a w K Q else E := by
  have hw : Region.wanted o (yielded ops a.tmps) = true := by simp [Region.wanted, hg]
  rw [if_pos hw]
  obtain ⟨w', hrun, r1, r2⟩ := run_append_fits (P := P) w base t o.type e i size h1 h2 h4 g k cap xs hown ad m c news hn hc h1c b1
  unfold Oper.wp
  simp [execOp, hop, resolve, invoke, builtin, hs, hx, hrun, Result.andThen]
  exact hK w' r1 r2
set_option maxRecDepth 100000 in
set_option maxHeartbeats 16000000 in
theorem small (HC : InsnC) (a0 : Option Addr) (len0 cap0 : Nat) (z0 : List Ins) (a1 : Option Addr) (len1 cap1 : Nat) (z1 : List Ins) (a2 : Ins) (w : World) (hG : GW w) (w0 : IsInsns w a0 len0 cap0 z0) (w1 : IsInsns w a1 len1 cap1 z1) (w2 : a2.Ok) (hs0 : ¬ (100 : Int) < len0) (hs1 : ¬ (100 : Int) < len1) :
    Calls Tryd.prog 6 #[.slice a0 len0 cap0, .slice a1 len1 cap1, .agg #[.int .u16 a2.c, .int .u8 a2.jt, .int .u8 a2.jf, .int .u32 a2.k]] w fun e w' => e = .returned (.bool true) ∧ Below w.heap.size w w' := by
  obtain ⟨hz, hok, hfit, hmost, hr, hnil⟩ := w0
  obtain ⟨kz, kok, kfit, kmost, kr, knil⟩ := w1
  obtain ⟨i0, ki, kz0, kz1, kz2⟩ := info_parts insn_info
  have KI := Lib.hid ki
  have K0 := Lib.hid kz0
  have K1 := Lib.hid kz1
  have km : i0.bytes * (len0 + len1 + 1) ≤ 281474976710656 := by rw [kz2]; omega
  have kc : len0 + len1 + 1 ≤ maxLen := by unfold maxLen; omega
  have l0 : len0 ≤ 100 := by omega
  have l1 : len1 ≤ 100 := by omega
  have HA := Lib.hid (fun W hG => awake2_any HC W hG)
  have R0 := Lib.hid hr
  have R1 := Lib.hid kr
  have N0 := Lib.hid (none_len hr hz hnil)
  have N1 := Lib.hid (none_len kr kz knil)
  have L0 := Lib.hid (show (progC z0).length = len0 * 4 by rw [progC_length, hz])
  have L1 := Lib.hid (show (progC z1).length = len1 * 4 by rw [progC_length, kz])
  have ok2 : OkL (z0 ++ z1) := fun x hx => (List.mem_append.1 hx).elim (hok x) (kok x)
  have ok3 : OkL (z0 ++ z1 ++ [a2]) := fun x hx => by
    rcases List.mem_append.1 hx with hx | hx
    · exact ok2 x hx
    · rw [List.mem_singleton.1 hx]; exact w2
  have HPa := Lib.hid (fun W h => HC.print_ a0 len0 cap0 z0 W hz hok (by omega) hfit hmost hnil h)
  have HPb := Lib.hid (fun W h => HC.print_ a1 len1 cap1 z1 W kz kok (by omega) kfit kmost knil h)
  have HPc := Lib.hid (fun g C W h1 h2 h => HC.print_ (some ⟨g, 0, none⟩) (len0 + len1) C (z0 ++ z1) W (by rw [List.length_append, hz, kz]) ok2 (by omega) h1 h2 (fun h => by cases h) h)
  have HPd := Lib.hid (fun g C W h1 h2 h => HC.print_ (some ⟨g, 0, none⟩) (len0 + len1 + 1) C (z0 ++ z1 ++ [a2]) W (by simp [hz, kz]; omega) ok3 (by omega) h1 h2 (fun h => by cases h) h)
  have HE := Lib.hid (fun W => HC.encode a2 W w2)
  have HS := Lib.hid (fun W h1 h2 => HC.same a0 a1 len0 cap0 len1 cap1 z0 z1 W hz kz hok kok (by omega) (by omega) h1 h2)
  have P0 := Lib.hid (show (progB z0).length = 8 * len0 by rw [progB_length, hz])
  have P1 := Lib.hid (show (progB z1).length = 8 * len1 by rw [progB_length, kz])
  have P2 := Lib.hid (show (progB (z0 ++ z1)).length = 8 * (len0 + len1) by rw [progB_length, List.length_append, hz, kz])
  have P3 := Lib.hid (show (progB (z0 ++ z1 ++ [a2])).length = 8 * (len0 + len1 + 1) by rw [progB_length]; simp [hz, kz]; omega)
  have Y0 := Lib.hid (progB_byt hok)
  have Y1 := Lib.hid (progB_byt kok)
  have Y2 := Lib.hid (progB_byt ok2)
  have Y3 := Lib.hid (progB_byt ok3)
  have SE := Lib.hid (same_eq hok kok)
  clear hz hok hr hnil kz kok kr knil ok2 ok3 ki kz0 kz1 kz2 hfit kfit hmost kmost w2 HC
  obtain ⟨ci, ti, fi, xi⟩ := a2
  go_enter Tryd.func6, Tryd.ntmps6
  go_wp2_with (first
    | (go_at_call 16; (with_reducible refine (HA.out _ (hG.alloc _)).mono ?_); rintro e v1 ⟨rfl, b1⟩; have x0 := box_cells b1 0 (.int .u16 ci) rfl; have x1 := box_cells b1 1 (.int .u8 ti) rfl; have x2 := box_cells b1 2 (.int .u8 fi) rfl; have x3 := box_cells b1 3 (.int .u32 xi) rfl; have z1' : w.heap.size < v1.heap.size := (by have := b1.size; simp at this; omega); have B1 : Below w.heap.size w v1 := ((Below.refl _ _).alloc (Nat.le_refl _) _).trans (b1.mono (by simp)); clear b1)
    | ((with_reducible show wpList _ _ _ (⟨some 32, _, _, _, _, _⟩ :: _) _ _)
       refine wpList_make_own _ rfl _ _ 33 rfl v1.heap.size 47 i0 _ 4 Tryd.underlying33 KI.out K0.out K1.out .i64 .i64 ((len0 : Int) + (len1 : Int) + 1) (len0 + len1 + 1) rfl rfl (by omega) km kc (Nat.le_refl _) ?_
       intro v2 o2 g2
       have b2 : Below v1.heap.size v1 v2 := (Below.refl _ _).grown g2 (Nat.le_refl _) (by intro k hk; cases hk)
       have B2 := thn B1 b2
       replace x0 := keepB b2 z1' x0
       replace x1 := keepB b2 z1' x1
       replace x2 := keepB b2 z1' x2
       replace x3 := keepB b2 z1' x3)
    | ((with_reducible show wpList _ _ _ (⟨some 35, _, _, _, _, _⟩ :: _) _ _)
       refine wpList_append_fits_any _ rfl (.tmp 33) (.tmp 34) 33 rfl v1.heap.size 47 i0 4 Tryd.underlying33 KI.out K1.out v1.heap.size 0 (len0 + len1 + 1) [] rfl o2 a0 len0 cap0 (progC z0) rfl L0.out N0.out (at_news (R0.out.below B2 (Nat.le_refl _))) (progC_one _) (by omega) ?_
       intro v3 o3 g3
       rw [Nat.zero_add, List.nil_append] at o3
       have b3 : Below v1.heap.size v2 v3 := (Below.refl _ _).grown g3 b2.size (by intro k hk; cases hk; exact Nat.le_refl _)
       have B3 := B2.trans (b3.mono B1.size)
       replace x0 := keepB b3 z1' x0
       replace x1 := keepB b3 z1' x1
       replace x2 := keepB b3 z1' x2
       replace x3 := keepB b3 z1' x3)
    | ((with_reducible show wpList _ _ _ (⟨some 38, _, _, _, _, _⟩ :: _) _ _)
       refine wpList_append_fits_any _ rfl (.tmp 36) (.tmp 37) 33 rfl v1.heap.size 47 i0 4 Tryd.underlying33 KI.out K1.out v1.heap.size len0 (len0 + len1 + 1) (progC z0) rfl o3 a1 len1 cap1 (progC z1) rfl L1.out N1.out (at_news (R1.out.below B3 (Nat.le_refl _))) (progC_one _) (by omega) ?_
       intro v4 o4 g4
       rw [← progC_app] at o4
       have b4 : Below v1.heap.size v3 v4 := (Below.refl _ _).grown g4 (Nat.le_trans b2.size b3.size) (by intro k hk; cases hk; exact Nat.le_refl _)
       have B4 := B3.trans (b4.mono B1.size)
       have hz4 : v1.heap.size < v4.heap.size := (o4.lt v1.heap.size rfl).2
       replace x0 := keepB b4 z1' x0
       replace x1 := keepB b4 z1' x1
       replace x2 := keepB b4 z1' x2
       replace x3 := keepB b4 z1' x3)
    | (go_at_call 17; (with_reducible refine (HPa.out _ ((R0.out.below B4 (Nat.le_refl _)).more B4.size)).mono ?_); rintro e v5 ⟨q5, d5, rfl, o5, b5⟩; have B5 := thn B4 b5; have o45 := own_on o4 b5; replace x0 := keepS b5 x0; replace x1 := keepS b5 x1; replace x2 := keepS b5 x2; replace x3 := keepS b5 x3)
    | (go_at_call 17; (with_reducible refine (HPb.out _ ((R1.out.below B5 (Nat.le_refl _)).more B5.size)).mono ?_); rintro e v6 ⟨q6, d6, rfl, o6, b6⟩; have B6 := thn B5 b6; have o46 := own_on o45 b6; have o56 := own_on o5 b6; replace x0 := keepS b6 x0; replace x1 := keepS b6 x1; replace x2 := keepS b6 x2; replace x3 := keepS b6 x3)
    | (go_at_call 17; (with_reducible refine (HPc.out _ _ _ (by omega) kc (own_shapeI' o46).1).mono ?_); rintro e v7 ⟨q7, d7, rfl, o7, b7⟩; have B7 := thn B6 b7; have o47 := own_on o46 b7; have o57 := own_on o56 b7; have o67 := own_on o6 b7; replace x0 := keepS b7 x0; replace x1 := keepS b7 x1; replace x2 := keepS b7 x2; replace x3 := keepS b7 x3)
    | (at_builtin
       refine wpList_append_fits _ rfl (.tmp 54) (.tmp 56) 33 rfl v1.heap.size 47 i0 4 Tryd.underlying33 KI.out K1.out v1.heap.size (len0 + len1) (len0 + len1 + 1) (progC (z0 ++ z1)) rfl (o47.alloc _) ⟨v7.heap.size, 0, none⟩ 1 1 (insC ⟨ci, ti, fi, xi⟩) rfl rfl (news_lit v7 _ _ _ rfl) (insC_one _) (by omega) ?_
       intro v8 o8 g8
       rw [show progC (z0 ++ z1) ++ insC ⟨ci, ti, fi, xi⟩ = progC (z0 ++ z1 ++ [⟨ci, ti, fi, xi⟩]) by rw [progC_app (z0 ++ z1)]; rfl] at o8
       have B8 : Below w.heap.size w v8 := (B7.alloc B7.size _).grown g8 (by have := B7.size; simp; omega) (by intro k hk; cases hk; exact B1.size)
       have b8 : Below v1.heap.size v7 v8 := ((Below.refl _ _).alloc (Nat.le_of_lt (o47.lt v1.heap.size rfl).2) _).grown g8 (by have := (o47.lt v1.heap.size rfl).2; simp; omega) (by intro k hk; cases hk; exact Nat.le_refl _)
       have h5 := Nat.lt_of_lt_of_le hz4 b5.size
       have o58 := own_far (o57.alloc _) g8 hz4
       have o68 := own_far (o67.alloc _) g8 h5
       have o78 := own_far (o7.alloc _) g8 (Nat.lt_of_lt_of_le h5 b6.size)
       replace x0 := keepB b8 z1' x0
       replace x1 := keepB b8 z1' x1
       replace x2 := keepB b8 z1' x2
       replace x3 := keepB b8 z1' x3)
    | (go_at_call 17; (with_reducible refine (HPd.out _ _ _ (by omega) kc (own_shapeI' o8).1).mono ?_); rintro e v9 ⟨q9, d9, rfl, o9, b9⟩; have B9 := thn B8 b9; obtain ⟨r5, n5, _⟩ := own_shape' (own_on o58 b9); obtain ⟨r6, n6, _⟩ := own_shape' (own_on o68 b9); obtain ⟨r7, n7, _⟩ := own_shape' (own_on o78 b9); obtain ⟨r9, n9, _⟩ := own_shape' o9; replace x0 := keepS b9 x0; replace x1 := keepS b9 x1; replace x2 := keepS b9 x2; replace x3 := keepS b9 x3; clear o9 o8 o58 o68 o78 b9 b8 g8 g4 g3 g2 b2 b3 b4 b5 b6 b7 o2 o3 o4 o5 o6 o7 o45 o46 o47 o56 o57 o67 B1 B2 B3 B4 B5 B6 B7 B8)
    | (go_at_call 21; (with_reducible refine (Cat_two r5 r6 P0.out P1.out n5 n6 (k := 8 * (len0 + len1)) (by omega) (by omega)).mono ?_); rintro e v10 ⟨g10, rfl, r10, b10⟩; have B10 := thn B9 b10; have s5 := r5.on b10; have s6 := r6.on b10; have s7 := r7.on b10; have s9 := r9.on b10; replace x0 := keepS b10 x0; replace x1 := keepS b10 x1; replace x2 := keepS b10 x2; replace x3 := keepS b10 x3; clear r5 r6 r7 r9 B9 b10)
    | (go_at_call 20; (with_reducible refine (Same_yes _ _ (8 * (len0 + len1)) _ _ _ _ (progB (z0 ++ z1)) (progB z0 ++ progB z1) _ (progB_app z0 z1) P2.out Y2.out s7 r10).mono ?_); rintro e v10' ⟨rfl, rfl⟩; clear r10)
    | (go_at_call 22; (with_reducible refine (HE.out _).mono ?_); rintro e v11 ⟨q11, d11, rfl, o11, b11⟩; have B11 := thn B10 b11; obtain ⟨r11, n11, _⟩ := own_shape' o11; have t5 := s5.on b11; have t6 := s6.on b11; have t7 := s7.on b11; have t9 := s9.on b11; clear s5 s6 s7 s9 B10 o11 b11 x0 x1 x2 x3)
    | (go_at_call 21; (with_reducible refine (Cat_two t7 r11 P2.out (encL_length _) n7 n11 (k := 8 * (len0 + len1 + 1)) (by omega) (by omega)).mono ?_); rintro e v12 ⟨g12, rfl, r12, b12⟩; have B12 := thn B11 b12; have u5 := t5.on b12; have u6 := t6.on b12; have u9 := t9.on b12; clear t5 t6 t7 t9 B11 b12 r11)
    | (go_at_call 20; (with_reducible refine (Same_yes _ _ (8 * (len0 + len1 + 1)) _ _ _ _ (progB (z0 ++ z1 ++ [⟨ci, ti, fi, xi⟩])) (progB (z0 ++ z1) ++ encL ⟨ci, ti, fi, xi⟩) _ (progB_snoc _ _) P3.out Y3.out u9 r12).mono ?_); rintro e v12' ⟨rfl, rfl⟩; clear u9 r12)
    | (go_at_call 19; (with_reducible refine (HS.out _ ((R0.out.below B12 (Nat.le_refl _)).more B12.size) ((R1.out.below B12 (Nat.le_refl _)).more B12.size)).mono ?_); rintro e v13 ⟨rfl, b13⟩; have B13 := thn B12 b13; have y5 := u5.on b13; have y6 := u6.on b13; clear u5 u6 B12 b13)
    | (go_at_call 20; (with_reducible refine (Same_any _ _ _ _ _ _ _ _ (progB z0) (progB z1) _ P0.out P1.out Y0.out Y1.out y5 y6).mono ?_); rintro e v13' ⟨rfl, rfl⟩))
  go_ret
  exact ⟨by first | rfl | (rw [SE.out]; rfl), B13⟩
theorem walk (HC : InsnC) (a0 : Option Addr) (len0 cap0 : Nat) (z0 : List Ins) (a1 : Option Addr) (len1 cap1 : Nat) (z1 : List Ins) (a2 : Ins) (w : World) (hG : GW w) (w0 : IsInsns w a0 len0 cap0 z0) (w1 : IsInsns w a1 len1 cap1 z1) (w2 : a2.Ok) :
    Calls Tryd.prog 6 #[.slice a0 len0 cap0, .slice a1 len1 cap1, .agg #[.int .u16 a2.c, .int .u8 a2.jt, .int .u8 a2.jf, .int .u32 a2.k]] w fun e w' => e = .returned (.bool true) ∧ Below w.heap.size w w' := by
  by_cases h : (100 : Int) < len0 ∨ (100 : Int) < len1
  · have HA := Lib.hid (fun W hG => awake2_any HC W hG)
    clear HC w0 w1 w2
    by_cases h0 : (100 : Int) < len0
    · go_enter Tryd.func6, Tryd.ntmps6
      go_wp2_with (go_at_call 16; (with_reducible refine (HA.out _ (hG.alloc _)).mono ?_); rintro e v1 ⟨rfl, b1⟩)
      go_ret
      exact ⟨rfl, ((Below.refl _ _).alloc (Nat.le_refl _) _).trans (b1.mono (by simp))⟩
    · have h1 : (100 : Int) < len1 := by omega
      go_enter Tryd.func6, Tryd.ntmps6
      go_wp2_with (go_at_call 16; (with_reducible refine (HA.out _ (hG.alloc _)).mono ?_); rintro e v1 ⟨rfl, b1⟩)
      go_ret
      exact ⟨rfl, ((Below.refl _ _).alloc (Nat.le_refl _) _).trans (b1.mono (by simp))⟩
  · exact small HC a0 len0 cap0 z0 a1 len1 cap1 z1 a2 w hG w0 w1 w2 (by omega) (by omega)

set_option maxRecDepth 100000 in
theorem lifted (HC : InsnC) (os : Os) (started : os.Started) (H : Type) (enc : TypeId × Value → H) :
    ReturnsInHanded {} Tryd.checked os 6 .any (fun w args => (Rows.insnPiecesSpec.pre enc Tryd.prog Tryd.f6 [] false w args ∧ laidMetH Tryd.prog listed w) ∧ sizedMet enc Tryd.prog Tryd.f6 (OpenSpec.ofChange Rows.insnPiecesSpec) false w args)
      (Rows.insnPiecesSpec.post enc Tryd.prog Tryd.f6 false true false false) := by
  refine returnsInHanded_of_change_and (C := Tryd.checked) (X := fun w _ => laidMetH Tryd.prog listed w) (fun _ _ _ hh h => h.of_heap hh) ownKnob_none started (by kernel_rfl) Tryd.func6
    (ChangeSpec.witness_shaped (enc := enc) (C := Tryd.checked) (os := os) (X := fun w _ => laidMetH Tryd.prog listed w) false (World.doorLaid Tryd.prog 400 os) #[.slice none 0 0, .slice none 0 0, .agg #[.int .u16 0, .int .u8 0, .int .u8 0, .int .u32 0]] 8 rfl (World.shaped_of_RefB (by kernel_rfl) (by kernel_rfl)) (by kernel_rfl) (by kernel_rfl) (by kernel_rfl) (door_met os _)) ?_
  intro W base args ds gs before hval0 hW _ _ hL _
  have hG : GW W := of_laid hL
  have hval : ∀ (j : Nat) t v, Tryd.f6.params[j]? = some t → args[j]? = some v → Value.okWide Tryd.prog W .any base t v := hval0
  have hW' := hW
  obtain ⟨p, q, hA0, hV, rfl, hfz, hnd⟩ := hW
  have hA : DataW.TrodAll enc Tryd.prog W 0 (fun _ => true) true Tryd.f6.params.toList args.toList ds p := hA0
  rw [Tryd.params6] at hA hval
  obtain ⟨v0, vs0, d0, ds0, p0, q0, hargs, rfl, rfl, h0, r0⟩ := trodAll_cons hA
  obtain ⟨v1, vs1, d1, ds1, p1, q1, rfl, rfl, rfl, h1, r1⟩ := trodAll_cons r0
  obtain ⟨v2, vs2, d2, ds2, p2, q2, rfl, rfl, rfl, h2, r2⟩ := trodAll_cons r1
  obtain ⟨rfl, rfl, rfl⟩ := trodAll_nil r2
  obtain rfl : args = #[v0, v1, v2] := by cases args; simp_all
  obtain ⟨rfl, rfl⟩ := trodVars_none hV
  obtain ⟨a0, len0, cap0, rfl⟩ := okWide_slice Tryd.underlying33 (hval 0 33 v0 rfl rfl)
  have k0 := h0
  have lt0 : ∀ x ∈ p0, x.block < W.heap.size := by obtain ⟨m, hm⟩ := k0; exact DataW.trod_lt m _ _ _ hm
  obtain ⟨z0, w0⟩ := insns_open h0 lt0
  obtain ⟨a1, len1, cap1, rfl⟩ := okWide_slice Tryd.underlying33 (hval 1 33 v1 rfl rfl)
  have k1 := h1
  have lt1 : ∀ x ∈ p1, x.block < W.heap.size := by obtain ⟨m, hm⟩ := k1; exact DataW.trod_lt m _ _ _ hm
  obtain ⟨z1, w1⟩ := insns_open h1 lt1
  have k2 := h2
  have lt2 : ∀ x ∈ p2, x.block < W.heap.size := by obtain ⟨m, hm⟩ := k2; exact DataW.trod_lt m _ _ _ hm
  obtain ⟨a2, w2, rfl⟩ := insn_open (hval 2 47 v2 rfl rfl) h2
  clear hA0 hval0
  refine (walk HC a0 len0 cap0 z0 a1 len1 cap1 z1 a2 W hG w0 w1 w2).mono fun e W' ⟨he, bel⟩ => ?_
  subst he
  exact ⟨_, rfl, _, _, _, [], _, [], hW', trodAll_mk1 (shut_bool Tryd.underlying4 _), (trodAll_cons_mk (Below.trod laidOut (by kernel_rfl) (of_decide_eq_true (by kernel_rfl)) k0 bel lt0) (trodAll_cons_mk (Below.trod laidOut (by kernel_rfl) (of_decide_eq_true (by kernel_rfl)) k1 bel lt1) (trodAll_cons_mk (Below.trod laidOut (by kernel_rfl) (of_decide_eq_true (by kernel_rfl)) k2 bel lt2) trodAll_mk0))), rfl, bel.frame _, fun h => by cases h⟩

theorem over (HC : InsnC) : Rows.insnPiecesRow.holds Tryd.pinned (OpenSpec.ofChange Rows.insnPiecesSpec) :=
  OpenClaim.holds_of_wide 6 Tryd.f6 rfl rfl rfl rfl rfl rfl rfl ⟨rfl, rfl, rfl, rfl, rfl⟩ rfl rfl rfl rfl rfl (by kernel_rfl) Tryd.func6 (by kernel_rfl)
    (of_decide_eq_true (by kernel_rfl)) (by unfold Func.isWrapper; first | (rw [if_pos (by decide +kernel)]; kernel_rfl) | (rw [if_neg (by decide +kernel)]; exact ⟨rfl, rfl⟩))
    (fun os started H enc _ => lifted HC os started H enc)

/-- The row's statement. -/
theorem row_holds : Rows.InsnPiecesSaid := over insnC
/-- The statement: the row, its table tied to the program's text. -/
theorem proved : Rows.InsnPiecesCardSaid :=
  Claim7.holds_tied_plain_at .later [] [.data] true Rows.insnPiecesCard.stood.harness Rows.insnPiecesCard.stood.looks
    row_holds (fun _ h => by cases h) (by kernel_rfl) (fun _ h => by cases h) insnPieces_row_tie rfl ⟨rfl, rfl⟩ (by kernel_rfl) rfl
    (fun f fn hf hfn => by
      obtain rfl : f = 6 := Option.some.inj ((show Tryd.prog.funcNamed "vestibule/vestibulelaw02.InsnPieces" = some 6 by kernel_rfl).symm.trans hf) |>.symm
      obtain rfl : fn = Tryd.f6 := (Option.some.inj (Tryd.func6.symm.trans hfn)).symm
      exact ⟨by kernel_rfl, fun j t ht => by
        have hm : t ∈ Tryd.f6.params.toList := by simpa using Array.mem_of_getElem? ht
        have hall : (Tryd.f6.params.toList.all fun u => !Tryd.prog.wantsStandIn u) = true := by kernel_rfl
        exact (show Tryd.prog.wantsStandIn t = false by simpa using List.all_eq_true.1 hall t hm)⟩)
    (by kernel_rfl)
#print axioms proved

end Go.Proofs.YtekmbhjdacaphaaDoor.insnPieces
